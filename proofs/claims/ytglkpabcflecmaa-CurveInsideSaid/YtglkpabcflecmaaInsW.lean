/- The walk of the law CurveInside. -/
import Derived.Test.YtglkpabcflecmaaMvdW
import Derived.Test.YtglkpabcflecmaaInsM
import Derived.StillTailTactics
namespace Go.Proofs.Ytglkpabcflecmaa
open Go.RowKit Go.Shelf

theorem Stps.pre {w : World} {A : Option Addr} {m k : Nat} {S : Nat → Int} (h : Stps w A m S) (hk : k ≤ m) : Stps w A k S := fun h0 => by
  obtain ⟨b, off, e, hp⟩ := h (by omega)
  exact ⟨b, off, e, fun i hi => hp i (by omega)⟩
theorem kit_one (x y : Int) (B : Option Addr) (m bc : Nat) (S : Nat → Int) (hm : m ≤ 1) : ∃ d, Mid d ∧ d.n = 2 ∧ KitMakes x y B m bc S d := by
  obtain ⟨_, _, hx1, hx2⟩ := tmod_cases x 20001 (by decide)
  obtain ⟨_, _, hy1, hy2⟩ := tmod_cases y 20001 (by decide)
  refine ⟨_, chain_mid m S (by omega) (by omega), ?_, fun W hW => kcur_any x y B m bc S W hW⟩
  show chN m = 2
  unfold chN
  split
  · rfl
  · rw [if_pos (by omega)]; omega
theorem ins_boxes (w : World) (v1 v2 : Array Value) :
    ∃ W0, W0 = ((w.alloc (.cells v1 37)).alloc (.cells v2 37)) ∧ BoxAt W0 w.heap.size 37 v1 ∧ BoxAt W0 (w.heap.size + 1) 37 v2 ∧ Below w.heap.size w W0 := by
  have h1 := BoxAt.new (w.alloc (.cells v1 37)) 37 v2
  simp only [World.size_alloc] at h1
  exact ⟨_, rfl, (BoxAt.new w 37 _).alloc _, h1, ((Below.refl _ w).alloc (Nat.le_refl _) _).alloc (by simp) _⟩

theorem lst_one {W : World} {A : Option Addr} {x : Int} (h : Lst W A [x].length (fun i => [x].getD i 0)) : Lst W A 1 (fun _ => x) := fun _ => by
  obtain ⟨g, e, hi⟩ := h (by simp)
  refine ⟨g, e, fun k hk => ?_⟩
  obtain rfl : k = 0 := by omega
  exact hi 0 (by simp)

set_option maxRecDepth 100000 in
set_option maxHeartbeats 8000000 in
theorem inside_walk (x1 y1 : Int) (B1 : Option Addr) (m1 bc1 : Nat) (S1 : Nat → Int) (x2 y2 : Int) (B2 : Option Addr) (m2 bc2 : Nat) (S2 : Nat → Int) (ha0 hb0 s0 asd : Int) (hm1 : m1 ≤ bc1) (hm2 : m2 ≤ bc2) (w : World) (hS1 : Stps w B1 m1 S1) (hS2 : Stps w B2 m2 S2) :
    Calls Try.prog 14 #[chv x1 y1 B1 m1 bc1, chv x2 y2 B2 m2 bc2, .int .i64 ha0, .int .i64 hb0, .int .i64 s0, .int .i64 asd] w fun e w' => e = .returned (.bool true) ∧ Below w.heap.size w w' := by
  obtain ⟨k1, hk1, hk1'⟩ : ∃ k, (m1 ≤ 1 → k = m1) ∧ (1 < m1 → k = 1) := by
    rcases Nat.lt_or_ge 1 m1 with h | h
    · exact ⟨1, by omega, fun _ => rfl⟩
    · exact ⟨m1, fun _ => rfl, by omega⟩
  obtain ⟨k2, hk2, hk2'⟩ : ∃ k, (m2 ≤ 1 → k = m2) ∧ (1 < m2 → k = 1) := by
    rcases Nat.lt_or_ge 1 m2 with h | h
    · exact ⟨1, by omega, fun _ => rfl⟩
    · exact ⟨m2, fun _ => rfl, by omega⟩
  obtain ⟨a, ma, an, ka⟩ := kit_one x1 y1 B1 k1 bc1 S1 (by omega)
  obtain ⟨b, mb, bn, kb⟩ := kit_one x2 y2 B2 k2 bc2 S2 (by omega)
  obtain ⟨W0, hW0, f1, f2, hB0⟩ := ins_boxes w #[.int .i64 x1, .int .i64 y1, .slice B1 m1 bc1] #[.int .i64 x2, .int .i64 y2, .slice B2 m2 bc2]
  have HS1 := Lib.hid (hS1.pre (k := k1) (by omega))
  have HS2 := Lib.hid (hS2.pre (k := k2) (by omega))
  have KA := Lib.hid ka
  have KB := Lib.hid kb
  have MA := Lib.hid ma
  have MB := Lib.hid mb
  have AN := Lib.hid an
  have BN := Lib.hid bn
  have na : 0 < a.n := by omega
  have nb : 0 < b.n := by omega
  have HK1 := Lib.hid hk1
  have HK1' := Lib.hid hk1'
  have HK2 := Lib.hid hk2
  have HK2' := Lib.hid hk2'
  clear ka kb ma mb hS1 hS2 an bn hk1 hk1' hk2 hk2'
  go_enter Try.func14, Try.ntmps14
  go_upto_region 1 with fail
  rw [← hW0]
  clear hW0
  have k0 : W0.cell? ⟨w.heap.size, 2, none⟩ = some (.slice B1 m1 bc1) := f1.cell 2
  have z0 : W0.frozen? ⟨w.heap.size, 2, none⟩ = false := f1.frozen 2
  have l1 := f1.lt
  go_upto_if 22 with fail
  obtain ⟨bb, hbb⟩ : ∃ z, z = decide ((1 : Int) < (m1 : Int)) := ⟨_, rfl⟩
  rw [← hbb]
  have HBB := Lib.hid hbb
  clear hbb
  go_cut [12] from 23 to 26 (fun v w1 => v = .bool false ∧ BoxAt w1 w.heap.size 37 #[.int .i64 x1, .int .i64 y1, .slice B1 k1 bc1] ∧ BoxAt w1 (w.heap.size + 1) 37 #[.int .i64 x2, .int .i64 y2, .slice B2 m2 bc2] ∧ Below w.heap.size w w1)
  case first =>
    cases bb with
    | true =>
      have h2 := of_decide_eq_true HBB.out.symm
      have e := HK1'.out (by omega)
      have h3 : (1 : Int) ≤ (bc1 : Int) := by omega
      subst e
      go_wp2
      go_meet
      exact ⟨rfl, f1.set 2 _, f2.other (by omega) _ _, hB0.setCell (p := ⟨w.heap.size, 2, none⟩) (Nat.le_refl _) _⟩
    | false =>
      have h2 := of_decide_eq_false HBB.out.symm
      have e := Lib.hid (HK1.out (by omega))
      go_wp2
      go_meet
      rw [e.out]
      exact ⟨rfl, f1, f2, hB0⟩
  case rest =>
    obtain ⟨w1, rfl⟩ : ∃ x : World, x = wc := ⟨_, rfl⟩
    obtain ⟨rfl, g1, g2, hB1⟩ := hcut
    clear k0 z0 l1 f1 f2 hB0 HBB
    have k0 : w1.cell? ⟨w.heap.size + 1, 2, none⟩ = some (.slice B2 m2 bc2) := g2.cell 2
    have z0 : w1.frozen? ⟨w.heap.size + 1, 2, none⟩ = false := g2.frozen 2
    have l1 := g2.lt
    go_upto_if 30 with fail
    obtain ⟨b2, hbb⟩ : ∃ z, z = decide ((1 : Int) < (m2 : Int)) := ⟨_, rfl⟩
    rw [← hbb]
    have HBB := Lib.hid hbb
    clear hbb
    go_cut [12] from 31 to 34 (fun v w2 => v = .bool false ∧ BoxAt w2 w.heap.size 37 #[.int .i64 x1, .int .i64 y1, .slice B1 k1 bc1] ∧ BoxAt w2 (w.heap.size + 1) 37 #[.int .i64 x2, .int .i64 y2, .slice B2 k2 bc2] ∧ Below w.heap.size w w2)
    case first =>
      cases b2 with
      | true =>
        have h2 := of_decide_eq_true HBB.out.symm
        have e := HK2'.out (by omega)
        have h3 : (1 : Int) ≤ (bc2 : Int) := by omega
        subst e
        go_wp2
        go_meet
        exact ⟨rfl, g1.other (by omega) _ _, g2.set 2 _, hB1.setCell (p := ⟨w.heap.size + 1, 2, none⟩) (by simp) _⟩
      | false =>
        have h2 := of_decide_eq_false HBB.out.symm
        have e := Lib.hid (HK2.out (by omega))
        go_wp2
        go_meet
        rw [e.out]
        exact ⟨rfl, g1, g2, hB1⟩
    case rest =>
      obtain ⟨w2, rfl⟩ : ∃ x : World, x = wc := ⟨_, rfl⟩
      obtain ⟨rfl, f1, f2, hB0⟩ := hcut
      clear k0 z0 l1 g1 g2 hB1 HBB
      go_upto_region 5 with fail
      obtain ⟨wr, rfl⟩ : ∃ x : World, x = w2 := ⟨_, rfl⟩
      replace HS1 := Lib.hid (HS1.out.below hB0)
      replace HS2 := Lib.hid (HS2.out.below hB0)
      have k0 : wr.cell? ⟨w.heap.size, 0, none⟩ = some (.int .i64 x1) := f1.cell 0
      have kk1 : wr.cell? ⟨w.heap.size, 1, none⟩ = some (.int .i64 y1) := f1.cell 1
      have kk2 : wr.cell? ⟨w.heap.size, 2, none⟩ = some (.slice B1 k1 bc1) := f1.cell 2
      have k3 : wr.cell? ⟨w.heap.size + 1, 0, none⟩ = some (.int .i64 x2) := f2.cell 0
      have k4 : wr.cell? ⟨w.heap.size + 1, 1, none⟩ = some (.int .i64 y2) := f2.cell 1
      have k5 : wr.cell? ⟨w.heap.size + 1, 2, none⟩ = some (.slice B2 k2 bc2) := f2.cell 2
      have l1 := f1.lt
      have l2 := f2.lt
      clear HK1 HK1' HK2 HK2' hm1 hm2
      go_cut [13, 14] from 35 to 38 (fun v v2 w' => ∃ La Lb ga ca gb cb, v = .pointer (some ⟨La, 0, none⟩) ∧ v2 = .pointer (some ⟨Lb, 0, none⟩) ∧ BoxAt w' La 24 #[.slice (some ⟨ga, 0, none⟩) a.n ca] ∧ BoxAt w' Lb 24 #[.slice (some ⟨gb, 0, none⟩) b.n cb] ∧ Pts w' ga 0 a.n a.X a.Y ∧ Pts w' gb 0 b.n b.X b.Y ∧ Below wr.heap.size wr w' ∧ wr.heap.size ≤ La ∧ wr.heap.size ≤ Lb ∧ wr.heap.size ≤ ga ∧ wr.heap.size ≤ gb)
      case first =>
        go_region_held3 (fun w' => w'.cell? ⟨w.heap.size, 0, none⟩ = some (.int .i64 x1) ∧ w'.cell? ⟨w.heap.size, 1, none⟩ = some (.int .i64 y1) ∧ w'.cell? ⟨w.heap.size, 2, none⟩ = some (.slice B1 k1 bc1) ∧ w'.cell? ⟨w.heap.size + 1, 0, none⟩ = some (.int .i64 x2) ∧ w'.cell? ⟨w.heap.size + 1, 1, none⟩ = some (.int .i64 y2) ∧ w'.cell? ⟨w.heap.size + 1, 2, none⟩ = some (.slice B2 k2 bc2))
          (first | (refine ⟨?_, ?_, ?_, ?_, ?_, ?_⟩ <;> (refine (Below.cell (w := wr) (B := wr.heap.size) ?_ (by assumption)).trans (by assumption); (repeat (first | (with_reducible exact Below.refl _ _) | ((with_reducible refine bset ?_ ?_ _); (first | exact Nat.le_refl _ | omega | (simp; omega) | simp)) | ((with_reducible refine balloc ?_ ?_ _); (first | exact Nat.le_refl _ | omega | (simp; omega) | simp)) | (with_reducible refine Below.drew ?_) | (with_reducible refine below_step ?_ hb4) | (with_reducible refine below_step ?_ hb3))))) | go_keep)
          (first
            | (go_at_call 28; (with_reducible refine Calls.mono (KA.out _ ?_) ?_); (exact HS1.out.below (by (repeat (first | (with_reducible exact Below.refl _ _) | ((with_reducible refine bset ?_ ?_ _); (first | exact Nat.le_refl _ | omega | (simp; omega) | simp)) | ((with_reducible refine balloc ?_ ?_ _); (first | exact Nat.le_refl _ | omega | (simp; omega) | simp)) | (with_reducible refine Below.drew ?_) | (with_reducible refine below_step ?_ hb4) | (with_reducible refine below_step ?_ hb3))))); rintro e w3 ⟨ga, ca, rfl, hPa, hb3, hga⟩; have HPa := Lib.hid hPa; have hlhPa := hPa.lt na; clear hPa; (try simp at hga); have hz3 := hb3.size; (try simp at hz3); obtain ⟨hc3, hf3⟩ := bcell hb3; (try have y1 : wr.heap.size < w3.heap.size := by omega); (try have y2 : wr.heap.size + 1 < w3.heap.size := by omega); (try have y3 : wr.heap.size < w3.heap.size + 1 := by omega); (try have y4 : wr.heap.size + 1 < w3.heap.size + 1 := by omega); (try have y5 : wr.heap.size < w3.heap.size + 1 + 1 := by omega))
            | (go_at_call 28; (with_reducible refine Calls.mono (KB.out _ ?_) ?_); (exact HS2.out.below (by (repeat (first | (with_reducible exact Below.refl _ _) | ((with_reducible refine bset ?_ ?_ _); (first | exact Nat.le_refl _ | omega | (simp; omega) | simp)) | ((with_reducible refine balloc ?_ ?_ _); (first | exact Nat.le_refl _ | omega | (simp; omega) | simp)) | (with_reducible refine Below.drew ?_) | (with_reducible refine below_step ?_ hb4) | (with_reducible refine below_step ?_ hb3))))); rintro e w4 ⟨gb, cb, rfl, hPb, hb4, hgb⟩; have HPb := Lib.hid hPb; have hlhPb := hPb.lt nb; clear hPb; (try simp at hgb); have hz4 := hb4.size; (try simp at hz4); obtain ⟨hc4, hf4⟩ := bcell hb4; (try have x1 : wr.heap.size < w4.heap.size := by omega); (try have x2 : wr.heap.size + 1 < w4.heap.size := by omega); (try have x3 : wr.heap.size < w4.heap.size + 1 := by omega); (try have x4 : wr.heap.size + 1 < w4.heap.size + 1 := by omega); (try have x5 : wr.heap.size < w4.heap.size + 1 + 1 := by omega); (try have x6 : w3.heap.size < w4.heap.size := by omega); (try have x7 : w3.heap.size + 1 < w4.heap.size := by omega); (try have x8 : w3.heap.size < w4.heap.size + 1 := by omega)))
        all_goals go_wp2
        all_goals go_meet
        all_goals (refine ⟨_, _, ga, ca, gb, cb, rfl, rfl, ?_, ?_, ?_, ?_, ?_, (by omega), (by omega), (by omega), by omega⟩)
        all_goals (repeat (first
          | (with_reducible exact HPa.out)
          | (with_reducible exact HPb.out)
          | (with_reducible exact BoxAt.new _ _ _)
          | (with_reducible exact box_new2 _ _ _ _)
          | (with_reducible exact box_new4 _ _ _ _ _)
          | (with_reducible refine box_set1 ?_)
          | (with_reducible refine box_other1 ?_ (by omega))
          | (with_reducible refine box_step ?_ hb4)
          | (with_reducible refine box_step ?_ hb3)
          | (with_reducible refine BoxAt.alloc ?_ _)
          | (with_reducible refine BoxAt.drew ?_)
          | (with_reducible refine pts_set1 ?_ (by omega))
          | (with_reducible refine pts_step1 ?_ na hb4)
          | (with_reducible refine pts_step1 ?_ nb hb4)
          | (with_reducible refine pts_step1 ?_ na hb3)
          | (with_reducible refine pts_step1 ?_ nb hb3)
          | (with_reducible refine pts_alloc1 ?_ na)
          | (with_reducible refine pts_alloc1 ?_ nb)
          | (with_reducible refine pts_drew1 ?_)
          | (with_reducible exact Below.refl _ _)
          | (with_reducible refine bset ?_ ?_ _; (first | exact Nat.le_refl _ | omega | (simp; omega) | simp))
          | (with_reducible refine balloc ?_ ?_ _; (first | exact Nat.le_refl _ | omega | (simp; omega) | simp))
          | (with_reducible refine Below.drew ?_)
          | (with_reducible refine below_step ?_ hb4)
          | (with_reducible refine below_step ?_ hb3)))
      case rest =>
        obtain ⟨w1, rfl⟩ : ∃ x : World, x = wc := ⟨_, rfl⟩
        obtain ⟨La, Lb, ga, ca, gb, cb, rfl, rfl, qa, qb, qpa, qpb, hbw, u1, u2, u3, u4⟩ := hcut
        have HB1 := Lib.hid (below_step hB0 hbw)
        clear k0 kk1 kk2 k3 k4 k5 l1 l2 HS1 HS2 KA KB f1 f2 hB0 hbw u1 u2 u3 u4
        have hm1 := Int.emod_nonneg ha0 (show (4001 : Int) ≠ 0 by omega)
        have hm2 := Int.emod_lt_of_pos ha0 (show (0 : Int) < 4001 by omega)
        have hm3 := Int.emod_nonneg hb0 (show (4001 : Int) ≠ 0 by omega)
        have hm4 := Int.emod_lt_of_pos hb0 (show (0 : Int) < 4001 by omega)
        have HM1 := Lib.hid (fun W => mod64_any ha0 4001 W (by omega) (by omega))
        have HM2 := Lib.hid (fun W => mod64_any hb0 4001 W (by omega) (by omega))
        obtain ⟨ha, hha⟩ : ∃ z, z = ha0 % 4001 := ⟨_, rfl⟩
        obtain ⟨hb, hhb⟩ : ∃ z, z = hb0 % 4001 := ⟨_, rfl⟩
        rw [← hha] at hm1 hm2 HM1
        rw [← hhb] at hm3 hm4 HM2
        clear hha hhb
        go_upto_region 7 with (first
          | (go_at_call 56; (with_reducible refine (HM1.out _).mono ?_); rintro e wm ⟨rfl, rfl⟩)
          | (go_at_call 56; (with_reducible refine (HM2.out _).mono ?_); rintro e wm2 ⟨rfl, rfl⟩))
        have hmid := MA.out
        have lpa := len_pos hmid.good
        have lpb : lenF a ≤ 100000 := by
          unfold lenF
          rw [if_pos (of_good hmid.good)]
          have hn := AN.out
          have h1 := hmid.pc 0 (by omega)
          have h2 : a.st 1 = a.st 0 + a.len 0 := rfl
          have h3 : a.st 0 = 0 := rfl
          rw [hn]
          show a.st 1 ≤ _
          omega
        have HW1 : Hid (∀ W, Below w1.heap.size w1 W → (W.cell? ⟨La, 0, none⟩ = some (.slice (some ⟨ga, 0, none⟩) a.n ca) ∧ W.cell? ⟨Lb, 0, none⟩ = some (.slice (some ⟨gb, 0, none⟩) b.n cb)) ∧ Spots W (some ⟨ga, 0, none⟩) a.n a.X a.Y ∧ Spots W (some ⟨gb, 0, none⟩) b.n b.X b.Y) := Lib.hid (fun W hW => ⟨⟨(box_step qa hW).cell 0, (box_step qb hW).cell 0⟩, fun _ => ⟨ga, 0, rfl, pts_step1 qpa na hW⟩, fun _ => ⟨gb, 0, rfl, pts_step1 qpb nb hW⟩⟩)
        obtain ⟨NA, hNA⟩ : ∃ z, z = lenF a := ⟨_, rfl⟩
        have CA : Hid (∀ W, Below w1.heap.size w1 W → Calls Try.prog 22 #[cv ga 0 a.n ca] W fun e w' => e = .returned (.int .i64 NA) ∧ Below W.heap.size W w') := Lib.hid (fun W hW => by rw [hNA]; exact len_any _ ca a W (HW1.out W hW).2.1)
        rw [← hNA] at lpa lpb
        clear hNA
        have wNA : IntKind.i64.wrap (NA + 1) = NA + 1 := IntWalk.i64_in _ (by omega)
        have HM3 := Lib.hid (fun W => mod64_any s0 (NA + 1) W (by omega) (by omega))
        have hs1 := Int.emod_nonneg s0 (show NA + 1 ≠ 0 by omega)
        have hs2 := Int.emod_lt_of_pos s0 (show 0 < NA + 1 by omega)
        obtain ⟨s, hs⟩ : ∃ z, z = s0 % (NA + 1) := ⟨_, rfl⟩
        rw [← hs] at hs1 hs2 HM3
        have hbd := at_bd hmid.good s
        obtain ⟨vx, hvx⟩ : ∃ z, z = atXF a s := ⟨_, rfl⟩
        obtain ⟨vy, hvy⟩ : ∃ z, z = atYF a s := ⟨_, rfl⟩
        have CAT : Hid (∀ W, Below w1.heap.size w1 W → Calls Try.prog 31 #[cv ga 0 a.n ca, .int .i64 s] W fun e w' => e = .returned (sp vx vy) ∧ Below W.heap.size W w') := Lib.hid (fun W hW => by rw [hvx, hvy]; exact at_any _ ca a s (by omega) (by omega) W (HW1.out W hW).2.1)
        rw [← hvx, ← hvy] at hbd
        have k0 : w1.cell? ⟨La, 0, none⟩ = some (.slice (some ⟨ga, 0, none⟩) a.n ca) := qa.cell 0
        clear hs hvx hvy hmid HM1 HM2 qa qb qpa qpb
        go_cut [15] from 43 to 49 (fun v w' => ∃ Lt, v = .pointer (some ⟨Lt, 0, none⟩) ∧ BoxAt w' Lt 43 #[.int .i64 vx, .int .i64 vy] ∧ Below w1.heap.size w1 w' ∧ w1.heap.size ≤ Lt)
        case first =>
          go_region_held3 (fun w' => w'.cell? ⟨La, 0, none⟩ = some (.slice (some ⟨ga, 0, none⟩) a.n ca))
            (first | (exact (HW1.out _ (by (repeat (first | (with_reducible exact Below.refl _ _) | ((with_reducible refine bset ?_ ?_ _); (first | exact Nat.le_refl _ | omega | (simp; omega) | simp)) | ((with_reducible refine balloc ?_ ?_ _); (first | exact Nat.le_refl _ | omega | (simp; omega) | simp)) | (with_reducible refine Below.drew ?_) | (with_reducible refine below_step ?_ hb4) | (with_reducible refine below_step ?_ hb3))))).1.1) | go_keep)
            (first
              | (go_at_call 22; (with_reducible refine Calls.mono (CA.out _ ?_) ?_); ((repeat (first | (with_reducible exact Below.refl _ _) | ((with_reducible refine bset ?_ ?_ _); (first | exact Nat.le_refl _ | omega | (simp; omega) | simp)) | ((with_reducible refine balloc ?_ ?_ _); (first | exact Nat.le_refl _ | omega | (simp; omega) | simp)) | (with_reducible refine Below.drew ?_) | (with_reducible refine below_step ?_ hb4) | (with_reducible refine below_step ?_ hb3)))); rintro e w3 ⟨rfl, hb3⟩; have hz3 := hb3.size; (try simp at hz3); obtain ⟨hc3, hf3⟩ := bcell hb3; (try have y1 : w1.heap.size < w3.heap.size := by omega); (try have y2 : w1.heap.size ≤ w3.heap.size := by omega))
              | (go_at_call 56; (with_reducible refine (HM3.out _).mono ?_); rintro e wm2 ⟨rfl, rfl⟩)
              | (go_at_call 31; (with_reducible refine Calls.mono (CAT.out _ ?_) ?_); ((repeat (first | (with_reducible exact Below.refl _ _) | ((with_reducible refine bset ?_ ?_ _); (first | exact Nat.le_refl _ | omega | (simp; omega) | simp)) | ((with_reducible refine balloc ?_ ?_ _); (first | exact Nat.le_refl _ | omega | (simp; omega) | simp)) | (with_reducible refine Below.drew ?_) | (with_reducible refine below_step ?_ hb4) | (with_reducible refine below_step ?_ hb3)))); rintro e w4 ⟨rfl, hb4⟩; have hz4 := hb4.size; (try simp at hz4); obtain ⟨hc4, hf4⟩ := bcell hb4; (try have x1 : w1.heap.size < w4.heap.size := by omega); (try have x2 : w1.heap.size ≤ w4.heap.size := by omega)))
          all_goals go_wp2
          all_goals go_meet
          all_goals (refine ⟨_, rfl, ?_, ?_, (by omega)⟩)
          all_goals (repeat (first
            | (with_reducible exact BoxAt.new _ _ _)
            | (with_reducible exact box_new2 _ _ _ _)
            | (with_reducible exact box_new3 _ _ _ _ _ _ _)
            | (with_reducible refine box_set2 ?_)
            | (with_reducible refine box_step ?_ hb4)
            | (with_reducible refine box_step ?_ hb3)
            | (with_reducible refine BoxAt.alloc ?_ _)
            | (with_reducible refine BoxAt.drew ?_)
            | (with_reducible exact Below.refl _ _)
            | (with_reducible refine bset ?_ ?_ _; (first | exact Nat.le_refl _ | omega | (simp; omega) | simp))
            | (with_reducible refine balloc ?_ ?_ _; (first | exact Nat.le_refl _ | omega | (simp; omega) | simp))
            | (with_reducible refine Below.drew ?_)
            | (with_reducible refine below_step ?_ hb4)
            | (with_reducible refine below_step ?_ hb3)))
        case rest =>
          obtain ⟨w5, rfl⟩ : ∃ x : World, x = wc := ⟨_, rfl⟩
          obtain ⟨Lt, rfl, qt, hb5, ht⟩ := hcut
          clear k0 CAT HM3 wNA hs1 hs2
          have t1 := tmod_cases asd 3000 (by decide)
          have t2 := tmod_cases asd 2000 (by decide)
          obtain ⟨d1, hd1⟩ : ∃ z, asd.tmod 3000 = z := ⟨_, rfl⟩
          obtain ⟨d2, hd2⟩ : ∃ z, asd.tmod 2000 = z := ⟨_, rfl⟩
          rw [hd1] at t1
          rw [hd2] at t2
          have p1 : IntKind.i64.wrap (vx + d1) = vx + d1 := IntWalk.i64_in _ (by omega)
          have p2 : IntKind.i64.wrap (vy - d2) = vy - d2 := IntWalk.i64_in _ (by omega)
          clear t1 t2
          have n1 : w5.cell? ⟨Lt, 0, none⟩ = some (.int .i64 vx) := qt.cell 0
          have n2 : w5.cell? ⟨Lt, 1, none⟩ = some (.int .i64 vy) := qt.cell 1
          have n3 : w5.frozen? ⟨Lt, 0, none⟩ = false := qt.frozen 0
          have n4 : w5.frozen? ⟨Lt, 1, none⟩ = false := qt.frozen 1
          have l1 := qt.lt
          go_upto_region 9 with fail
          clear p1 p2 n1 n2 n3 n4 hd1 hd2 hbd
          have q6 := (qt.set 0 (.int .i64 (vx + d1))).set 1 (.int .i64 (vy - d2))
          have hb6 : Below w1.heap.size w1 ((w5.setCell ⟨Lt, 0, none⟩ (.int .i64 (vx + d1))).setCell ⟨Lt, 1, none⟩ (.int .i64 (vy - d2))) := (hb5.setCell (p := ⟨Lt, 0, none⟩) ht _).setCell (p := ⟨Lt, 1, none⟩) ht _
          obtain ⟨px, hpx⟩ : ∃ z, z = vx + d1 := ⟨_, rfl⟩
          obtain ⟨py, hpy⟩ : ∃ z, z = vy - d2 := ⟨_, rfl⟩
          rw [← hpx, ← hpy] at q6 hb6 ⊢
          have q6' : BoxAt ((w5.setCell ⟨Lt, 0, none⟩ (.int .i64 px)).setCell ⟨Lt, 1, none⟩ (.int .i64 py)) Lt 43 #[.int .i64 px, .int .i64 py] := q6
          clear hpx hpy q6 qt hb5 l1 ht
          generalize (w5.setCell ⟨Lt, 0, none⟩ (.int .i64 px)).setCell ⟨Lt, 1, none⟩ (.int .i64 py) = w6 at *
          have HQT := Lib.hid (fun W (hW : Below w6.heap.size w6 W) => box_step q6' hW)
          have HB6 := Lib.hid hb6
          have hml := one_len ha hb AN.out BN.out
          have him := fun h1 h2 => inside_math MA.out.good MB.out.good AN.out BN.out (ha := ha) (hb := hb) (p := px) (q := py) h1 h2
          have CC : Hid (∀ W, Below w1.heap.size w1 W → Calls Try.prog 46 #[cv ga 0 a.n ca, .int .i64 ha, cv gb 0 b.n cb, .int .i64 hb] W (CrsPost (crsF a b ha hb) W)) := Lib.hid (fun W hW => crs_any _ _ ca cb a b ha hb W (HW1.out W hW).2.1 (HW1.out W hW).2.2)
          have CH1 : Hid (∀ W, Below w1.heap.size w1 W → Calls Try.prog 35 #[cv ga 0 a.n ca, .int .i64 ha, sp px py] W fun e w' => e = .returned (.bool (holdF a px py ha)) ∧ Below W.heap.size W w') := Lib.hid (fun W hW => holds_any _ ca a px py ha W (HW1.out W hW).2.1)
          have CH2 : Hid (∀ W, Below w1.heap.size w1 W → Calls Try.prog 35 #[cv gb 0 b.n cb, .int .i64 hb, sp px py] W fun e w' => e = .returned (.bool (holdF b px py hb)) ∧ Below W.heap.size W w') := Lib.hid (fun W hW => holds_any _ cb b px py hb W (HW1.out W hW).2.2)
          have CN1 : Hid (∀ W, Below w1.heap.size w1 W → Calls Try.prog 33 #[cv ga 0 a.n ca, sp px py, .int .i64 ha] W (NearPost (nearF a px py ha) W)) := Lib.hid (fun W hW => near_any _ ca a px py ha W (HW1.out W hW).2.1)
          have CN2 : Hid (∀ W, Below w1.heap.size w1 W → Calls Try.prog 33 #[cv gb 0 b.n cb, sp px py, .int .i64 hb] W (NearPost (nearF b px py hb) W)) := Lib.hid (fun W hW => near_any _ cb b px py hb W (HW1.out W hW).2.2)
          obtain ⟨L, hL⟩ : ∃ z, z = crsF a b ha hb := ⟨_, rfl⟩
          obtain ⟨H1, hH1⟩ : ∃ z, z = holdF a px py ha := ⟨_, rfl⟩
          obtain ⟨H2, hH2⟩ : ∃ z, z = holdF b px py hb := ⟨_, rfl⟩
          obtain ⟨N1, hN1⟩ : ∃ z, z = nearF a px py ha := ⟨_, rfl⟩
          obtain ⟨N2, hN2⟩ : ∃ z, z = nearF b px py hb := ⟨_, rfl⟩
          rw [← hL] at hml CC
          rw [← hH1] at CH1
          rw [← hH2] at CH2
          rw [← hN1] at CN1
          rw [← hN2] at CN2
          rw [← hL, ← hH1, ← hH2, ← hN1, ← hN2] at him
          have HIM := Lib.hid him
          have k0 : w6.cell? ⟨La, 0, none⟩ = some (.slice (some ⟨ga, 0, none⟩) a.n ca) := (HW1.out _ HB6.out).1.1
          have k1 : w6.cell? ⟨Lb, 0, none⟩ = some (.slice (some ⟨gb, 0, none⟩) b.n cb) := (HW1.out _ HB6.out).1.2
          clear hL hH1 hH2 hN1 hN2 him q6'
          have hBx := Below.refl w6.heap.size w6
          go_upto_region 10 with (go_at_call 46; (with_reducible refine (CC.out _ HB6.out).mono ?_); rintro e w7 ⟨v1, rfl, hO1, hb7⟩; obtain ⟨R1, q1, rfl, hq1⟩ := qs_of_own hO1; clear hO1; have HQ1 := Lib.hid hq1; clear hq1; replace hBx := below_step hBx hb7)
          have HB7 := Lib.hid (below_step HB6.out hBx)
          have k3 : w7.cell? ⟨La, 0, none⟩ = some (.slice (some ⟨ga, 0, none⟩) a.n ca) := (HW1.out _ HB7.out).1.1
          have b1 : ¬ (1 : Int) < (L.length : Int) := by omega
          have b2 : (NA == 0) = false := by simp; omega
          clear k0 k1
          go_upto_region 12 with (go_at_call 22; (with_reducible refine (CA.out _ HB7.out).mono ?_); rintro e w8 ⟨rfl, hb8⟩; replace HQ1 := Lib.hid (HQ1.out.below hb8); replace hBx := below_step hBx hb8)
          have HB8 := Lib.hid (below_step HB6.out hBx)
          have k0 : w8.cell? ⟨La, 0, none⟩ = some (.slice (some ⟨ga, 0, none⟩) a.n ca) := (HW1.out _ HB8.out).1.1
          have m0 : w8.cell? ⟨Lt, 0, none⟩ = some (.int .i64 px) := (HQT.out _ hBx).cell 0
          have m1 : w8.cell? ⟨Lt, 1, none⟩ = some (.int .i64 py) := (HQT.out _ hBx).cell 1
          have mz := (HQT.out _ hBx).lt
          clear k3 b1 b2
          cases H1 with
          | false =>
            go_wp2_with (first
              | (go_at_call 35; (with_reducible refine (CH1.out _ HB8.out).mono ?_); rintro e w9 ⟨rfl, hb9⟩; replace hBx := below_step hBx hb9)
              | (go_at_call 18; (with_reducible refine (awake_any _).mono ?_); rintro e w10 ⟨rfl, hb10⟩; replace hBx := below_step hBx hb10))
            go_ret
            exact ⟨rfl, below_step HB1.out (below_step HB6.out hBx)⟩
          | true =>
            cases H2 with
            | false =>
              go_wp2_with (first
                | (go_at_call 35; (with_reducible refine (CH1.out _ HB8.out).mono ?_); rintro e w9 ⟨rfl, hb9⟩; replace hBx := below_step hBx hb9; have HB9 := Lib.hid (below_step HB6.out hBx); have k1 : w9.cell? ⟨Lb, 0, none⟩ = some (.slice (some ⟨gb, 0, none⟩) b.n cb) := (HW1.out _ HB9.out).1.2; have p0 : w9.cell? ⟨Lt, 0, none⟩ = some (.int .i64 px) := (HQT.out _ hBx).cell 0; have p1 : w9.cell? ⟨Lt, 1, none⟩ = some (.int .i64 py) := (HQT.out _ hBx).cell 1; have pz := (HQT.out _ hBx).lt)
                | (go_at_call 35; (with_reducible refine (CH2.out _ HB9.out).mono ?_); rintro e w11 ⟨rfl, hb11⟩; replace hBx := below_step hBx hb11)
                | (go_at_call 18; (with_reducible refine (awake_any _).mono ?_); rintro e w10 ⟨rfl, hb10⟩; replace hBx := below_step hBx hb10))
              go_ret
              exact ⟨rfl, below_step HB1.out (below_step HB6.out hBx)⟩
            | true =>
              obtain ⟨Q, x, y, hL, hN1, hN2, hxy⟩ := HIM.out rfl rfl
              subst hL
              subst hN1
              subst hN2
              go_upto_region 14 with (first
                | (go_at_call 35; (with_reducible refine (CH1.out _ HB8.out).mono ?_); rintro e w9 ⟨rfl, hb9⟩; replace hBx := below_step hBx hb9; replace HQ1 := Lib.hid (HQ1.out.below hb9); have HB9 := Lib.hid (below_step HB6.out hBx); have k1 : w9.cell? ⟨Lb, 0, none⟩ = some (.slice (some ⟨gb, 0, none⟩) b.n cb) := (HW1.out _ HB9.out).1.2; have p0 : w9.cell? ⟨Lt, 0, none⟩ = some (.int .i64 px) := (HQT.out _ hBx).cell 0; have p1 : w9.cell? ⟨Lt, 1, none⟩ = some (.int .i64 py) := (HQT.out _ hBx).cell 1; have pz := (HQT.out _ hBx).lt)
                | (go_at_call 35; (with_reducible refine (CH2.out _ HB9.out).mono ?_); rintro e w11 ⟨rfl, hb11⟩; replace hBx := below_step hBx hb11; replace HQ1 := Lib.hid (HQ1.out.below hb11)))
              have HB11 := Lib.hid (below_step HB6.out hBx)
              have c0 : w11.cell? ⟨La, 0, none⟩ = some (.slice (some ⟨ga, 0, none⟩) a.n ca) := (HW1.out _ HB11.out).1.1
              have c1 : w11.cell? ⟨Lb, 0, none⟩ = some (.slice (some ⟨gb, 0, none⟩) b.n cb) := (HW1.out _ HB11.out).1.2
              have c2 : w11.cell? ⟨Lt, 0, none⟩ = some (.int .i64 px) := (HQT.out _ hBx).cell 0
              have c3 : w11.cell? ⟨Lt, 1, none⟩ = some (.int .i64 py) := (HQT.out _ hBx).cell 1
              have cz := (HQT.out _ hBx).lt
              clear k0 k1 m0 m1 mz p0 p1 pz
              have HX := Lib.hid hBx
              go_cut [17, 18] from 88 to 95 (fun v v2 w' => ∃ A1 A2 c1 c2, v = .slice A1 1 c1 ∧ v2 = .slice A2 1 c2 ∧ Lst w' A1 1 (fun _ => x) ∧ Lst w' A2 1 (fun _ => y) ∧ Qs w' R1 [Q] ∧ Below w6.heap.size w6 w')
              case first =>
                have hBy : Below w11.heap.size w11 w11.drew := (Below.refl _ _).drew
                have hBz := hBx.drew
                have HQ := Lib.hid (HQ1.out.below hBy)
                go_region_held3 (fun w' => w'.cell? ⟨La, 0, none⟩ = some (.slice (some ⟨ga, 0, none⟩) a.n ca) ∧ w'.cell? ⟨Lb, 0, none⟩ = some (.slice (some ⟨gb, 0, none⟩) b.n cb) ∧ w'.cell? ⟨Lt, 0, none⟩ = some (.int .i64 px) ∧ w'.cell? ⟨Lt, 1, none⟩ = some (.int .i64 py))
                  (first | exact ⟨(HW1.out _ (below_step HB6.out hBz)).1.1, (HW1.out _ (below_step HB6.out hBz)).1.2, (HQT.out _ hBz).cell 0, (HQT.out _ hBz).cell 1⟩ | go_keep)
                  (first
                    | (go_at_call 33; (with_reducible refine (CN1.out _ (below_step HB6.out hBz)).mono ?_); rintro e w12 ⟨A1, d1, rfl, hl1, hb12⟩; have HL1 := Lib.hid hl1; clear hl1; replace HQ := Lib.hid (HQ.out.below hb12); replace hBz := below_step hBz hb12)
                    | (go_at_call 33; (with_reducible refine (CN2.out _ (below_step HB6.out hBz)).mono ?_); rintro e w13 ⟨A2, d2, rfl, hl2, hb13⟩; have HL2 := Lib.hid hl2; clear hl2; replace HL1 := Lib.hid (HL1.out.below hb13); replace HQ := Lib.hid (HQ.out.below hb13); replace hBz := below_step hBz hb13))
                all_goals go_wp2
                all_goals go_meet
                all_goals exact ⟨A1, A2, d1, d2, rfl, rfl, lst_one HL1.out, lst_one HL2.out, HQ.out, hBz⟩
              case rest =>
                obtain ⟨w14, rfl⟩ : ∃ x : World, x = wc := ⟨_, rfl⟩
                obtain ⟨A1, A2, d1, d2, rfl, rfl, h1, h2, hq, hb14⟩ := hcut
                obtain ⟨g1, rfl, i1⟩ := h1 (by omega)
                obtain ⟨g2, rfl, i2⟩ := h2 (by omega)
                obtain ⟨g3, rfl, q3, lq⟩ := hq (by simp)
                obtain ⟨Q', hQ', e0, e1, e2, e3⟩ := q3 0 (by simp)
                obtain rfl : Q = Q' := by simpa using hQ'
                have j1 : w14.cell? ⟨g1, 0, none⟩ = some (.int .i64 x) := i1 0 (by omega)
                have j2 : w14.cell? ⟨g2, 0, none⟩ = some (.int .i64 y) := i2 0 (by omega)
                have lg1 := World.block_lt_of_cell? w14 _ j1
                have lg2 := World.block_lt_of_cell? w14 _ j2
                obtain ⟨⟨y1, y2⟩, y3, y4⟩ := hxy
                have z1 : decide (Q.fa ≤ x) = true := decide_eq_true y1
                have z2 : decide (x ≤ Q.ta) = true := decide_eq_true y2
                have z3 : decide (Q.fb ≤ y) = true := decide_eq_true y3
                have z4 : decide (y ≤ Q.tb) = true := decide_eq_true y4
                have HX14 := Lib.hid hb14
                simp only [Nat.zero_mul, Nat.zero_add] at e0 e1 e2 e3
                clear hQ' q3 i1 i2 h1 h2 hq c0 c1 c2 c3 cz hb14
                have hB2 : Below w14.heap.size w14 w14.drew := (Below.refl _ _).drew
                go_upto_region 15 with fail
                go_region_held3 (fun w' => w'.cell? ⟨g1, 0, none⟩ = some (.int .i64 x) ∧ w'.cell? ⟨g2, 0, none⟩ = some (.int .i64 y) ∧ w'.cell? ⟨g3, 0, none⟩ = some (.int .i64 Q.fa) ∧ w'.cell? ⟨g3, 1, none⟩ = some (.int .i64 Q.ta) ∧ w'.cell? ⟨g3, 2, none⟩ = some (.int .i64 Q.fb) ∧ w'.cell? ⟨g3, 3, none⟩ = some (.int .i64 Q.tb))
                  (first | exact ⟨(Below.cell (p := ⟨g1, 0, none⟩) hB2 lg1).trans j1, (Below.cell (p := ⟨g2, 0, none⟩) hB2 lg2).trans j2, (Below.cell (p := ⟨g3, 0, none⟩) hB2 lq).trans e0, (Below.cell (p := ⟨g3, 1, none⟩) hB2 lq).trans e1, (Below.cell (p := ⟨g3, 2, none⟩) hB2 lq).trans e2, (Below.cell (p := ⟨g3, 3, none⟩) hB2 lq).trans e3⟩ | go_keep)
                  (first
                    | (go_at_call 18; (with_reducible refine (awake_any _).mono ?_); rintro e w15 ⟨rfl, hb15⟩; replace hB2 := below_step hB2 hb15))
                all_goals go_wp2
                all_goals go_ret
                all_goals exact ⟨rfl, below_step HB1.out (below_step HB6.out (below_step HX14.out hB2))⟩
end Go.Proofs.Ytglkpabcflecmaa
