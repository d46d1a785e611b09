/- The walk of the law CurveCrosses. -/
import Derived.Test.YtglkpabcflecmaaMvdW
import Derived.Test.YtglkpabcflecmaaInsM
import Derived.Test.YtglkpabcflecmaaCrsM
import Derived.StillTailTactics
namespace Go.Proofs.Ytglkpabcflecmaa
open Go.RowKit Go.Shelf

/-- Whether one of the first ones does. -/
def anyB (p : Quad → Bool) (R : List Quad) (k : Nat) : Bool := (R.take k).any p
theorem anyB_succ (p : Quad → Bool) (R : List Quad) {k : Nat} {q : Quad} (h : R[k]? = some q) : anyB p R (k + 1) = (anyB p R k || p q) := by
  unfold anyB
  rw [List.take_add_one, h, List.any_append]
  simp
theorem anyB_all (p : Quad → Bool) (R : List Quad) {q : Quad} (h : q ∈ R) (hp : p q = true) : anyB p R R.length = true := by
  unfold anyB
  rw [List.take_length]
  exact List.any_eq_true.2 ⟨q, h, hp⟩
def isQ (Q q : Quad) : Bool := decide (q.fa = Q.fb) && decide (q.ta = Q.tb) && decide (q.fb = Q.fa) && decide (q.tb = Q.ta)
def inQ (Q q : Quad) : Bool := decide (q.fa ≤ Q.fa) && decide (Q.ta ≤ q.ta) && decide (q.fb ≤ Q.fb) && decide (Q.tb ≤ q.tb)

theorem ins_boxes (w : World) (v1 v2 : Array Value) :
    ∃ W0, W0 = ((w.alloc (.cells v1 37)).alloc (.cells v2 37)) ∧ BoxAt W0 w.heap.size 37 v1 ∧ BoxAt W0 (w.heap.size + 1) 37 v2 ∧ Below w.heap.size w W0 := by
  have h1 := BoxAt.new (w.alloc (.cells v1 37)) 37 v2
  simp only [World.size_alloc] at h1
  exact ⟨_, rfl, (BoxAt.new w 37 _).alloc _, h1, ((Below.refl _ w).alloc (Nat.le_refl _) _).alloc (by simp) _⟩
theorem below_drewN' {w W : World} (h : Hid (Below w.heap.size w W)) (n : Nat) : Hid (Below w.heap.size w (W.drewN n)) := Lib.hid (below_drewN h.out n)

set_option maxRecDepth 100000 in
set_option maxHeartbeats 8000000 in
theorem crosses_walk (x1 y1 : Int) (B1 : Option Addr) (m1 bc1 : Nat) (S1 : Nat → Int) (x2 y2 : Int) (B2 : Option Addr) (m2 bc2 : Nat) (S2 : Nat → Int) (ha0 hb0 mo0 : Int) (w : World) (hS1 : Stps w B1 m1 S1) (hS2 : Stps w B2 m2 S2) :
    Calls Try.prog 13 #[chv x1 y1 B1 m1 bc1, chv x2 y2 B2 m2 bc2, .int .i64 ha0, .int .i64 hb0, .int .i64 mo0] w fun e w' => e = .returned (.bool true) ∧ Below w.heap.size w w' := by
  obtain ⟨a, ma, ka⟩ := kit_makes x1 y1 B1 m1 bc1 S1
  obtain ⟨b, mb, kb⟩ := kit_makes x2 y2 B2 m2 bc2 S2
  obtain ⟨W0, hW0, f1, f2, hB0⟩ := ins_boxes w #[.int .i64 x1, .int .i64 y1, .slice B1 m1 bc1] #[.int .i64 x2, .int .i64 y2, .slice B2 m2 bc2]
  have HS1 := Lib.hid (hS1.below hB0)
  have HS2 := Lib.hid (hS2.below hB0)
  have KA := Lib.hid ka
  have KB := Lib.hid kb
  have MA := Lib.hid ma
  have MB := Lib.hid mb
  have na : 0 < a.n := by have := ma.good.lo; omega
  have nb : 0 < b.n := by have := mb.good.lo; omega
  clear ka kb ma mb hS1 hS2
  go_enter Try.func13, Try.ntmps13
  go_upto_region 1 with fail
  rw [← hW0]
  clear hW0
  obtain ⟨wr, hwr⟩ : ∃ x : World, x = W0 := ⟨_, rfl⟩
  subst hwr
  have k0 : wr.cell? ⟨w.heap.size, 0, none⟩ = some (.int .i64 x1) := f1.cell 0
  have k1 : wr.cell? ⟨w.heap.size, 1, none⟩ = some (.int .i64 y1) := f1.cell 1
  have k2 : wr.cell? ⟨w.heap.size, 2, none⟩ = some (.slice B1 m1 bc1) := f1.cell 2
  have k3 : wr.cell? ⟨w.heap.size + 1, 0, none⟩ = some (.int .i64 x2) := f2.cell 0
  have k4 : wr.cell? ⟨w.heap.size + 1, 1, none⟩ = some (.int .i64 y2) := f2.cell 1
  have k5 : wr.cell? ⟨w.heap.size + 1, 2, none⟩ = some (.slice B2 m2 bc2) := f2.cell 2
  have l1 := f1.lt
  have l2 := f2.lt
  go_cut [11, 12] from 22 to 25 (fun v v2 w' => ∃ La Lb ga ca gb cb, v = .pointer (some ⟨La, 0, none⟩) ∧ v2 = .pointer (some ⟨Lb, 0, none⟩) ∧ BoxAt w' La 24 #[.slice (some ⟨ga, 0, none⟩) a.n ca] ∧ BoxAt w' Lb 24 #[.slice (some ⟨gb, 0, none⟩) b.n cb] ∧ Pts w' ga 0 a.n a.X a.Y ∧ Pts w' gb 0 b.n b.X b.Y ∧ Below wr.heap.size wr w' ∧ wr.heap.size ≤ La ∧ wr.heap.size ≤ Lb ∧ wr.heap.size ≤ ga ∧ wr.heap.size ≤ gb)
  case first =>
    as_aux_lemma =>
      go_region_held3 (fun w' => w'.cell? ⟨w.heap.size, 0, none⟩ = some (.int .i64 x1) ∧ w'.cell? ⟨w.heap.size, 1, none⟩ = some (.int .i64 y1) ∧ w'.cell? ⟨w.heap.size, 2, none⟩ = some (.slice B1 m1 bc1) ∧ w'.cell? ⟨w.heap.size + 1, 0, none⟩ = some (.int .i64 x2) ∧ w'.cell? ⟨w.heap.size + 1, 1, none⟩ = some (.int .i64 y2) ∧ w'.cell? ⟨w.heap.size + 1, 2, none⟩ = some (.slice B2 m2 bc2))
        (first | (refine ⟨?_, ?_, ?_, ?_, ?_, ?_⟩ <;> (refine (Below.cell (w := wr) (B := wr.heap.size) ?_ (by assumption)).trans (by assumption); (repeat (first | (with_reducible exact Below.refl _ _) | ((with_reducible refine bset ?_ ?_ _); (first | exact Nat.le_refl _ | omega | (simp; omega) | simp)) | ((with_reducible refine balloc ?_ ?_ _); (first | exact Nat.le_refl _ | omega | (simp; omega) | simp)) | (with_reducible refine Below.drew ?_) | (with_reducible refine below_step ?_ hb4) | (with_reducible refine below_step ?_ hb3))))) | go_keep)
        (first
          | (go_at_call 28; (with_reducible refine Calls.mono (KA.out _ ?_) ?_); (exact HS1.out.below (by (repeat (first | (with_reducible exact Below.refl _ _) | ((with_reducible refine bset ?_ ?_ _); (first | exact Nat.le_refl _ | omega | (simp; omega) | simp)) | ((with_reducible refine balloc ?_ ?_ _); (first | exact Nat.le_refl _ | omega | (simp; omega) | simp)) | (with_reducible refine Below.drew ?_) | (with_reducible refine below_step ?_ hb4) | (with_reducible refine below_step ?_ hb3))))); rintro e w3 ⟨ga, ca, rfl, hPa, hb3, hga⟩; have HPa := Lib.hid hPa; have hlhPa := hPa.lt na; clear hPa; (try simp at hga); have hz3 := hb3.size; (try simp at hz3); obtain ⟨hc3, hf3⟩ := bcell hb3; (try have y1 : wr.heap.size < w3.heap.size := by omega); (try have y2 : wr.heap.size + 1 < w3.heap.size := by omega); (try have y3 : wr.heap.size < w3.heap.size + 1 := by omega); (try have y4 : wr.heap.size + 1 < w3.heap.size + 1 := by omega); (try have y5 : wr.heap.size < w3.heap.size + 1 + 1 := by omega))
          | (go_at_call 28; (with_reducible refine Calls.mono (KB.out _ ?_) ?_); (exact HS2.out.below (by (repeat (first | (with_reducible exact Below.refl _ _) | ((with_reducible refine bset ?_ ?_ _); (first | exact Nat.le_refl _ | omega | (simp; omega) | simp)) | ((with_reducible refine balloc ?_ ?_ _); (first | exact Nat.le_refl _ | omega | (simp; omega) | simp)) | (with_reducible refine Below.drew ?_) | (with_reducible refine below_step ?_ hb4) | (with_reducible refine below_step ?_ hb3))))); rintro e w4 ⟨gb, cb, rfl, hPb, hb4, hgb⟩; have HPb := Lib.hid hPb; have hlhPb := hPb.lt nb; clear hPb; (try simp at hgb); have hz4 := hb4.size; (try simp at hz4); obtain ⟨hc4, hf4⟩ := bcell hb4; (try have x1 : wr.heap.size < w4.heap.size := by omega); (try have x2 : wr.heap.size + 1 < w4.heap.size := by omega); (try have x3 : wr.heap.size < w4.heap.size + 1 := by omega); (try have x4 : wr.heap.size + 1 < w4.heap.size + 1 := by omega); (try have x5 : wr.heap.size < w4.heap.size + 1 + 1 := by omega); (try have x6 : w3.heap.size < w4.heap.size := by omega); (try have x7 : w3.heap.size + 1 < w4.heap.size := by omega); (try have x8 : w3.heap.size < w4.heap.size + 1 := by omega)))
      all_goals go_wp2
      all_goals go_meet
      all_goals (refine ⟨_, _, ga, ca, gb, cb, rfl, rfl, ?_, ?_, ?_, ?_, ?_, (by omega), (by omega), (by omega), by omega⟩)
      all_goals (repeat (first
        | (with_reducible exact HPa.out)
        | (with_reducible exact HPb.out)
        | (with_reducible exact BoxAt.new _ _ _)
        | (with_reducible exact box_new2 _ _ _ _)
        | (with_reducible exact box_new4 _ _ _ _ _)
        | (with_reducible refine box_set1 ?_)
        | (with_reducible refine box_other1 ?_ (by omega))
        | (with_reducible refine box_step ?_ hb4)
        | (with_reducible refine box_step ?_ hb3)
        | (with_reducible refine BoxAt.alloc ?_ _)
        | (with_reducible refine BoxAt.drew ?_)
        | (with_reducible refine pts_set1 ?_ (by omega))
        | (with_reducible refine pts_step1 ?_ na hb4)
        | (with_reducible refine pts_step1 ?_ nb hb4)
        | (with_reducible refine pts_step1 ?_ na hb3)
        | (with_reducible refine pts_step1 ?_ nb hb3)
        | (with_reducible refine pts_alloc1 ?_ na)
        | (with_reducible refine pts_alloc1 ?_ nb)
        | (with_reducible refine pts_drew1 ?_)
        | (with_reducible exact Below.refl _ _)
        | (with_reducible refine bset ?_ ?_ _; (first | exact Nat.le_refl _ | omega | (simp; omega) | simp))
        | (with_reducible refine balloc ?_ ?_ _; (first | exact Nat.le_refl _ | omega | (simp; omega) | simp))
        | (with_reducible refine Below.drew ?_)
        | (with_reducible refine below_step ?_ hb4)
        | (with_reducible refine below_step ?_ hb3)))
  case rest =>
    obtain ⟨w1, rfl⟩ : ∃ x : World, x = wc := ⟨_, rfl⟩
    obtain ⟨La, Lb, ga, ca, gb, cb, rfl, rfl, qa, qb, qpa, qpb, hbw, u1, u2, u3, u4⟩ := hcut
    have HB1 := Lib.hid (below_step hB0 hbw)
    clear k0 k1 k2 k3 k4 k5 l1 l2 HS1 HS2 KA KB f1 f2 hB0 hbw u1 u2 u3 u4
    have hm1 := Int.emod_nonneg ha0 (show (2001 : Int) ≠ 0 by omega)
    have hm2 := Int.emod_lt_of_pos ha0 (show (0 : Int) < 2001 by omega)
    have hm3 := Int.emod_nonneg hb0 (show (2001 : Int) ≠ 0 by omega)
    have hm4 := Int.emod_lt_of_pos hb0 (show (0 : Int) < 2001 by omega)
    have hm5 := Int.emod_nonneg mo0 (show (2001 : Int) ≠ 0 by omega)
    have hm6 := Int.emod_lt_of_pos mo0 (show (0 : Int) < 2001 by omega)
    have HM1 := Lib.hid (fun W => mod64_any ha0 2001 W (by omega) (by omega))
    have HM2 := Lib.hid (fun W => mod64_any hb0 2001 W (by omega) (by omega))
    have HM3 := Lib.hid (fun W => mod64_any mo0 2001 W (by omega) (by omega))
    obtain ⟨ha, hha⟩ : ∃ z, z = ha0 % 2001 := ⟨_, rfl⟩
    obtain ⟨hb, hhb⟩ : ∃ z, z = hb0 % 2001 := ⟨_, rfl⟩
    obtain ⟨mo, hmo⟩ : ∃ z, z = mo0 % 2001 := ⟨_, rfl⟩
    rw [← hha] at hm1 hm2 HM1
    rw [← hhb] at hm3 hm4 HM2
    rw [← hmo] at hm5 hm6 HM3
    clear hha hhb hmo
    go_upto_region 3 with (first
      | (go_at_call 56; (with_reducible refine (HM1.out _).mono ?_); rintro e wm ⟨rfl, rfl⟩)
      | (go_at_call 56; (with_reducible refine (HM2.out _).mono ?_); rintro e wm2 ⟨rfl, rfl⟩)
      | (go_at_call 56; (with_reducible refine (HM3.out _).mono ?_); rintro e wm3 ⟨rfl, rfl⟩))
    obtain ⟨c1, c2, c3⟩ := crosses_math MA.out.good MB.out.good hm1 (show ha ≤ 2000 by omega) hm3 (show hb ≤ 2000 by omega) hm5 (show mo ≤ 2000 by omega)
    have e1 : IntKind.i64.wrap (ha + mo) = ha + mo := IntWalk.i64_in _ (by omega)
    have e2 : IntKind.i64.wrap (hb + mo) = hb + mo := IntWalk.i64_in _ (by omega)
    have s1 := crsF_len2 a b ha hb
    have s2 := crsF_len2 b a hb ha
    have s3 := crsF_len2 a b (ha + mo) (hb + mo)
    have lpa := len_pos MA.out.good
    have HW1 : Hid (∀ W, Below w1.heap.size w1 W → (W.cell? ⟨La, 0, none⟩ = some (.slice (some ⟨ga, 0, none⟩) a.n ca) ∧ W.cell? ⟨Lb, 0, none⟩ = some (.slice (some ⟨gb, 0, none⟩) b.n cb)) ∧ Spots W (some ⟨ga, 0, none⟩) a.n a.X a.Y ∧ Spots W (some ⟨gb, 0, none⟩) b.n b.X b.Y) := Lib.hid (fun W hW => ⟨⟨(box_step qa hW).cell 0, (box_step qb hW).cell 0⟩, fun _ => ⟨ga, 0, rfl, pts_step1 qpa na hW⟩, fun _ => ⟨gb, 0, rfl, pts_step1 qpb nb hW⟩⟩)
    have C1 : Hid (∀ W, Below w1.heap.size w1 W → Calls Try.prog 46 #[cv ga 0 a.n ca, .int .i64 ha, cv gb 0 b.n cb, .int .i64 hb] W (CrsPost (crsF a b ha hb) W)) := Lib.hid (fun W hW => crs_any _ _ ca cb a b ha hb W (HW1.out W hW).2.1 (HW1.out W hW).2.2)
    have C2 : Hid (∀ W, Below w1.heap.size w1 W → Calls Try.prog 46 #[cv gb 0 b.n cb, .int .i64 hb, cv ga 0 a.n ca, .int .i64 ha] W (CrsPost (crsF b a hb ha) W)) := Lib.hid (fun W hW => crs_any _ _ cb ca b a hb ha W (HW1.out W hW).2.2 (HW1.out W hW).2.1)
    have C3 : Hid (∀ W, Below w1.heap.size w1 W → Calls Try.prog 46 #[cv ga 0 a.n ca, .int .i64 (ha + mo), cv gb 0 b.n cb, .int .i64 (hb + mo)] W (CrsPost (crsF a b (ha + mo) (hb + mo)) W)) := Lib.hid (fun W hW => crs_any _ _ ca cb a b (ha + mo) (hb + mo) W (HW1.out W hW).2.1 (HW1.out W hW).2.2)
    have CA : Hid (∀ W, Below w1.heap.size w1 W → Calls Try.prog 22 #[cv ga 0 a.n ca] W fun e w' => e = .returned (.int .i64 (lenF a)) ∧ Below W.heap.size W w') := Lib.hid (fun W hW => len_any _ ca a W (HW1.out W hW).2.1)
    have CB : Hid (∀ W, Below w1.heap.size w1 W → Calls Try.prog 22 #[cv gb 0 b.n cb] W fun e w' => e = .returned (.int .i64 (lenF b)) ∧ Below W.heap.size W w') := Lib.hid (fun W hW => len_any _ cb b W (HW1.out W hW).2.2)
    obtain ⟨L, hL⟩ : ∃ z, z = crsF a b ha hb := ⟨_, rfl⟩
    obtain ⟨R, hR⟩ : ∃ z, z = crsF b a hb ha := ⟨_, rfl⟩
    obtain ⟨V, hV⟩ : ∃ z, z = crsF a b (ha + mo) (hb + mo) := ⟨_, rfl⟩
    obtain ⟨NA, hNA⟩ : ∃ z, z = lenF a := ⟨_, rfl⟩
    obtain ⟨NB, hNB⟩ : ∃ z, z = lenF b := ⟨_, rfl⟩
    rw [← hL, ← hR] at c1
    rw [← hL, ← hV] at c2
    rw [← hL, ← hR, ← hV, ← hNA, ← hNB] at c3
    rw [← hL] at s1 C1
    rw [← hR] at s2 C2
    rw [← hV] at s3 C3
    rw [← hNA] at lpa CA
    rw [← hNB] at CB
    have HC3 := Lib.hid c3
    have HC1 := Lib.hid c1
    clear c1
    have k0 : w1.cell? ⟨La, 0, none⟩ = some (.slice (some ⟨ga, 0, none⟩) a.n ca) := qa.cell 0
    have k1 : w1.cell? ⟨Lb, 0, none⟩ = some (.slice (some ⟨gb, 0, none⟩) b.n cb) := qb.cell 0
    clear hL hR hV hNA hNB c3 qa qb qpa qpb MA MB HM1 HM2 HM3 hm1 hm2 hm3 hm4 hm5 hm6
    go_cut [13, 14, 15] from 32 to 50 (fun v1 v2 v3 wx => ∃ R1 R2 R3 q1 q2 q3, v1 = .slice R1 L.length q1 ∧ v2 = .slice R2 R.length q2 ∧ v3 = .slice R3 V.length q3 ∧ Qs wx R1 L ∧ Qs wx R2 R ∧ Qs wx R3 V ∧ Below w1.heap.size w1 wx)
    case first =>
      as_aux_lemma =>
        have hBx : Below w1.heap.size w1 w1.drew := (Below.refl _ _).drew
        go_region_held3 (fun w' => w'.cell? ⟨La, 0, none⟩ = some (.slice (some ⟨ga, 0, none⟩) a.n ca) ∧ w'.cell? ⟨Lb, 0, none⟩ = some (.slice (some ⟨gb, 0, none⟩) b.n cb))
          (first | exact (HW1.out _ hBx).1 | go_keep)
          (first
            | (go_at_call 46; (with_reducible refine (C1.out _ hBx).mono ?_); rintro e wa ⟨v1, rfl, hO1, hba⟩; obtain ⟨R1, q1, rfl, hq1⟩ := qs_of_own hO1; clear hO1; have HQ1 := Lib.hid hq1; clear hq1; replace hBx := below_step hBx hba)
            | (go_at_call 46; (with_reducible refine (C2.out _ hBx).mono ?_); rintro e wb ⟨v2, rfl, hO2, hbb⟩; obtain ⟨R2, q2, rfl, hq2⟩ := qs_of_own hO2; clear hO2; have HQ2 := Lib.hid hq2; clear hq2; replace HQ1 := Lib.hid (HQ1.out.below hbb); replace hBx := below_step hBx hbb)
            | (go_at_call 46; (with_reducible refine (C3.out _ hBx).mono ?_); rintro e wc3 ⟨v3, rfl, hO3, hbc⟩; obtain ⟨R3, q3, rfl, hq3⟩ := qs_of_own hO3; clear hO3; have HQ3 := Lib.hid hq3; clear hq3; replace HQ1 := Lib.hid (HQ1.out.below hbc); replace HQ2 := Lib.hid (HQ2.out.below hbc); replace hBx := below_step hBx hbc))
        all_goals go_wp2
        all_goals go_meet
        all_goals exact ⟨R1, R2, R3, q1, q2, q3, rfl, rfl, rfl, HQ1.out, HQ2.out, HQ3.out, hBx⟩
    case rest =>
      obtain ⟨w3, rfl⟩ : ∃ x : World, x = wc := ⟨_, rfl⟩
      obtain ⟨R1, R2, R3, q1, q2, q3, rfl, rfl, rfl, hQ1, hQ2, hQ3, hb3⟩ := hcut
      have HQ1 := Lib.hid hQ1
      have HQ2 := Lib.hid hQ2
      have HQ3 := Lib.hid hQ3
      have HB3 := Lib.hid hb3
      have hBx := hb3
      clear hQ1 hQ2 hQ3 hb3 C1 C2 C3 k0 k1
      have k0 : w3.cell? ⟨La, 0, none⟩ = some (.slice (some ⟨ga, 0, none⟩) a.n ca) := (HW1.out _ HB3.out).1.1
      have HC2 := Lib.hid c2
      have S1 := Lib.hid s1
      have S2 := Lib.hid s2
      have S3 := Lib.hid s3
      clear c2 s1 s2 s3
      obtain ⟨nl, hnl⟩ : ∃ z, z = L.length := ⟨_, rfl⟩
      obtain ⟨nr, hnr⟩ : ∃ z, z = R.length := ⟨_, rfl⟩
      obtain ⟨nv, hnv⟩ : ∃ z, z = V.length := ⟨_, rfl⟩
      have c1 : nr = nl := by rw [hnl, hnr]; exact HC1.out
      have c2 : nl ≤ nv := by rw [hnl, hnv]; exact HC2.out
      have s1 : nl ≤ 1000000 := by rw [hnl]; exact S1.out
      have s3 : nv ≤ 1000000 := by rw [hnv]; exact S3.out
      rw [← hnl, ← hnr, ← hnv]
      have NL := Lib.hid hnl
      have NR := Lib.hid hnr
      have NV := Lib.hid hnv
      clear hnl hnr hnv HC1 HC2 S1 S2 S3
      subst c1
      have b2 : ¬ (nv : Int) < (nr : Int) := by omega
      have b3 : (NA == 0) = false := by simp; omega
      go_upto_region 6 with (first
        | (go_at_call 22; (with_reducible refine (CA.out _ hBx).mono ?_); rintro e w4 ⟨rfl, hb4⟩; replace hBx := below_step hBx hb4; replace HQ1 := Lib.hid (HQ1.out.below hb4); replace HQ2 := Lib.hid (HQ2.out.below hb4); replace HQ3 := Lib.hid (HQ3.out.below hb4)))
      have HB4 := Lib.hid hBx
      have zl : (0 : Int) ≤ nr := by omega
      clear hBx hb4 b2 b3 k0 HB3
      go_wp2
      go_loopw [16] (fun i wr => ∃ k : Nat, k ≤ nr ∧ i = .int .i64 k ∧ Hid (Below w4.heap.size w4 wr)) (fun i _ => nr + 1 - (intOf i).toNat)
      case atStart => exact ⟨0, Nat.zero_le _, rfl, Lib.hid (Below.refl _ _)⟩
      case round =>
        obtain ⟨k, hk, rfl, HBr⟩ := hrel
        by_cases hlt : k < nr
        · obtain ⟨g1, e1, q1, lg1⟩ := HQ1.out (by have := NL.out; omega)
          subst e1
          obtain ⟨Q, hQ, a0, a1, a2, a3⟩ := q1 k (by have := NL.out; omega)
          have hmem : Q ∈ L := List.mem_of_getElem? hQ
          obtain ⟨m1, m2, m3⟩ := HC3.out Q hmem
          have HM1 := Lib.hid m1
          have HM2 := Lib.hid m2
          have HM3 := Lib.hid m3
          have i1 : (0 : Int) ≤ (k : Int) := Int.natCast_nonneg _
          have i2 : (k : Int) < (nr : Int) := by omega
          have hcl : ∀ W, Below w4.heap.size w4 W → ∀ j, W.cell? ⟨g1, j, none⟩ = w4.cell? ⟨g1, j, none⟩ := fun W hW j => World.cell?_of_block (hW.block g1 lg1)
          have A4 : Hid (∀ W, Below w4.heap.size w4 W → W.cell? ⟨g1, k * 4, none⟩ = some (.int .i64 Q.fa) ∧ W.cell? ⟨g1, k * 4 + 1, none⟩ = some (.int .i64 Q.ta) ∧ W.cell? ⟨g1, k * 4 + 2, none⟩ = some (.int .i64 Q.fb) ∧ W.cell? ⟨g1, k * 4 + 3, none⟩ = some (.int .i64 Q.tb)) := Lib.hid (fun W hW => ⟨(hcl W hW _).trans a0, (hcl W hW _).trans a1, (hcl W hW _).trans a2, (hcl W hW _).trans a3⟩)
          clear q1 hQ hmem m1 m2 a0 a1 a2 a3 hcl
          obtain ⟨a0, a1, a2, a3⟩ := A4.out wr HBr.out
          go_upto_region 9 with fail
          go_cut [17] from 68 to 215 (fun v wx => ∃ Lx, v = .pointer (some ⟨Lx, 0, none⟩) ∧ BoxAt wx Lx 66 #[.int .i64 Q.fb, .int .i64 Q.tb, .int .i64 Q.fa, .int .i64 Q.ta] ∧ Below wr.heap.size wr wx)
          case first =>
            as_aux_lemma =>
              go_region_held3 (fun w' => w'.cell? ⟨g1, k * 4, none⟩ = some (.int .i64 Q.fa) ∧ w'.cell? ⟨g1, k * 4 + 1, none⟩ = some (.int .i64 Q.ta) ∧ w'.cell? ⟨g1, k * 4 + 2, none⟩ = some (.int .i64 Q.fb) ∧ w'.cell? ⟨g1, k * 4 + 3, none⟩ = some (.int .i64 Q.tb))
                (first | exact A4.out _ (below_step HBr.out ((Below.refl _ wr).drew)) | exact A4.out _ (below_step HBr.out (balloc (Nat.le_refl _) (Below.refl _ wr).drew _)) | exact A4.out _ (below_step HBr.out (balloc (Nat.le_refl _) (Below.refl _ wr) _).drew) | go_keep)
                (fail)
              all_goals go_wp2
              all_goals go_meet
              all_goals (refine ⟨_, rfl, ?_, ?_⟩)
              all_goals (repeat (first
                | (with_reducible exact BoxAt.new _ _ _)
                | (with_reducible refine BoxAt.drew ?_)
                | (with_reducible refine BoxAt.alloc ?_ _)
                | (with_reducible exact Below.refl _ _)
                | (with_reducible refine balloc ?_ ?_ _; (first | exact Nat.le_refl _ | omega | (simp; omega) | simp))
                | (with_reducible refine Below.drew ?_)))
          case rest =>
            obtain ⟨wo, rfl⟩ : ∃ x : World, x = wr := ⟨_, rfl⟩
            obtain ⟨wx, rfl⟩ : ∃ x : World, x = wc := ⟨_, rfl⟩
            obtain ⟨Lx, rfl, qx, hbx⟩ := hcut
            have HBX := Lib.hid (below_step HBr.out hbx)
            have HX : Hid (∀ W, Below wx.heap.size wx W → W.cell? ⟨Lx, 0, none⟩ = some (.int .i64 Q.fb) ∧ W.cell? ⟨Lx, 1, none⟩ = some (.int .i64 Q.tb) ∧ W.cell? ⟨Lx, 2, none⟩ = some (.int .i64 Q.fa) ∧ W.cell? ⟨Lx, 3, none⟩ = some (.int .i64 Q.ta)) := Lib.hid (fun W hW => ⟨(box_step qx hW).cell 0, (box_step qx hW).cell 1, (box_step qx hW).cell 2, (box_step qx hW).cell 3⟩)
            clear a0 a1 a2 a3 qx hbx
            have QX2 := Lib.hid (HQ2.out.below HBX.out)
            have QX3 := Lib.hid (HQ3.out.below HBX.out)
            go_upto_region 11 with fail
            go_wp2
            go_loopw [18, 20] (fun t i wr => ∃ j : Nat, j ≤ nr ∧ t = .bool (anyB (isQ Q) R j) ∧ i = .int .i64 j ∧ Hid (Below wx.heap.size wx wr)) (fun _ i _ => nr + 1 - (intOf i).toNat)
            case atStart => exact ⟨0, Nat.zero_le _, rfl, rfl, Lib.hid (Below.refl _ _)⟩
            case round =>
              obtain ⟨j, hj, rfl, rfl, HBj⟩ := hrel
              by_cases hltj : j < nr
              · obtain ⟨g2, e2, q2', lg2⟩ := QX2.out (by have := NR.out; omega)
                subst e2
                obtain ⟨P, hP, c0, c1, c2', c3⟩ := q2' j (by have := NR.out; omega)
                have hcl : ∀ i, wr.cell? ⟨g2, i, none⟩ = wx.cell? ⟨g2, i, none⟩ := fun i => World.cell?_of_block (HBj.out.block g2 lg2)
                rw [← hcl] at c0 c1 c2' c3
                have HSC := Lib.hid (anyB_succ (isQ Q) R hP)
                obtain ⟨b0, b1, b2, b3⟩ := HX.out wr HBj.out
                have j1 : (0 : Int) ≤ (j : Int) := Int.natCast_nonneg _
                have j2 : (j : Int) < (nr : Int) := by omega
                have lx := World.block_lt_of_cell? wr _ b0
                obtain ⟨nb, hnb⟩ : ∃ z, z = anyB (isQ Q) R j := ⟨_, rfl⟩
                have HNB := Lib.hid hnb
                rw [← hnb]
                clear hcl hP q2' hnb
                cases nb with
                | true =>
                  as_aux_lemma =>
                    have e : Hid (anyB (isQ Q) R (j + 1) = true) := by show _ = _; rw [HSC.out, ← HNB.out]; rfl
                    go_wp2_with fail
                    go_quiet (fail)
                    go_wp2
                    go_roundw
                    case rel => exact ⟨j + 1, by omega, congrArg Value.bool e.out.symm, by go_num, below_drewN' HBj _⟩
                    case measure => simp [intOf]; omega
                | false =>
                  as_aux_lemma =>
                    by_cases z0 : P.fa = Q.fb
                    · rw [z0] at c0
                      by_cases z1 : P.ta = Q.tb
                      · rw [z1] at c1
                        by_cases z2 : P.fb = Q.fa
                        · rw [z2] at c2'
                          by_cases z3 : P.tb = Q.ta
                          · rw [z3] at c3
                            have e : Hid (anyB (isQ Q) R (j + 1) = true) := by show _ = _; rw [HSC.out, ← HNB.out]; simp [isQ, z0, z1, z2, z3]
                            (try clear z0)
                            (try clear z1)
                            (try clear z2)
                            (try clear z3)
                            go_wp2_with fail
                            go_quiet (fail)
                            go_wp2
                            go_roundw
                            case rel => exact ⟨j + 1, by omega, congrArg Value.bool e.out.symm, by go_num, below_drewN' HBj _⟩
                            case measure => simp [intOf]; omega
                          · have e : Hid (anyB (isQ Q) R (j + 1) = false) := by show _ = _; rw [HSC.out, ← HNB.out]; simp [isQ, z3]
                            have y3 : (P.tb == Q.ta) = false := by simp [z3]
                            (try clear z0)
                            (try clear z1)
                            (try clear z2)
                            (try clear z3)
                            go_wp2_with fail
                            go_quiet (fail)
                            go_wp2
                            go_roundw
                            case rel => exact ⟨j + 1, by omega, congrArg Value.bool e.out.symm, by go_num, below_drewN' HBj _⟩
                            case measure => simp [intOf]; omega
                        · have e : Hid (anyB (isQ Q) R (j + 1) = false) := by show _ = _; rw [HSC.out, ← HNB.out]; simp [isQ, z2]
                          have y2 : (P.fb == Q.fa) = false := by simp [z2]
                          (try clear z0)
                          (try clear z1)
                          (try clear z2)
                          (try clear z3)
                          go_wp2_with fail
                          go_quiet (fail)
                          go_wp2
                          go_roundw
                          case rel => exact ⟨j + 1, by omega, congrArg Value.bool e.out.symm, by go_num, below_drewN' HBj _⟩
                          case measure => simp [intOf]; omega
                      · have e : Hid (anyB (isQ Q) R (j + 1) = false) := by show _ = _; rw [HSC.out, ← HNB.out]; simp [isQ, z1]
                        have y1 : (P.ta == Q.tb) = false := by simp [z1]
                        (try clear z0)
                        (try clear z1)
                        (try clear z2)
                        (try clear z3)
                        go_wp2_with fail
                        go_quiet (fail)
                        go_wp2
                        go_roundw
                        case rel => exact ⟨j + 1, by omega, congrArg Value.bool e.out.symm, by go_num, below_drewN' HBj _⟩
                        case measure => simp [intOf]; omega
                    · have e : Hid (anyB (isQ Q) R (j + 1) = false) := by show _ = _; rw [HSC.out, ← HNB.out]; simp [isQ, z0]
                      have y0 : (P.fa == Q.fb) = false := by simp [z0]
                      (try clear z0)
                      (try clear z1)
                      (try clear z2)
                      (try clear z3)
                      go_wp2_with fail
                      go_quiet (fail)
                      go_wp2
                      go_roundw
                      case rel => exact ⟨j + 1, by omega, congrArg Value.bool e.out.symm, by go_num, below_drewN' HBj _⟩
                      case measure => simp [intOf]; omega
              · obtain rfl : j = nr := by omega
                have j2 : ¬ (j : Int) < (j : Int) := by omega
                have hall := anyB_all (isQ Q) R HM1.out (by simp [isQ, Quad.swap])
                rw [← NR.out] at hall
                rw [hall]
                clear hall
                obtain ⟨wo2, rfl⟩ : ∃ x : World, x = wr := ⟨_, rfl⟩
                have QY3 := Lib.hid (QX3.out.below HBj.out)
                have HXj : Hid (∀ W, Below wo2.heap.size wo2 W → W.cell? ⟨Lx, 0, none⟩ = some (.int .i64 Q.fb)) := Lib.hid (fun W hW => (HX.out _ (below_step HBj.out hW)).1)
                go_upto_region 15 with fail
                clear j2
                go_wp2
                go_loopw [19, 21] (fun t i wr => ∃ i' : Nat, i' ≤ nv ∧ t = .bool (anyB (inQ Q) V i') ∧ i = .int .i64 i' ∧ Hid (Below wo2.heap.size wo2 wr)) (fun _ i _ => nv + 1 - (intOf i).toNat)
                case atStart => exact ⟨0, Nat.zero_le _, rfl, rfl, Lib.hid (Below.refl _ _)⟩
                case round =>
                  obtain ⟨i, hi, rfl, rfl, HBl⟩ := hrel
                  have HB3 := Lib.hid (below_step HBX.out (below_step HBj.out HBl.out))
                  obtain ⟨a0, a1, a2, a3⟩ := A4.out wr HB3.out
                  by_cases hlti : i < nv
                  · obtain ⟨g3, e3, q3', lg3⟩ := QY3.out (by have := NV.out; omega)
                    subst e3
                    obtain ⟨P, hP, c0, c1, c2', c3⟩ := q3' i (by have := NV.out; omega)
                    have hcl : ∀ i, wr.cell? ⟨g3, i, none⟩ = wo2.cell? ⟨g3, i, none⟩ := fun i => World.cell?_of_block (HBl.out.block g3 lg3)
                    rw [← hcl] at c0 c1 c2' c3
                    have HSC := Lib.hid (anyB_succ (inQ Q) V hP)
                    have j1 : (0 : Int) ≤ (i : Int) := Int.natCast_nonneg _
                    have j2 : (i : Int) < (nv : Int) := by omega
                    obtain ⟨nb, hnb⟩ : ∃ z, z = anyB (inQ Q) V i := ⟨_, rfl⟩
                    have HNB := Lib.hid hnb
                    rw [← hnb]
                    clear hcl hP q3' hnb
                    cases nb with
                    | true =>
                      as_aux_lemma =>
                        have e : Hid (anyB (inQ Q) V (i + 1) = true) := by show _ = _; rw [HSC.out, ← HNB.out]; rfl
                        go_wp2_with fail
                        go_quiet (fail)
                        go_wp2
                        go_roundw
                        case rel => exact ⟨i + 1, by omega, congrArg Value.bool e.out.symm, by go_num, below_drewN' HBl _⟩
                        case measure => simp [intOf]; omega
                    | false =>
                      as_aux_lemma =>
                        by_cases z0 : P.fa ≤ Q.fa
                        · have y0 : decide (P.fa ≤ Q.fa) = true := decide_eq_true z0
                          by_cases z1 : Q.ta ≤ P.ta
                          · have y1 : decide (Q.ta ≤ P.ta) = true := decide_eq_true z1
                            by_cases z2 : P.fb ≤ Q.fb
                            · have y2 : decide (P.fb ≤ Q.fb) = true := decide_eq_true z2
                              by_cases z3 : Q.tb ≤ P.tb
                              · have y3 : decide (Q.tb ≤ P.tb) = true := decide_eq_true z3
                                have e : Hid (anyB (inQ Q) V (i + 1) = true) := by show _ = _; rw [HSC.out, ← HNB.out]; simp [inQ, z0, z1, z2, z3]
                                go_wp2_with fail
                                go_quiet (fail)
                                go_wp2
                                go_roundw
                                case rel => exact ⟨i + 1, by omega, congrArg Value.bool e.out.symm, by go_num, below_drewN' HBl _⟩
                                case measure => simp [intOf]; omega
                              · have e : Hid (anyB (inQ Q) V (i + 1) = false) := by show _ = _; rw [HSC.out, ← HNB.out]; simp [inQ, z3]
                                have y3 : decide (Q.tb ≤ P.tb) = false := decide_eq_false z3
                                go_wp2_with fail
                                go_quiet (fail)
                                go_wp2
                                go_roundw
                                case rel => exact ⟨i + 1, by omega, congrArg Value.bool e.out.symm, by go_num, below_drewN' HBl _⟩
                                case measure => simp [intOf]; omega
                            · have e : Hid (anyB (inQ Q) V (i + 1) = false) := by show _ = _; rw [HSC.out, ← HNB.out]; simp [inQ, z2]
                              have y2 : decide (P.fb ≤ Q.fb) = false := decide_eq_false z2
                              go_wp2_with fail
                              go_quiet (fail)
                              go_wp2
                              go_roundw
                              case rel => exact ⟨i + 1, by omega, congrArg Value.bool e.out.symm, by go_num, below_drewN' HBl _⟩
                              case measure => simp [intOf]; omega
                          · have e : Hid (anyB (inQ Q) V (i + 1) = false) := by show _ = _; rw [HSC.out, ← HNB.out]; simp [inQ, z1]
                            have y1 : decide (Q.ta ≤ P.ta) = false := decide_eq_false z1
                            go_wp2_with fail
                            go_quiet (fail)
                            go_wp2
                            go_roundw
                            case rel => exact ⟨i + 1, by omega, congrArg Value.bool e.out.symm, by go_num, below_drewN' HBl _⟩
                            case measure => simp [intOf]; omega
                        · have e : Hid (anyB (inQ Q) V (i + 1) = false) := by show _ = _; rw [HSC.out, ← HNB.out]; simp [inQ, z0]
                          have y0 : decide (P.fa ≤ Q.fa) = false := decide_eq_false z0
                          go_wp2_with fail
                          go_quiet (fail)
                          go_wp2
                          go_roundw
                          case rel => exact ⟨i + 1, by omega, congrArg Value.bool e.out.symm, by go_num, below_drewN' HBl _⟩
                          case measure => simp [intOf]; omega
                  · obtain rfl : i = nv := by omega
                    have j2 : ¬ (i : Int) < (i : Int) := by omega
                    obtain ⟨T, hT1, hT2⟩ := HM2.out
                    obtain ⟨z1, z2, z3, z4⟩ := HM3.out
                    have hall := anyB_all (inQ Q) V hT1 (by simp [inQ, hT2])
                    rw [← NV.out] at hall
                    rw [hall]
                    clear hall hT1 hT2
                    have y1 : decide (Q.fa < 0) = false := decide_eq_false (by omega)
                    have y2 : decide (Q.ta ≤ Q.fa) = false := decide_eq_false (by omega)
                    have y3 : decide (NA < Q.ta) = false := decide_eq_false (by omega)
                    have y4 : decide (NB < Q.tb) = false := decide_eq_false (by omega)
                    have HBw : Hid (∀ W, Below wr.heap.size wr W → Below w1.heap.size w1 W) := Lib.hid (fun W hW => below_step HB4.out (below_step HB3.out hW))
                    have hBx := (Below.refl wr.heap.size wr).drew
                    go_upto_region 19 with fail
                    go_region_held3 (fun w' => w'.cell? ⟨g1, k * 4, none⟩ = some (.int .i64 Q.fa) ∧ w'.cell? ⟨g1, k * 4 + 1, none⟩ = some (.int .i64 Q.ta) ∧ w'.cell? ⟨g1, k * 4 + 3, none⟩ = some (.int .i64 Q.tb) ∧ w'.cell? ⟨La, 0, none⟩ = some (.slice (some ⟨ga, 0, none⟩) a.n ca) ∧ w'.cell? ⟨Lb, 0, none⟩ = some (.slice (some ⟨gb, 0, none⟩) b.n cb))
                      (first | exact ⟨(A4.out _ (below_step HB3.out hBx)).1, (A4.out _ (below_step HB3.out hBx)).2.1, (A4.out _ (below_step HB3.out hBx)).2.2.2, (HW1.out _ (HBw.out _ hBx)).1⟩ | go_keep)
                      (first
                        | (go_at_call 22; (with_reducible refine (CA.out _ (HBw.out _ hBx)).mono ?_); rintro e w8 ⟨rfl, hb8⟩; replace hBx := below_step hBx hb8)
                        | (go_at_call 22; (with_reducible refine (CB.out _ (HBw.out _ hBx)).mono ?_); rintro e w9 ⟨rfl, hb9⟩; replace hBx := below_step hBx hb9))
                    go_wp2
                    go_roundw
                    case rel => exact ⟨k + 1, by omega, by go_num, Lib.hid (below_step HB3.out hBx)⟩
                    case measure => simp [intOf]; omega
        · obtain rfl : k = nr := by omega
          have i2 : ¬ (k : Int) < (k : Int) := by omega
          have hBz := below_step HB4.out HBr.out
          go_wp2_with (go_at_call 18; (with_reducible refine (awake_any _).mono ?_); rintro e w7 ⟨rfl, hb7⟩; replace hBz := below_step hBz hb7)
          go_ret
          exact ⟨rfl, below_step HB1.out hBz⟩
end Go.Proofs.Ytglkpabcflecmaa
