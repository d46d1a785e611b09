/- The walk of the law CurveFeet. -/
import Derived.Test.YtglkpabcflecmaaRHold
import Derived.Test.YtglkpabcflecmaaKCur
namespace Go.Proofs.Ytglkpabcflecmaa
open Go.RowKit Go.Shelf

/-- Three boxes: of a curve, of the numbers of which one is made, of a spot. -/
theorem feet_boxes (w : World) (A : Option Addr) (n cap : Nat) (x y : Int) (B : Option Addr) (m bc : Nat) (p q : Int) :
    BoxAt (((w.alloc (.cells #[.slice A n cap] 24)).alloc (.cells #[.int .i64 x, .int .i64 y, .slice B m bc] 37)).alloc (.cells #[.int .i64 p, .int .i64 q] 43)) w.heap.size 24 #[.slice A n cap] ∧
    BoxAt (((w.alloc (.cells #[.slice A n cap] 24)).alloc (.cells #[.int .i64 x, .int .i64 y, .slice B m bc] 37)).alloc (.cells #[.int .i64 p, .int .i64 q] 43)) (w.heap.size + 1) 37 #[.int .i64 x, .int .i64 y, .slice B m bc] ∧
    BoxAt (((w.alloc (.cells #[.slice A n cap] 24)).alloc (.cells #[.int .i64 x, .int .i64 y, .slice B m bc] 37)).alloc (.cells #[.int .i64 p, .int .i64 q] 43)) (w.heap.size + 1 + 1) 43 #[.int .i64 p, .int .i64 q] ∧
    Below w.heap.size w (((w.alloc (.cells #[.slice A n cap] 24)).alloc (.cells #[.int .i64 x, .int .i64 y, .slice B m bc] 37)).alloc (.cells #[.int .i64 p, .int .i64 q] 43)) := by
  have h1 := BoxAt.new (w.alloc (.cells #[.slice A n cap] 24)) 37 #[.int .i64 x, .int .i64 y, .slice B m bc]
  have h2 := BoxAt.new ((w.alloc (.cells #[.slice A n cap] 24)).alloc (.cells #[.int .i64 x, .int .i64 y, .slice B m bc] 37)) 43 #[.int .i64 p, .int .i64 q]
  simp only [World.size_alloc] at h1 h2
  exact ⟨((BoxAt.new w 24 _).alloc _).alloc _, h1.alloc _, h2, (((Below.refl _ w).alloc (Nat.le_refl _) _).alloc (by simp) _).alloc (by simp; omega) _⟩

set_option maxRecDepth 100000 in
set_option maxHeartbeats 8000000 in
theorem feet_long (A : Option Addr) (cap n : Nat) (p q r : Int) (v1 : Value) (w : World) (h : 20 < n) (x y : Int) (B : Option Addr) (m bc : Nat) (hv1 : v1 = chv x y B m bc) :
    Calls Try.prog 5 #[.agg #[.slice A n cap], v1, sp p q, .int .i64 r] w fun e w' => e = .returned (.bool true) ∧ Below w.heap.size w w' := by
  subst hv1
  obtain ⟨_, _, _, hB⟩ := feet_boxes w A n cap x y B m bc p q
  have hl := long_any A n cap
  rw [decide_eq_true h] at hl
  have HL := Lib.hid hl
  clear hl h
  go_enter Try.func5, Try.ntmps5
  go_wp2_with (first
    | (go_at_call 17; (with_reducible refine (HL.out _).mono ?_); rintro e w1 ⟨rfl, hb1⟩; replace hB := below_step hB hb1)
    | (go_at_call 18; (with_reducible refine (awake_any _).mono ?_); rintro e w2 ⟨rfl, hb2⟩; replace hB := below_step hB hb2))
  go_ret
  exact ⟨rfl, hB⟩

set_option maxRecDepth 100000 in
set_option maxHeartbeats 8000000 in
theorem feet_short (A : Option Addr) (cap : Nat) (c : Crv) (x y : Int) (B : Option Addr) (m bc : Nat) (S : Nat → Int) (p q r : Int) (w : World) (h : Spots w A c.n c.X c.Y) (hS : Stps w B m S) (hn : c.n ≤ 20) :
    Calls Try.prog 5 #[.agg #[.slice A c.n cap], chv x y B m bc, sp p q, .int .i64 r] w fun e w' => e = .returned (.bool true) ∧ Below w.heap.size w w' := by
  obtain ⟨hB0, hB1, hBp, hB⟩ := feet_boxes w A c.n cap x y B m bc p q
  have hl := long_any A c.n cap
  rw [decide_eq_false (by omega : ¬ 20 < c.n)] at hl
  have HL := Lib.hid hl
  obtain ⟨d, hd⟩ : ∃ d : Crv, d = chain (x.tmod 20001) (y.tmod 20001) m S := ⟨_, rfl⟩
  have HK : Hid (∀ W : World, Stps W B m S → Calls Try.prog 28 #[chv x y B m bc] W fun e w' => ∃ g c', e = .returned (cv g 0 d.n c') ∧ Pts w' g 0 d.n d.X d.Y ∧ Below W.heap.size W w' ∧ W.heap.size ≤ g) := fun W hW => by rw [hd]; exact kcur_any x y B m bc S W hW
  have HS := Lib.hid (h.below hB)
  have HT := Lib.hid (hS.below hB)
  have hd2 : 0 < d.n := by rw [hd]; exact Nat.lt_of_lt_of_le (by decide) (chN_bd m).1
  clear hl h hS hd
  go_enter Try.func5, Try.ntmps5
  go_upto_region 3 with (first
    | (go_at_call 17; (with_reducible refine (HL.out _).mono ?_); rintro e w1 ⟨rfl, hb1⟩; replace HS := Lib.hid (HS.out.below hb1); replace HT := Lib.hid (HT.out.below hb1); replace hB0 := box_step hB0 hb1; replace hB1 := box_step hB1 hb1; replace hBp := box_step hBp hb1; replace hB := below_step hB hb1; have k0 := hB0.cell 0; have k1 := hB1.cell 0; have k2 := hB1.cell 1; have k3 := hB1.cell 2))
  have k0 : w1.cell? ⟨w.heap.size, 0, none⟩ = some (.slice A c.n cap) := hB0.cell 0
  have k1 : w1.cell? ⟨w.heap.size + 1, 0, none⟩ = some (.int .i64 x) := hB1.cell 0
  have k2 : w1.cell? ⟨w.heap.size + 1, 1, none⟩ = some (.int .i64 y) := hB1.cell 1
  have k3 : w1.cell? ⟨w.heap.size + 1, 2, none⟩ = some (.slice B m bc) := hB1.cell 2
  have l0 := hB0.lt
  have l1 := hB1.lt
  go_cut [9] from 14 to 17 (fun v w' => ∃ g c' L, v = .slice (some ⟨L, 0, none⟩) 2 2 ∧ BoxAt w' L 24 #[.slice A c.n cap, .slice (some ⟨g, 0, none⟩) d.n c'] ∧ Pts w' g 0 d.n d.X d.Y ∧ Below w1.heap.size w1 w')
  case first =>
    have hBx : Below w1.heap.size w1 w1.drew := (Below.refl _ _).drew
    go_region_held3 (fun w' => w'.cell? ⟨w.heap.size, 0, none⟩ = some (.slice A c.n cap) ∧ w'.cell? ⟨w.heap.size + 1, 0, none⟩ = some (.int .i64 x) ∧ w'.cell? ⟨w.heap.size + 1, 1, none⟩ = some (.int .i64 y) ∧ w'.cell? ⟨w.heap.size + 1, 2, none⟩ = some (.slice B m bc))
      (first | go_keep | (refine ⟨?_, ?_, ?_, ?_⟩ <;> exact (Below.cell hBx (by assumption)).trans (by assumption)))
      (first | (go_at_call 28; (with_reducible refine (HK.out _ (HT.out.below hBx)).mono ?_); rintro e w2 ⟨g, c', rfl, hP, hb2, hg⟩; have HP := Lib.hid hP; clear hP; replace hBx := below_step hBx hb2))
    all_goals go_wp2
    all_goals go_meet
    all_goals exact ⟨g, c', _, rfl, BoxAt.new _ _ _, (HP.out.below ((Below.refl _ _).alloc (Nat.le_refl _) _) (HP.out.lt hd2)), hBx.alloc hBx.size _⟩
  case rest =>
    obtain ⟨wd, rfl⟩ : ∃ z : World, z = wc := ⟨_, rfl⟩
    obtain ⟨g, c', L, rfl, hbox, hP, hbd⟩ := hcut
    have hS1 := HS.out.below hbd
    have hBw := below_step hB hbd
    have hBp1 := box_step hBp hbd
    have hpq : Hid (∀ W, Below wd.heap.size wd W → W.cell? ⟨w.heap.size + 1 + 1, 0, none⟩ = some (.int .i64 p) ∧ W.cell? ⟨w.heap.size + 1 + 1, 1, none⟩ = some (.int .i64 q)) := fun W hW => ⟨(BoxAt.below hBp1 hW hBp1.lt).cell 0, (BoxAt.below hBp1 hW hBp1.lt).cell 1⟩
    have hall : Hid (∀ k, k < 2 → ∃ (A' : Option Addr) (cap' : Nat) (e : Crv), (∀ W, Below wd.heap.size wd W → W.cell? ⟨L, k, none⟩ = some (.slice A' e.n cap') ∧ Spots W A' e.n e.X e.Y)) := by
      intro k hk
      have : k = 0 ∨ k = 1 := by omega
      rcases this with rfl | rfl
      · exact ⟨A, cap, c, fun W hW => ⟨(BoxAt.below hbox hW hbox.lt).cell 0, hS1.below hW⟩⟩
      · exact ⟨_, c', d, fun W hW => ⟨(BoxAt.below hbox hW hbox.lt).cell 1, fun _ => ⟨g, 0, rfl, hP.below hW (hP.lt hd2)⟩⟩⟩
    clear hbox hP hS1 HS HT hB0 hB1 hBp hBp1 HK HL k0 k1 k2 k3 l0 l1 hB
    go_wp2
    go_loopw [10] (fun i wr => ∃ k : Nat, k ≤ 2 ∧ i = .int .i64 k ∧ Below wd.heap.size wd wr) (fun i _ => 10 - (intOf i).toNat)
    case atStart => exact ⟨0, by omega, rfl, Below.refl _ _⟩
    case round =>
      obtain ⟨k, hk, rfl, hBr⟩ := hrel
      by_cases hk2 : k < 2
      · obtain ⟨A', cap', e, hall'⟩ := hall.out k hk2
        have HA := Lib.hid hall'
        clear hall'
        have i0 : (0 : Int) ≤ (k : Int) := Int.natCast_nonneg _
        have i1 : (k : Int) < 2 := by omega
        have e0 : wr.cell? ⟨L, k, none⟩ = some (.slice A' e.n cap') := (HA.out _ hBr).1
        obtain ⟨NL, hNL⟩ : ∃ z, z = nearF e p q r := ⟨_, rfl⟩
        obtain ⟨hb, hhb⟩ : ∃ z, z = holdF e p q r := ⟨_, rfl⟩
        have hlen : NL.length ≤ 16 := by rw [hNL]; exact nearF_len e p q r
        have H1 : Hid (∀ W, Spots W A' e.n e.X e.Y → Calls Try.prog 33 #[.agg #[.slice A' e.n cap'], sp p q, .int .i64 r] W (NearPost NL W)) := fun W hW => by rw [hNL]; exact near_any A' cap' e p q r W hW
        have H2 : Hid (∀ W, Spots W A' e.n e.X e.Y → Calls Try.prog 34 #[.agg #[.slice A' e.n cap'], sp p q, .int .i64 r] W (NearPost NL W)) := fun W hW => by rw [hNL]; exact rnear_any A' cap' e p q r W hW
        have H3 : Hid (∀ W, Spots W A' e.n e.X e.Y → Calls Try.prog 35 #[.agg #[.slice A' e.n cap'], .int .i64 r, sp p q] W fun r w' => r = .returned (.bool hb) ∧ Below W.heap.size W w') := fun W hW => by rw [hhb]; exact holds_any A' cap' e p q r W hW
        have H4 : Hid (∀ W, Spots W A' e.n e.X e.Y → Calls Try.prog 36 #[.agg #[.slice A' e.n cap'], .int .i64 r, sp p q] W fun r w' => r = .returned (.bool hb) ∧ Below W.heap.size W w') := fun W hW => by rw [hhb]; exact rholds_any A' cap' e p q r W hW
        clear hNL hhb
        go_upto_region 7 with fail
        go_cut [54] from 18 to 54 (fun v w' => v = .bool false ∧ Below wd.heap.size wd w')
        case first =>
          have hBx := hBr.drew
          go_region_held3 (fun w' => w'.cell? ⟨L, k, none⟩ = some (.slice A' e.n cap') ∧ w'.cell? ⟨w.heap.size + 1 + 1, 0, none⟩ = some (.int .i64 p) ∧ w'.cell? ⟨w.heap.size + 1 + 1, 1, none⟩ = some (.int .i64 q))
            (exact ⟨(HA.out _ hBx).1, (hpq.out _ hBx).1, (hpq.out _ hBx).2⟩)
            (first
              | (go_at_call 33; (with_reducible refine (H1.out _ (HA.out _ hBx).2).mono ?_); rintro r w5 ⟨A1, cap1, rfl, hl1, hb5⟩; replace hBx := below_step hBx hb5)
              | (go_at_call 34; (with_reducible refine (H2.out _ (HA.out _ hBx).2).mono ?_); rintro r w6 ⟨A2, cap2, rfl, hl2, hb6⟩; replace hBx := below_step hBx hb6; replace hl1 := hl1.below hb6)
              | (go_at_call 24; (with_reducible refine (same_longs_any A1 A2 NL.length cap1 cap2 (fun i => NL.getD i 0) hlen _ hl1 hl2).mono ?_); rintro r w7 ⟨rfl, hb7⟩; replace hBx := below_step hBx hb7)
              | (go_at_call 35; (with_reducible refine (H3.out _ (HA.out _ hBx).2).mono ?_); rintro r w8 ⟨rfl, hb8⟩; replace hBx := below_step hBx hb8)
              | (go_at_call 36; (with_reducible refine (H4.out _ (HA.out _ hBx).2).mono ?_); rintro r w9 ⟨rfl, hb9⟩; replace hBx := below_step hBx hb9))
          all_goals go_wp2
          all_goals go_meet
          all_goals exact ⟨by simp, hBx⟩
        case rest =>
          obtain ⟨we, rfl⟩ : ∃ z : World, z = wc := ⟨_, rfl⟩
          obtain ⟨rfl, hbe⟩ := hcut
          go_wp2
          go_roundw
          case rel => exact ⟨k + 1, by omega, by go_num, hbe⟩
          case measure => simp [intOf]; omega
      · obtain rfl : k = 2 := by omega
        have i1 : ¬ ((2 : Nat) : Int) < 2 := by omega
        go_wp2_with (go_at_call 18; (with_reducible refine (awake_any _).mono ?_); rintro e w2 ⟨rfl, hb2⟩; replace hBr := below_step hBr hb2)
        go_ret
        exact ⟨rfl, below_step hBw hBr⟩
end Go.Proofs.Ytglkpabcflecmaa
