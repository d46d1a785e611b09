/- The reference's 'Sees', 'between'. -/
import Derived.Test.YtglkpabcflecmaaRef1
namespace Go.Proofs.Ytglkpabcflecmaa
open Go.RowKit Go.Shelf

set_option maxRecDepth 100000 in
set_option maxHeartbeats 4000000 in
theorem rsees_any (a1 a2 b1 b2 v : Int) (r : Bool) (w : World) (hr : Hid (seesF (a1, a2) (b1, b2) v = r)) :
    Calls Try.prog 44 #[sp a1 a2, sp b1 b2, .int .i64 v] w fun e w' => e = .returned (.bool r) ∧ Below w.heap.size w w' := by
  have ha := (BoxAt.new w 43 #[.int .i64 a1, .int .i64 a2]).alloc (.cells #[.int .i64 b1, .int .i64 b2] 43)
  have hb := BoxAt.new (w.alloc (.cells #[.int .i64 a1, .int .i64 a2] 43)) 43 #[.int .i64 b1, .int .i64 b2]
  have hB : Below w.heap.size w ((w.alloc (.cells #[.int .i64 a1, .int .i64 a2] 43)).alloc (.cells #[.int .i64 b1, .int .i64 b2] 43)) := ((Below.refl _ w).alloc (Nat.le_refl _) _).alloc (by simp) _
  simp only [World.size_alloc] at hb
  obtain ⟨va, hva⟩ : ∃ s, s = vp (a1, a2) := ⟨_, rfl⟩
  obtain ⟨vb, hvb⟩ : ∃ s, s = vp (b1, b2) := ⟨_, rfl⟩
  have VA : Hid (vp (a1, a2) = va) := hva.symm
  have VB : Hid (vp (b1, b2) = vb) := hvb.symm
  cases va
  · have hz : Hid (r = false) := by show r = false; rw [← hr.out]; unfold seesF; rw [← hva]; rfl
    clear hva hvb
    go_enter Try.func44, Try.ntmps44
    go_wp2_with (go_at_call 63; (with_reducible refine (rvalid_any a1 a2 _ _ VA).mono ?_); rintro e w1 ⟨rfl, hb1⟩; replace hB := below_step hB hb1)
    go_ret
    exact ⟨congrArg (fun z => Ending.returned (.bool z)) hz.out.symm, hB⟩
  cases vb
  · have hz : Hid (r = false) := by show r = false; rw [← hr.out]; unfold seesF; rw [← hva, ← hvb]; rfl
    clear hva hvb
    go_enter Try.func44, Try.ntmps44
    go_wp2_with (first
      | (go_at_call 63; (with_reducible refine (rvalid_any a1 a2 _ _ VA).mono ?_); rintro e w1 ⟨rfl, hb1⟩; obtain ⟨qb, k4, k5, k6, k7⟩ := box2 hb hb1; replace hB := below_step hB hb1)
      | (go_at_call 63; (with_reducible refine (rvalid_any b1 b2 _ _ VB).mono ?_); rintro e w1 ⟨rfl, hb2⟩; replace hB := below_step hB hb2))
    go_ret
    exact ⟨congrArg (fun z => Ending.returned (.bool z)) hz.out.symm, hB⟩
  by_cases v0 : v < 0
  · have hz : Hid (r = false) := by show r = false; rw [← hr.out]; unfold seesF; rw [← hva, ← hvb, decide_eq_false (show ¬ 0 ≤ v by omega)]; rfl
    clear hva hvb
    go_enter Try.func44, Try.ntmps44
    go_wp2_with (first
      | (go_at_call 63; (with_reducible refine (rvalid_any a1 a2 _ _ VA).mono ?_); rintro e w1 ⟨rfl, hb1⟩; obtain ⟨qb, k4, k5, k6, k7⟩ := box2 hb hb1; replace hB := below_step hB hb1)
      | (go_at_call 63; (with_reducible refine (rvalid_any b1 b2 _ _ VB).mono ?_); rintro e w1 ⟨rfl, hb2⟩; replace hB := below_step hB hb2))
    go_ret
    exact ⟨congrArg (fun z => Ending.returned (.bool z)) hz.out.symm, hB⟩
  by_cases v1 : 33554432 < v
  · have hz : Hid (r = false) := by show r = false; rw [← hr.out]; unfold seesF; rw [← hva, ← hvb, decide_eq_false (show ¬ v ≤ 33554432 by omega)]; simp
    clear hva hvb
    go_enter Try.func44, Try.ntmps44
    go_wp2_with (first
      | (go_at_call 63; (with_reducible refine (rvalid_any a1 a2 _ _ VA).mono ?_); rintro e w1 ⟨rfl, hb1⟩; obtain ⟨qb, k4, k5, k6, k7⟩ := box2 hb hb1; replace hB := below_step hB hb1)
      | (go_at_call 63; (with_reducible refine (rvalid_any b1 b2 _ _ VB).mono ?_); rintro e w1 ⟨rfl, hb2⟩; replace hB := below_step hB hb2))
    go_ret
    exact ⟨congrArg (fun z => Ending.returned (.bool z)) hz.out.symm, hB⟩
  · have hvv := mul_bound (a := v) (b := v) (A := 33554432) (B := 33554432) (by omega) (by omega) (by omega) (by omega)
    have q1 : -1125899906842624 ≤ v * v := by omega
    have q2 : v * v ≤ 1125899906842624 := by omega
    clear hvv
    obtain ⟨d, hd⟩ : ∃ d, d = distF (a1, a2) (b1, b2) := ⟨_, rfl⟩
    have hdd : Hid (distF (a1, a2) (b1, b2) = d) := hd.symm
    have hdq : d = dsq (a1, a2) (b1, b2) := by rw [hd]; unfold distF; rw [← hva, ← hvb]; rfl
    have hz : Hid (r = decide (d ≤ v * v)) := by show r = _; rw [← hr.out, hdq]; unfold seesF; rw [← hva, ← hvb, decide_eq_true (show 0 ≤ v by omega), decide_eq_true (show v ≤ 33554432 by omega)]; rfl
    clear hva hvb hd hdq
    go_enter Try.func44, Try.ntmps44
    go_wp2_with (first
      | (go_at_call 63; (with_reducible refine (rvalid_any a1 a2 _ _ VA).mono ?_); rintro e w1 ⟨rfl, hb1⟩; obtain ⟨qa, k0, k1, k2, k3⟩ := box2 ha hb1; obtain ⟨qb, k4, k5, k6, k7⟩ := box2 hb hb1; replace hB := below_step hB hb1)
      | (go_at_call 63; (with_reducible refine (rvalid_any b1 b2 _ _ VB).mono ?_); rintro e w1 ⟨rfl, hb2⟩; obtain ⟨pa, k0, k1, k2, k3⟩ := box2 qa.out hb2; obtain ⟨pb, k4, k5, k6, k7⟩ := box2 qb.out hb2; replace hB := below_step hB hb2)
      | (go_at_call 40; (with_reducible refine (rdist_any a1 a2 b1 b2 d _ hdd).mono ?_); rintro e w2 ⟨rfl, hb3⟩; replace hB := below_step hB hb3))
    go_ret
    exact ⟨congrArg (fun z => Ending.returned (.bool z)) hz.out.symm, hB⟩

def btF (a b c : Int) : Bool := decide (min a b ≤ c) && decide (c ≤ max a b)
theorem btF_iff (a b c : Int) : btF a b c = true ↔ bt a b c := by unfold btF bt; simp
def bt2 (a b c : Pt) : Bool := btF a.1 b.1 c.1 && btF a.2 b.2 c.2


set_option maxRecDepth 100000 in
set_option maxHeartbeats 8000000 in
theorem rbt_any (a1 a2 b1 b2 c1 c2 : Int) (r : Bool) (w : World) (hr : Hid (bt2 (a1, a2) (b1, b2) (c1, c2) = r)) :
    Calls Try.prog 80 #[sp a1 a2, sp b1 b2, sp c1 c2] w fun e w' => e = .returned (.bool r) ∧ Below w.heap.size w w' := by

  rcases Int.lt_trichotomy a1 b1 with h | rfl | h
  · by_cases X1 : c1 < a1
    · have Xd : decide (a1 ≤ c1) = false := decide_eq_false (by omega)
      have hx : btF a1 b1 c1 = false := by unfold btF; rw [Bool.and_eq_false_iff]; simp only [decide_eq_false_iff_not]; omega
      have hz : Hid (r = false) := by show r = false; rw [← hr.out]; unfold bt2; simp only; rw [hx]; simp
      clear hx
      go_enter Try.func80, Try.ntmps80
      go_wp2
      go_ret
      exact ⟨congrArg (fun z => Ending.returned (.bool z)) hz.out.symm, (((Below.refl _ _).alloc (Nat.le_refl _) _).alloc (by simp) _).alloc (by simp; omega) _⟩
    · have Xd : decide (a1 ≤ c1) = true := decide_eq_true (by omega)
      by_cases X2 : b1 < c1
      · have Xe : decide (c1 ≤ b1) = false := decide_eq_false (by omega)
        have hx : btF a1 b1 c1 = false := by unfold btF; rw [Bool.and_eq_false_iff]; simp only [decide_eq_false_iff_not]; omega
        have hz : Hid (r = false) := by show r = false; rw [← hr.out]; unfold bt2; simp only; rw [hx]; simp
        clear hx
        go_enter Try.func80, Try.ntmps80
        go_wp2
        go_ret
        exact ⟨congrArg (fun z => Ending.returned (.bool z)) hz.out.symm, (((Below.refl _ _).alloc (Nat.le_refl _) _).alloc (by simp) _).alloc (by simp; omega) _⟩
      · have Xe : decide (c1 ≤ b1) = true := decide_eq_true (by omega)
        have hX : btF a1 b1 c1 = true := by unfold btF; rw [Bool.and_eq_true]; simp only [decide_eq_true_eq]; omega
        rcases Int.lt_trichotomy a2 b2 with g | rfl | g
        · by_cases Y1 : c2 < a2
          · have Yd : decide (a2 ≤ c2) = false := decide_eq_false (by omega)
            have hx : btF a2 b2 c2 = false := by unfold btF; rw [Bool.and_eq_false_iff]; simp only [decide_eq_false_iff_not]; omega
            have hz : Hid (r = false) := by show r = false; rw [← hr.out]; unfold bt2; simp only; rw [hx]; simp
            clear hx
            go_enter Try.func80, Try.ntmps80
            go_wp2
            go_ret
            exact ⟨congrArg (fun z => Ending.returned (.bool z)) hz.out.symm, (((Below.refl _ _).alloc (Nat.le_refl _) _).alloc (by simp) _).alloc (by simp; omega) _⟩
          · have Yd : decide (a2 ≤ c2) = true := decide_eq_true (by omega)
            by_cases Y2 : b2 < c2
            · have Ye : decide (c2 ≤ b2) = false := decide_eq_false (by omega)
              have hx : btF a2 b2 c2 = false := by unfold btF; rw [Bool.and_eq_false_iff]; simp only [decide_eq_false_iff_not]; omega
              have hz : Hid (r = false) := by show r = false; rw [← hr.out]; unfold bt2; simp only; rw [hx]; simp
              clear hx
              go_enter Try.func80, Try.ntmps80
              go_wp2
              go_ret
              exact ⟨congrArg (fun z => Ending.returned (.bool z)) hz.out.symm, (((Below.refl _ _).alloc (Nat.le_refl _) _).alloc (by simp) _).alloc (by simp; omega) _⟩
            · have Ye : decide (c2 ≤ b2) = true := decide_eq_true (by omega)
              have hY : btF a2 b2 c2 = true := by unfold btF; rw [Bool.and_eq_true]; simp only [decide_eq_true_eq]; omega
              have hz : Hid (r = true) := by show r = true; rw [← hr.out]; unfold bt2; simp only; rw [hX, hY]; rfl
              clear hX hY
              go_enter Try.func80, Try.ntmps80
              go_wp2
              go_ret
              exact ⟨congrArg (fun z => Ending.returned (.bool z)) hz.out.symm, (((Below.refl _ _).alloc (Nat.le_refl _) _).alloc (by simp) _).alloc (by simp; omega) _⟩
        · by_cases Y1 : c2 < a2
          · have Yd : decide (a2 ≤ c2) = false := decide_eq_false (by omega)
            have hx : btF a2 a2 c2 = false := by unfold btF; rw [Bool.and_eq_false_iff]; simp only [decide_eq_false_iff_not]; omega
            have hz : Hid (r = false) := by show r = false; rw [← hr.out]; unfold bt2; simp only; rw [hx]; simp
            clear hx
            go_enter Try.func80, Try.ntmps80
            go_wp2
            go_ret
            exact ⟨congrArg (fun z => Ending.returned (.bool z)) hz.out.symm, (((Below.refl _ _).alloc (Nat.le_refl _) _).alloc (by simp) _).alloc (by simp; omega) _⟩
          · have Yd : decide (a2 ≤ c2) = true := decide_eq_true (by omega)
            by_cases Y2 : a2 < c2
            · have Ye : decide (c2 ≤ a2) = false := decide_eq_false (by omega)
              have hx : btF a2 a2 c2 = false := by unfold btF; rw [Bool.and_eq_false_iff]; simp only [decide_eq_false_iff_not]; omega
              have hz : Hid (r = false) := by show r = false; rw [← hr.out]; unfold bt2; simp only; rw [hx]; simp
              clear hx
              go_enter Try.func80, Try.ntmps80
              go_wp2
              go_ret
              exact ⟨congrArg (fun z => Ending.returned (.bool z)) hz.out.symm, (((Below.refl _ _).alloc (Nat.le_refl _) _).alloc (by simp) _).alloc (by simp; omega) _⟩
            · have Ye : decide (c2 ≤ a2) = true := decide_eq_true (by omega)
              have hY : btF a2 a2 c2 = true := by unfold btF; rw [Bool.and_eq_true]; simp only [decide_eq_true_eq]; omega
              have hz : Hid (r = true) := by show r = true; rw [← hr.out]; unfold bt2; simp only; rw [hX, hY]; rfl
              clear hX hY
              go_enter Try.func80, Try.ntmps80
              go_wp2
              go_ret
              exact ⟨congrArg (fun z => Ending.returned (.bool z)) hz.out.symm, (((Below.refl _ _).alloc (Nat.le_refl _) _).alloc (by simp) _).alloc (by simp; omega) _⟩
        · by_cases Y1 : c2 < b2
          · have Yd : decide (b2 ≤ c2) = false := decide_eq_false (by omega)
            have hx : btF a2 b2 c2 = false := by unfold btF; rw [Bool.and_eq_false_iff]; simp only [decide_eq_false_iff_not]; omega
            have hz : Hid (r = false) := by show r = false; rw [← hr.out]; unfold bt2; simp only; rw [hx]; simp
            clear hx
            go_enter Try.func80, Try.ntmps80
            go_wp2
            go_ret
            exact ⟨congrArg (fun z => Ending.returned (.bool z)) hz.out.symm, (((Below.refl _ _).alloc (Nat.le_refl _) _).alloc (by simp) _).alloc (by simp; omega) _⟩
          · have Yd : decide (b2 ≤ c2) = true := decide_eq_true (by omega)
            by_cases Y2 : a2 < c2
            · have Ye : decide (c2 ≤ a2) = false := decide_eq_false (by omega)
              have hx : btF a2 b2 c2 = false := by unfold btF; rw [Bool.and_eq_false_iff]; simp only [decide_eq_false_iff_not]; omega
              have hz : Hid (r = false) := by show r = false; rw [← hr.out]; unfold bt2; simp only; rw [hx]; simp
              clear hx
              go_enter Try.func80, Try.ntmps80
              go_wp2
              go_ret
              exact ⟨congrArg (fun z => Ending.returned (.bool z)) hz.out.symm, (((Below.refl _ _).alloc (Nat.le_refl _) _).alloc (by simp) _).alloc (by simp; omega) _⟩
            · have Ye : decide (c2 ≤ a2) = true := decide_eq_true (by omega)
              have hY : btF a2 b2 c2 = true := by unfold btF; rw [Bool.and_eq_true]; simp only [decide_eq_true_eq]; omega
              have hz : Hid (r = true) := by show r = true; rw [← hr.out]; unfold bt2; simp only; rw [hX, hY]; rfl
              clear hX hY
              go_enter Try.func80, Try.ntmps80
              go_wp2
              go_ret
              exact ⟨congrArg (fun z => Ending.returned (.bool z)) hz.out.symm, (((Below.refl _ _).alloc (Nat.le_refl _) _).alloc (by simp) _).alloc (by simp; omega) _⟩
  · by_cases X1 : c1 < a1
    · have Xd : decide (a1 ≤ c1) = false := decide_eq_false (by omega)
      have hx : btF a1 a1 c1 = false := by unfold btF; rw [Bool.and_eq_false_iff]; simp only [decide_eq_false_iff_not]; omega
      have hz : Hid (r = false) := by show r = false; rw [← hr.out]; unfold bt2; simp only; rw [hx]; simp
      clear hx
      go_enter Try.func80, Try.ntmps80
      go_wp2
      go_ret
      exact ⟨congrArg (fun z => Ending.returned (.bool z)) hz.out.symm, (((Below.refl _ _).alloc (Nat.le_refl _) _).alloc (by simp) _).alloc (by simp; omega) _⟩
    · have Xd : decide (a1 ≤ c1) = true := decide_eq_true (by omega)
      by_cases X2 : a1 < c1
      · have Xe : decide (c1 ≤ a1) = false := decide_eq_false (by omega)
        have hx : btF a1 a1 c1 = false := by unfold btF; rw [Bool.and_eq_false_iff]; simp only [decide_eq_false_iff_not]; omega
        have hz : Hid (r = false) := by show r = false; rw [← hr.out]; unfold bt2; simp only; rw [hx]; simp
        clear hx
        go_enter Try.func80, Try.ntmps80
        go_wp2
        go_ret
        exact ⟨congrArg (fun z => Ending.returned (.bool z)) hz.out.symm, (((Below.refl _ _).alloc (Nat.le_refl _) _).alloc (by simp) _).alloc (by simp; omega) _⟩
      · have Xe : decide (c1 ≤ a1) = true := decide_eq_true (by omega)
        have hX : btF a1 a1 c1 = true := by unfold btF; rw [Bool.and_eq_true]; simp only [decide_eq_true_eq]; omega
        rcases Int.lt_trichotomy a2 b2 with g | rfl | g
        · by_cases Y1 : c2 < a2
          · have Yd : decide (a2 ≤ c2) = false := decide_eq_false (by omega)
            have hx : btF a2 b2 c2 = false := by unfold btF; rw [Bool.and_eq_false_iff]; simp only [decide_eq_false_iff_not]; omega
            have hz : Hid (r = false) := by show r = false; rw [← hr.out]; unfold bt2; simp only; rw [hx]; simp
            clear hx
            go_enter Try.func80, Try.ntmps80
            go_wp2
            go_ret
            exact ⟨congrArg (fun z => Ending.returned (.bool z)) hz.out.symm, (((Below.refl _ _).alloc (Nat.le_refl _) _).alloc (by simp) _).alloc (by simp; omega) _⟩
          · have Yd : decide (a2 ≤ c2) = true := decide_eq_true (by omega)
            by_cases Y2 : b2 < c2
            · have Ye : decide (c2 ≤ b2) = false := decide_eq_false (by omega)
              have hx : btF a2 b2 c2 = false := by unfold btF; rw [Bool.and_eq_false_iff]; simp only [decide_eq_false_iff_not]; omega
              have hz : Hid (r = false) := by show r = false; rw [← hr.out]; unfold bt2; simp only; rw [hx]; simp
              clear hx
              go_enter Try.func80, Try.ntmps80
              go_wp2
              go_ret
              exact ⟨congrArg (fun z => Ending.returned (.bool z)) hz.out.symm, (((Below.refl _ _).alloc (Nat.le_refl _) _).alloc (by simp) _).alloc (by simp; omega) _⟩
            · have Ye : decide (c2 ≤ b2) = true := decide_eq_true (by omega)
              have hY : btF a2 b2 c2 = true := by unfold btF; rw [Bool.and_eq_true]; simp only [decide_eq_true_eq]; omega
              have hz : Hid (r = true) := by show r = true; rw [← hr.out]; unfold bt2; simp only; rw [hX, hY]; rfl
              clear hX hY
              go_enter Try.func80, Try.ntmps80
              go_wp2
              go_ret
              exact ⟨congrArg (fun z => Ending.returned (.bool z)) hz.out.symm, (((Below.refl _ _).alloc (Nat.le_refl _) _).alloc (by simp) _).alloc (by simp; omega) _⟩
        · by_cases Y1 : c2 < a2
          · have Yd : decide (a2 ≤ c2) = false := decide_eq_false (by omega)
            have hx : btF a2 a2 c2 = false := by unfold btF; rw [Bool.and_eq_false_iff]; simp only [decide_eq_false_iff_not]; omega
            have hz : Hid (r = false) := by show r = false; rw [← hr.out]; unfold bt2; simp only; rw [hx]; simp
            clear hx
            go_enter Try.func80, Try.ntmps80
            go_wp2
            go_ret
            exact ⟨congrArg (fun z => Ending.returned (.bool z)) hz.out.symm, (((Below.refl _ _).alloc (Nat.le_refl _) _).alloc (by simp) _).alloc (by simp; omega) _⟩
          · have Yd : decide (a2 ≤ c2) = true := decide_eq_true (by omega)
            by_cases Y2 : a2 < c2
            · have Ye : decide (c2 ≤ a2) = false := decide_eq_false (by omega)
              have hx : btF a2 a2 c2 = false := by unfold btF; rw [Bool.and_eq_false_iff]; simp only [decide_eq_false_iff_not]; omega
              have hz : Hid (r = false) := by show r = false; rw [← hr.out]; unfold bt2; simp only; rw [hx]; simp
              clear hx
              go_enter Try.func80, Try.ntmps80
              go_wp2
              go_ret
              exact ⟨congrArg (fun z => Ending.returned (.bool z)) hz.out.symm, (((Below.refl _ _).alloc (Nat.le_refl _) _).alloc (by simp) _).alloc (by simp; omega) _⟩
            · have Ye : decide (c2 ≤ a2) = true := decide_eq_true (by omega)
              have hY : btF a2 a2 c2 = true := by unfold btF; rw [Bool.and_eq_true]; simp only [decide_eq_true_eq]; omega
              have hz : Hid (r = true) := by show r = true; rw [← hr.out]; unfold bt2; simp only; rw [hX, hY]; rfl
              clear hX hY
              go_enter Try.func80, Try.ntmps80
              go_wp2
              go_ret
              exact ⟨congrArg (fun z => Ending.returned (.bool z)) hz.out.symm, (((Below.refl _ _).alloc (Nat.le_refl _) _).alloc (by simp) _).alloc (by simp; omega) _⟩
        · by_cases Y1 : c2 < b2
          · have Yd : decide (b2 ≤ c2) = false := decide_eq_false (by omega)
            have hx : btF a2 b2 c2 = false := by unfold btF; rw [Bool.and_eq_false_iff]; simp only [decide_eq_false_iff_not]; omega
            have hz : Hid (r = false) := by show r = false; rw [← hr.out]; unfold bt2; simp only; rw [hx]; simp
            clear hx
            go_enter Try.func80, Try.ntmps80
            go_wp2
            go_ret
            exact ⟨congrArg (fun z => Ending.returned (.bool z)) hz.out.symm, (((Below.refl _ _).alloc (Nat.le_refl _) _).alloc (by simp) _).alloc (by simp; omega) _⟩
          · have Yd : decide (b2 ≤ c2) = true := decide_eq_true (by omega)
            by_cases Y2 : a2 < c2
            · have Ye : decide (c2 ≤ a2) = false := decide_eq_false (by omega)
              have hx : btF a2 b2 c2 = false := by unfold btF; rw [Bool.and_eq_false_iff]; simp only [decide_eq_false_iff_not]; omega
              have hz : Hid (r = false) := by show r = false; rw [← hr.out]; unfold bt2; simp only; rw [hx]; simp
              clear hx
              go_enter Try.func80, Try.ntmps80
              go_wp2
              go_ret
              exact ⟨congrArg (fun z => Ending.returned (.bool z)) hz.out.symm, (((Below.refl _ _).alloc (Nat.le_refl _) _).alloc (by simp) _).alloc (by simp; omega) _⟩
            · have Ye : decide (c2 ≤ a2) = true := decide_eq_true (by omega)
              have hY : btF a2 b2 c2 = true := by unfold btF; rw [Bool.and_eq_true]; simp only [decide_eq_true_eq]; omega
              have hz : Hid (r = true) := by show r = true; rw [← hr.out]; unfold bt2; simp only; rw [hX, hY]; rfl
              clear hX hY
              go_enter Try.func80, Try.ntmps80
              go_wp2
              go_ret
              exact ⟨congrArg (fun z => Ending.returned (.bool z)) hz.out.symm, (((Below.refl _ _).alloc (Nat.le_refl _) _).alloc (by simp) _).alloc (by simp; omega) _⟩
  · by_cases X1 : c1 < b1
    · have Xd : decide (b1 ≤ c1) = false := decide_eq_false (by omega)
      have hx : btF a1 b1 c1 = false := by unfold btF; rw [Bool.and_eq_false_iff]; simp only [decide_eq_false_iff_not]; omega
      have hz : Hid (r = false) := by show r = false; rw [← hr.out]; unfold bt2; simp only; rw [hx]; simp
      clear hx
      go_enter Try.func80, Try.ntmps80
      go_wp2
      go_ret
      exact ⟨congrArg (fun z => Ending.returned (.bool z)) hz.out.symm, (((Below.refl _ _).alloc (Nat.le_refl _) _).alloc (by simp) _).alloc (by simp; omega) _⟩
    · have Xd : decide (b1 ≤ c1) = true := decide_eq_true (by omega)
      by_cases X2 : a1 < c1
      · have Xe : decide (c1 ≤ a1) = false := decide_eq_false (by omega)
        have hx : btF a1 b1 c1 = false := by unfold btF; rw [Bool.and_eq_false_iff]; simp only [decide_eq_false_iff_not]; omega
        have hz : Hid (r = false) := by show r = false; rw [← hr.out]; unfold bt2; simp only; rw [hx]; simp
        clear hx
        go_enter Try.func80, Try.ntmps80
        go_wp2
        go_ret
        exact ⟨congrArg (fun z => Ending.returned (.bool z)) hz.out.symm, (((Below.refl _ _).alloc (Nat.le_refl _) _).alloc (by simp) _).alloc (by simp; omega) _⟩
      · have Xe : decide (c1 ≤ a1) = true := decide_eq_true (by omega)
        have hX : btF a1 b1 c1 = true := by unfold btF; rw [Bool.and_eq_true]; simp only [decide_eq_true_eq]; omega
        rcases Int.lt_trichotomy a2 b2 with g | rfl | g
        · by_cases Y1 : c2 < a2
          · have Yd : decide (a2 ≤ c2) = false := decide_eq_false (by omega)
            have hx : btF a2 b2 c2 = false := by unfold btF; rw [Bool.and_eq_false_iff]; simp only [decide_eq_false_iff_not]; omega
            have hz : Hid (r = false) := by show r = false; rw [← hr.out]; unfold bt2; simp only; rw [hx]; simp
            clear hx
            go_enter Try.func80, Try.ntmps80
            go_wp2
            go_ret
            exact ⟨congrArg (fun z => Ending.returned (.bool z)) hz.out.symm, (((Below.refl _ _).alloc (Nat.le_refl _) _).alloc (by simp) _).alloc (by simp; omega) _⟩
          · have Yd : decide (a2 ≤ c2) = true := decide_eq_true (by omega)
            by_cases Y2 : b2 < c2
            · have Ye : decide (c2 ≤ b2) = false := decide_eq_false (by omega)
              have hx : btF a2 b2 c2 = false := by unfold btF; rw [Bool.and_eq_false_iff]; simp only [decide_eq_false_iff_not]; omega
              have hz : Hid (r = false) := by show r = false; rw [← hr.out]; unfold bt2; simp only; rw [hx]; simp
              clear hx
              go_enter Try.func80, Try.ntmps80
              go_wp2
              go_ret
              exact ⟨congrArg (fun z => Ending.returned (.bool z)) hz.out.symm, (((Below.refl _ _).alloc (Nat.le_refl _) _).alloc (by simp) _).alloc (by simp; omega) _⟩
            · have Ye : decide (c2 ≤ b2) = true := decide_eq_true (by omega)
              have hY : btF a2 b2 c2 = true := by unfold btF; rw [Bool.and_eq_true]; simp only [decide_eq_true_eq]; omega
              have hz : Hid (r = true) := by show r = true; rw [← hr.out]; unfold bt2; simp only; rw [hX, hY]; rfl
              clear hX hY
              go_enter Try.func80, Try.ntmps80
              go_wp2
              go_ret
              exact ⟨congrArg (fun z => Ending.returned (.bool z)) hz.out.symm, (((Below.refl _ _).alloc (Nat.le_refl _) _).alloc (by simp) _).alloc (by simp; omega) _⟩
        · by_cases Y1 : c2 < a2
          · have Yd : decide (a2 ≤ c2) = false := decide_eq_false (by omega)
            have hx : btF a2 a2 c2 = false := by unfold btF; rw [Bool.and_eq_false_iff]; simp only [decide_eq_false_iff_not]; omega
            have hz : Hid (r = false) := by show r = false; rw [← hr.out]; unfold bt2; simp only; rw [hx]; simp
            clear hx
            go_enter Try.func80, Try.ntmps80
            go_wp2
            go_ret
            exact ⟨congrArg (fun z => Ending.returned (.bool z)) hz.out.symm, (((Below.refl _ _).alloc (Nat.le_refl _) _).alloc (by simp) _).alloc (by simp; omega) _⟩
          · have Yd : decide (a2 ≤ c2) = true := decide_eq_true (by omega)
            by_cases Y2 : a2 < c2
            · have Ye : decide (c2 ≤ a2) = false := decide_eq_false (by omega)
              have hx : btF a2 a2 c2 = false := by unfold btF; rw [Bool.and_eq_false_iff]; simp only [decide_eq_false_iff_not]; omega
              have hz : Hid (r = false) := by show r = false; rw [← hr.out]; unfold bt2; simp only; rw [hx]; simp
              clear hx
              go_enter Try.func80, Try.ntmps80
              go_wp2
              go_ret
              exact ⟨congrArg (fun z => Ending.returned (.bool z)) hz.out.symm, (((Below.refl _ _).alloc (Nat.le_refl _) _).alloc (by simp) _).alloc (by simp; omega) _⟩
            · have Ye : decide (c2 ≤ a2) = true := decide_eq_true (by omega)
              have hY : btF a2 a2 c2 = true := by unfold btF; rw [Bool.and_eq_true]; simp only [decide_eq_true_eq]; omega
              have hz : Hid (r = true) := by show r = true; rw [← hr.out]; unfold bt2; simp only; rw [hX, hY]; rfl
              clear hX hY
              go_enter Try.func80, Try.ntmps80
              go_wp2
              go_ret
              exact ⟨congrArg (fun z => Ending.returned (.bool z)) hz.out.symm, (((Below.refl _ _).alloc (Nat.le_refl _) _).alloc (by simp) _).alloc (by simp; omega) _⟩
        · by_cases Y1 : c2 < b2
          · have Yd : decide (b2 ≤ c2) = false := decide_eq_false (by omega)
            have hx : btF a2 b2 c2 = false := by unfold btF; rw [Bool.and_eq_false_iff]; simp only [decide_eq_false_iff_not]; omega
            have hz : Hid (r = false) := by show r = false; rw [← hr.out]; unfold bt2; simp only; rw [hx]; simp
            clear hx
            go_enter Try.func80, Try.ntmps80
            go_wp2
            go_ret
            exact ⟨congrArg (fun z => Ending.returned (.bool z)) hz.out.symm, (((Below.refl _ _).alloc (Nat.le_refl _) _).alloc (by simp) _).alloc (by simp; omega) _⟩
          · have Yd : decide (b2 ≤ c2) = true := decide_eq_true (by omega)
            by_cases Y2 : a2 < c2
            · have Ye : decide (c2 ≤ a2) = false := decide_eq_false (by omega)
              have hx : btF a2 b2 c2 = false := by unfold btF; rw [Bool.and_eq_false_iff]; simp only [decide_eq_false_iff_not]; omega
              have hz : Hid (r = false) := by show r = false; rw [← hr.out]; unfold bt2; simp only; rw [hx]; simp
              clear hx
              go_enter Try.func80, Try.ntmps80
              go_wp2
              go_ret
              exact ⟨congrArg (fun z => Ending.returned (.bool z)) hz.out.symm, (((Below.refl _ _).alloc (Nat.le_refl _) _).alloc (by simp) _).alloc (by simp; omega) _⟩
            · have Ye : decide (c2 ≤ a2) = true := decide_eq_true (by omega)
              have hY : btF a2 b2 c2 = true := by unfold btF; rw [Bool.and_eq_true]; simp only [decide_eq_true_eq]; omega
              have hz : Hid (r = true) := by show r = true; rw [← hr.out]; unfold bt2; simp only; rw [hX, hY]; rfl
              clear hX hY
              go_enter Try.func80, Try.ntmps80
              go_wp2
              go_ret
              exact ⟨congrArg (fun z => Ending.returned (.bool z)) hz.out.symm, (((Below.refl _ _).alloc (Nat.le_refl _) _).alloc (by simp) _).alloc (by simp; omega) _⟩
end Go.Proofs.Ytglkpabcflecmaa
