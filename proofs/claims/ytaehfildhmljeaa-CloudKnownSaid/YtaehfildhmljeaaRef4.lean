/- The reference's 'between'. The reference's 'Blocks': the mathematics. The reference's 'Blocks'. -/
import Derived.Test.YtaehfildhmljeaaRef1
import Derived.Test.YtaehfildhmljeaaBlo
namespace Go.Proofs.Ytaehfildhmljeaa
open Go.RowKit Go.Shelf

def btF (a b c : Int) : Bool := decide (min a b ≤ c) && decide (c ≤ max a b)
theorem btF_iff (a b c : Int) : btF a b c = true ↔ bt a b c := by unfold btF bt; simp
def bt2 (a b c : Pt) : Bool := btF a.1 b.1 c.1 && btF a.2 b.2 c.2


set_option maxRecDepth 100000 in
set_option maxHeartbeats 8000000 in
theorem rbt_any (a1 a2 b1 b2 c1 c2 : Int) (r : Bool) (w : World) (hr : Hid (bt2 (a1, a2) (b1, b2) (c1, c2) = r)) :
    Calls Try.prog 121 #[sp a1 a2, sp b1 b2, sp c1 c2] w fun e w' => e = .returned (.bool r) ∧ Below w.heap.size w w' := by

  rcases Int.lt_trichotomy a1 b1 with h | rfl | h
  · by_cases X1 : c1 < a1
    · have Xd : decide (a1 ≤ c1) = false := decide_eq_false (by omega)
      have hx : btF a1 b1 c1 = false := by unfold btF; rw [Bool.and_eq_false_iff]; simp only [decide_eq_false_iff_not]; omega
      have hz : Hid (r = false) := by show r = false; rw [← hr.out]; unfold bt2; simp only; rw [hx]; simp
      clear hx
      go_enter Try.func121, Try.ntmps121
      go_wp2
      go_ret
      exact ⟨congrArg (fun z => Ending.returned (.bool z)) hz.out.symm, (((Below.refl _ _).alloc (Nat.le_refl _) _).alloc (by simp) _).alloc (by simp; omega) _⟩
    · have Xd : decide (a1 ≤ c1) = true := decide_eq_true (by omega)
      by_cases X2 : b1 < c1
      · have Xe : decide (c1 ≤ b1) = false := decide_eq_false (by omega)
        have hx : btF a1 b1 c1 = false := by unfold btF; rw [Bool.and_eq_false_iff]; simp only [decide_eq_false_iff_not]; omega
        have hz : Hid (r = false) := by show r = false; rw [← hr.out]; unfold bt2; simp only; rw [hx]; simp
        clear hx
        go_enter Try.func121, Try.ntmps121
        go_wp2
        go_ret
        exact ⟨congrArg (fun z => Ending.returned (.bool z)) hz.out.symm, (((Below.refl _ _).alloc (Nat.le_refl _) _).alloc (by simp) _).alloc (by simp; omega) _⟩
      · have Xe : decide (c1 ≤ b1) = true := decide_eq_true (by omega)
        have hX : btF a1 b1 c1 = true := by unfold btF; rw [Bool.and_eq_true]; simp only [decide_eq_true_eq]; omega
        rcases Int.lt_trichotomy a2 b2 with g | rfl | g
        · by_cases Y1 : c2 < a2
          · have Yd : decide (a2 ≤ c2) = false := decide_eq_false (by omega)
            have hx : btF a2 b2 c2 = false := by unfold btF; rw [Bool.and_eq_false_iff]; simp only [decide_eq_false_iff_not]; omega
            have hz : Hid (r = false) := by show r = false; rw [← hr.out]; unfold bt2; simp only; rw [hx]; simp
            clear hx
            go_enter Try.func121, Try.ntmps121
            go_wp2
            go_ret
            exact ⟨congrArg (fun z => Ending.returned (.bool z)) hz.out.symm, (((Below.refl _ _).alloc (Nat.le_refl _) _).alloc (by simp) _).alloc (by simp; omega) _⟩
          · have Yd : decide (a2 ≤ c2) = true := decide_eq_true (by omega)
            by_cases Y2 : b2 < c2
            · have Ye : decide (c2 ≤ b2) = false := decide_eq_false (by omega)
              have hx : btF a2 b2 c2 = false := by unfold btF; rw [Bool.and_eq_false_iff]; simp only [decide_eq_false_iff_not]; omega
              have hz : Hid (r = false) := by show r = false; rw [← hr.out]; unfold bt2; simp only; rw [hx]; simp
              clear hx
              go_enter Try.func121, Try.ntmps121
              go_wp2
              go_ret
              exact ⟨congrArg (fun z => Ending.returned (.bool z)) hz.out.symm, (((Below.refl _ _).alloc (Nat.le_refl _) _).alloc (by simp) _).alloc (by simp; omega) _⟩
            · have Ye : decide (c2 ≤ b2) = true := decide_eq_true (by omega)
              have hY : btF a2 b2 c2 = true := by unfold btF; rw [Bool.and_eq_true]; simp only [decide_eq_true_eq]; omega
              have hz : Hid (r = true) := by show r = true; rw [← hr.out]; unfold bt2; simp only; rw [hX, hY]; rfl
              clear hX hY
              go_enter Try.func121, Try.ntmps121
              go_wp2
              go_ret
              exact ⟨congrArg (fun z => Ending.returned (.bool z)) hz.out.symm, (((Below.refl _ _).alloc (Nat.le_refl _) _).alloc (by simp) _).alloc (by simp; omega) _⟩
        · by_cases Y1 : c2 < a2
          · have Yd : decide (a2 ≤ c2) = false := decide_eq_false (by omega)
            have hx : btF a2 a2 c2 = false := by unfold btF; rw [Bool.and_eq_false_iff]; simp only [decide_eq_false_iff_not]; omega
            have hz : Hid (r = false) := by show r = false; rw [← hr.out]; unfold bt2; simp only; rw [hx]; simp
            clear hx
            go_enter Try.func121, Try.ntmps121
            go_wp2
            go_ret
            exact ⟨congrArg (fun z => Ending.returned (.bool z)) hz.out.symm, (((Below.refl _ _).alloc (Nat.le_refl _) _).alloc (by simp) _).alloc (by simp; omega) _⟩
          · have Yd : decide (a2 ≤ c2) = true := decide_eq_true (by omega)
            by_cases Y2 : a2 < c2
            · have Ye : decide (c2 ≤ a2) = false := decide_eq_false (by omega)
              have hx : btF a2 a2 c2 = false := by unfold btF; rw [Bool.and_eq_false_iff]; simp only [decide_eq_false_iff_not]; omega
              have hz : Hid (r = false) := by show r = false; rw [← hr.out]; unfold bt2; simp only; rw [hx]; simp
              clear hx
              go_enter Try.func121, Try.ntmps121
              go_wp2
              go_ret
              exact ⟨congrArg (fun z => Ending.returned (.bool z)) hz.out.symm, (((Below.refl _ _).alloc (Nat.le_refl _) _).alloc (by simp) _).alloc (by simp; omega) _⟩
            · have Ye : decide (c2 ≤ a2) = true := decide_eq_true (by omega)
              have hY : btF a2 a2 c2 = true := by unfold btF; rw [Bool.and_eq_true]; simp only [decide_eq_true_eq]; omega
              have hz : Hid (r = true) := by show r = true; rw [← hr.out]; unfold bt2; simp only; rw [hX, hY]; rfl
              clear hX hY
              go_enter Try.func121, Try.ntmps121
              go_wp2
              go_ret
              exact ⟨congrArg (fun z => Ending.returned (.bool z)) hz.out.symm, (((Below.refl _ _).alloc (Nat.le_refl _) _).alloc (by simp) _).alloc (by simp; omega) _⟩
        · by_cases Y1 : c2 < b2
          · have Yd : decide (b2 ≤ c2) = false := decide_eq_false (by omega)
            have hx : btF a2 b2 c2 = false := by unfold btF; rw [Bool.and_eq_false_iff]; simp only [decide_eq_false_iff_not]; omega
            have hz : Hid (r = false) := by show r = false; rw [← hr.out]; unfold bt2; simp only; rw [hx]; simp
            clear hx
            go_enter Try.func121, Try.ntmps121
            go_wp2
            go_ret
            exact ⟨congrArg (fun z => Ending.returned (.bool z)) hz.out.symm, (((Below.refl _ _).alloc (Nat.le_refl _) _).alloc (by simp) _).alloc (by simp; omega) _⟩
          · have Yd : decide (b2 ≤ c2) = true := decide_eq_true (by omega)
            by_cases Y2 : a2 < c2
            · have Ye : decide (c2 ≤ a2) = false := decide_eq_false (by omega)
              have hx : btF a2 b2 c2 = false := by unfold btF; rw [Bool.and_eq_false_iff]; simp only [decide_eq_false_iff_not]; omega
              have hz : Hid (r = false) := by show r = false; rw [← hr.out]; unfold bt2; simp only; rw [hx]; simp
              clear hx
              go_enter Try.func121, Try.ntmps121
              go_wp2
              go_ret
              exact ⟨congrArg (fun z => Ending.returned (.bool z)) hz.out.symm, (((Below.refl _ _).alloc (Nat.le_refl _) _).alloc (by simp) _).alloc (by simp; omega) _⟩
            · have Ye : decide (c2 ≤ a2) = true := decide_eq_true (by omega)
              have hY : btF a2 b2 c2 = true := by unfold btF; rw [Bool.and_eq_true]; simp only [decide_eq_true_eq]; omega
              have hz : Hid (r = true) := by show r = true; rw [← hr.out]; unfold bt2; simp only; rw [hX, hY]; rfl
              clear hX hY
              go_enter Try.func121, Try.ntmps121
              go_wp2
              go_ret
              exact ⟨congrArg (fun z => Ending.returned (.bool z)) hz.out.symm, (((Below.refl _ _).alloc (Nat.le_refl _) _).alloc (by simp) _).alloc (by simp; omega) _⟩
  · by_cases X1 : c1 < a1
    · have Xd : decide (a1 ≤ c1) = false := decide_eq_false (by omega)
      have hx : btF a1 a1 c1 = false := by unfold btF; rw [Bool.and_eq_false_iff]; simp only [decide_eq_false_iff_not]; omega
      have hz : Hid (r = false) := by show r = false; rw [← hr.out]; unfold bt2; simp only; rw [hx]; simp
      clear hx
      go_enter Try.func121, Try.ntmps121
      go_wp2
      go_ret
      exact ⟨congrArg (fun z => Ending.returned (.bool z)) hz.out.symm, (((Below.refl _ _).alloc (Nat.le_refl _) _).alloc (by simp) _).alloc (by simp; omega) _⟩
    · have Xd : decide (a1 ≤ c1) = true := decide_eq_true (by omega)
      by_cases X2 : a1 < c1
      · have Xe : decide (c1 ≤ a1) = false := decide_eq_false (by omega)
        have hx : btF a1 a1 c1 = false := by unfold btF; rw [Bool.and_eq_false_iff]; simp only [decide_eq_false_iff_not]; omega
        have hz : Hid (r = false) := by show r = false; rw [← hr.out]; unfold bt2; simp only; rw [hx]; simp
        clear hx
        go_enter Try.func121, Try.ntmps121
        go_wp2
        go_ret
        exact ⟨congrArg (fun z => Ending.returned (.bool z)) hz.out.symm, (((Below.refl _ _).alloc (Nat.le_refl _) _).alloc (by simp) _).alloc (by simp; omega) _⟩
      · have Xe : decide (c1 ≤ a1) = true := decide_eq_true (by omega)
        have hX : btF a1 a1 c1 = true := by unfold btF; rw [Bool.and_eq_true]; simp only [decide_eq_true_eq]; omega
        rcases Int.lt_trichotomy a2 b2 with g | rfl | g
        · by_cases Y1 : c2 < a2
          · have Yd : decide (a2 ≤ c2) = false := decide_eq_false (by omega)
            have hx : btF a2 b2 c2 = false := by unfold btF; rw [Bool.and_eq_false_iff]; simp only [decide_eq_false_iff_not]; omega
            have hz : Hid (r = false) := by show r = false; rw [← hr.out]; unfold bt2; simp only; rw [hx]; simp
            clear hx
            go_enter Try.func121, Try.ntmps121
            go_wp2
            go_ret
            exact ⟨congrArg (fun z => Ending.returned (.bool z)) hz.out.symm, (((Below.refl _ _).alloc (Nat.le_refl _) _).alloc (by simp) _).alloc (by simp; omega) _⟩
          · have Yd : decide (a2 ≤ c2) = true := decide_eq_true (by omega)
            by_cases Y2 : b2 < c2
            · have Ye : decide (c2 ≤ b2) = false := decide_eq_false (by omega)
              have hx : btF a2 b2 c2 = false := by unfold btF; rw [Bool.and_eq_false_iff]; simp only [decide_eq_false_iff_not]; omega
              have hz : Hid (r = false) := by show r = false; rw [← hr.out]; unfold bt2; simp only; rw [hx]; simp
              clear hx
              go_enter Try.func121, Try.ntmps121
              go_wp2
              go_ret
              exact ⟨congrArg (fun z => Ending.returned (.bool z)) hz.out.symm, (((Below.refl _ _).alloc (Nat.le_refl _) _).alloc (by simp) _).alloc (by simp; omega) _⟩
            · have Ye : decide (c2 ≤ b2) = true := decide_eq_true (by omega)
              have hY : btF a2 b2 c2 = true := by unfold btF; rw [Bool.and_eq_true]; simp only [decide_eq_true_eq]; omega
              have hz : Hid (r = true) := by show r = true; rw [← hr.out]; unfold bt2; simp only; rw [hX, hY]; rfl
              clear hX hY
              go_enter Try.func121, Try.ntmps121
              go_wp2
              go_ret
              exact ⟨congrArg (fun z => Ending.returned (.bool z)) hz.out.symm, (((Below.refl _ _).alloc (Nat.le_refl _) _).alloc (by simp) _).alloc (by simp; omega) _⟩
        · by_cases Y1 : c2 < a2
          · have Yd : decide (a2 ≤ c2) = false := decide_eq_false (by omega)
            have hx : btF a2 a2 c2 = false := by unfold btF; rw [Bool.and_eq_false_iff]; simp only [decide_eq_false_iff_not]; omega
            have hz : Hid (r = false) := by show r = false; rw [← hr.out]; unfold bt2; simp only; rw [hx]; simp
            clear hx
            go_enter Try.func121, Try.ntmps121
            go_wp2
            go_ret
            exact ⟨congrArg (fun z => Ending.returned (.bool z)) hz.out.symm, (((Below.refl _ _).alloc (Nat.le_refl _) _).alloc (by simp) _).alloc (by simp; omega) _⟩
          · have Yd : decide (a2 ≤ c2) = true := decide_eq_true (by omega)
            by_cases Y2 : a2 < c2
            · have Ye : decide (c2 ≤ a2) = false := decide_eq_false (by omega)
              have hx : btF a2 a2 c2 = false := by unfold btF; rw [Bool.and_eq_false_iff]; simp only [decide_eq_false_iff_not]; omega
              have hz : Hid (r = false) := by show r = false; rw [← hr.out]; unfold bt2; simp only; rw [hx]; simp
              clear hx
              go_enter Try.func121, Try.ntmps121
              go_wp2
              go_ret
              exact ⟨congrArg (fun z => Ending.returned (.bool z)) hz.out.symm, (((Below.refl _ _).alloc (Nat.le_refl _) _).alloc (by simp) _).alloc (by simp; omega) _⟩
            · have Ye : decide (c2 ≤ a2) = true := decide_eq_true (by omega)
              have hY : btF a2 a2 c2 = true := by unfold btF; rw [Bool.and_eq_true]; simp only [decide_eq_true_eq]; omega
              have hz : Hid (r = true) := by show r = true; rw [← hr.out]; unfold bt2; simp only; rw [hX, hY]; rfl
              clear hX hY
              go_enter Try.func121, Try.ntmps121
              go_wp2
              go_ret
              exact ⟨congrArg (fun z => Ending.returned (.bool z)) hz.out.symm, (((Below.refl _ _).alloc (Nat.le_refl _) _).alloc (by simp) _).alloc (by simp; omega) _⟩
        · by_cases Y1 : c2 < b2
          · have Yd : decide (b2 ≤ c2) = false := decide_eq_false (by omega)
            have hx : btF a2 b2 c2 = false := by unfold btF; rw [Bool.and_eq_false_iff]; simp only [decide_eq_false_iff_not]; omega
            have hz : Hid (r = false) := by show r = false; rw [← hr.out]; unfold bt2; simp only; rw [hx]; simp
            clear hx
            go_enter Try.func121, Try.ntmps121
            go_wp2
            go_ret
            exact ⟨congrArg (fun z => Ending.returned (.bool z)) hz.out.symm, (((Below.refl _ _).alloc (Nat.le_refl _) _).alloc (by simp) _).alloc (by simp; omega) _⟩
          · have Yd : decide (b2 ≤ c2) = true := decide_eq_true (by omega)
            by_cases Y2 : a2 < c2
            · have Ye : decide (c2 ≤ a2) = false := decide_eq_false (by omega)
              have hx : btF a2 b2 c2 = false := by unfold btF; rw [Bool.and_eq_false_iff]; simp only [decide_eq_false_iff_not]; omega
              have hz : Hid (r = false) := by show r = false; rw [← hr.out]; unfold bt2; simp only; rw [hx]; simp
              clear hx
              go_enter Try.func121, Try.ntmps121
              go_wp2
              go_ret
              exact ⟨congrArg (fun z => Ending.returned (.bool z)) hz.out.symm, (((Below.refl _ _).alloc (Nat.le_refl _) _).alloc (by simp) _).alloc (by simp; omega) _⟩
            · have Ye : decide (c2 ≤ a2) = true := decide_eq_true (by omega)
              have hY : btF a2 b2 c2 = true := by unfold btF; rw [Bool.and_eq_true]; simp only [decide_eq_true_eq]; omega
              have hz : Hid (r = true) := by show r = true; rw [← hr.out]; unfold bt2; simp only; rw [hX, hY]; rfl
              clear hX hY
              go_enter Try.func121, Try.ntmps121
              go_wp2
              go_ret
              exact ⟨congrArg (fun z => Ending.returned (.bool z)) hz.out.symm, (((Below.refl _ _).alloc (Nat.le_refl _) _).alloc (by simp) _).alloc (by simp; omega) _⟩
  · by_cases X1 : c1 < b1
    · have Xd : decide (b1 ≤ c1) = false := decide_eq_false (by omega)
      have hx : btF a1 b1 c1 = false := by unfold btF; rw [Bool.and_eq_false_iff]; simp only [decide_eq_false_iff_not]; omega
      have hz : Hid (r = false) := by show r = false; rw [← hr.out]; unfold bt2; simp only; rw [hx]; simp
      clear hx
      go_enter Try.func121, Try.ntmps121
      go_wp2
      go_ret
      exact ⟨congrArg (fun z => Ending.returned (.bool z)) hz.out.symm, (((Below.refl _ _).alloc (Nat.le_refl _) _).alloc (by simp) _).alloc (by simp; omega) _⟩
    · have Xd : decide (b1 ≤ c1) = true := decide_eq_true (by omega)
      by_cases X2 : a1 < c1
      · have Xe : decide (c1 ≤ a1) = false := decide_eq_false (by omega)
        have hx : btF a1 b1 c1 = false := by unfold btF; rw [Bool.and_eq_false_iff]; simp only [decide_eq_false_iff_not]; omega
        have hz : Hid (r = false) := by show r = false; rw [← hr.out]; unfold bt2; simp only; rw [hx]; simp
        clear hx
        go_enter Try.func121, Try.ntmps121
        go_wp2
        go_ret
        exact ⟨congrArg (fun z => Ending.returned (.bool z)) hz.out.symm, (((Below.refl _ _).alloc (Nat.le_refl _) _).alloc (by simp) _).alloc (by simp; omega) _⟩
      · have Xe : decide (c1 ≤ a1) = true := decide_eq_true (by omega)
        have hX : btF a1 b1 c1 = true := by unfold btF; rw [Bool.and_eq_true]; simp only [decide_eq_true_eq]; omega
        rcases Int.lt_trichotomy a2 b2 with g | rfl | g
        · by_cases Y1 : c2 < a2
          · have Yd : decide (a2 ≤ c2) = false := decide_eq_false (by omega)
            have hx : btF a2 b2 c2 = false := by unfold btF; rw [Bool.and_eq_false_iff]; simp only [decide_eq_false_iff_not]; omega
            have hz : Hid (r = false) := by show r = false; rw [← hr.out]; unfold bt2; simp only; rw [hx]; simp
            clear hx
            go_enter Try.func121, Try.ntmps121
            go_wp2
            go_ret
            exact ⟨congrArg (fun z => Ending.returned (.bool z)) hz.out.symm, (((Below.refl _ _).alloc (Nat.le_refl _) _).alloc (by simp) _).alloc (by simp; omega) _⟩
          · have Yd : decide (a2 ≤ c2) = true := decide_eq_true (by omega)
            by_cases Y2 : b2 < c2
            · have Ye : decide (c2 ≤ b2) = false := decide_eq_false (by omega)
              have hx : btF a2 b2 c2 = false := by unfold btF; rw [Bool.and_eq_false_iff]; simp only [decide_eq_false_iff_not]; omega
              have hz : Hid (r = false) := by show r = false; rw [← hr.out]; unfold bt2; simp only; rw [hx]; simp
              clear hx
              go_enter Try.func121, Try.ntmps121
              go_wp2
              go_ret
              exact ⟨congrArg (fun z => Ending.returned (.bool z)) hz.out.symm, (((Below.refl _ _).alloc (Nat.le_refl _) _).alloc (by simp) _).alloc (by simp; omega) _⟩
            · have Ye : decide (c2 ≤ b2) = true := decide_eq_true (by omega)
              have hY : btF a2 b2 c2 = true := by unfold btF; rw [Bool.and_eq_true]; simp only [decide_eq_true_eq]; omega
              have hz : Hid (r = true) := by show r = true; rw [← hr.out]; unfold bt2; simp only; rw [hX, hY]; rfl
              clear hX hY
              go_enter Try.func121, Try.ntmps121
              go_wp2
              go_ret
              exact ⟨congrArg (fun z => Ending.returned (.bool z)) hz.out.symm, (((Below.refl _ _).alloc (Nat.le_refl _) _).alloc (by simp) _).alloc (by simp; omega) _⟩
        · by_cases Y1 : c2 < a2
          · have Yd : decide (a2 ≤ c2) = false := decide_eq_false (by omega)
            have hx : btF a2 a2 c2 = false := by unfold btF; rw [Bool.and_eq_false_iff]; simp only [decide_eq_false_iff_not]; omega
            have hz : Hid (r = false) := by show r = false; rw [← hr.out]; unfold bt2; simp only; rw [hx]; simp
            clear hx
            go_enter Try.func121, Try.ntmps121
            go_wp2
            go_ret
            exact ⟨congrArg (fun z => Ending.returned (.bool z)) hz.out.symm, (((Below.refl _ _).alloc (Nat.le_refl _) _).alloc (by simp) _).alloc (by simp; omega) _⟩
          · have Yd : decide (a2 ≤ c2) = true := decide_eq_true (by omega)
            by_cases Y2 : a2 < c2
            · have Ye : decide (c2 ≤ a2) = false := decide_eq_false (by omega)
              have hx : btF a2 a2 c2 = false := by unfold btF; rw [Bool.and_eq_false_iff]; simp only [decide_eq_false_iff_not]; omega
              have hz : Hid (r = false) := by show r = false; rw [← hr.out]; unfold bt2; simp only; rw [hx]; simp
              clear hx
              go_enter Try.func121, Try.ntmps121
              go_wp2
              go_ret
              exact ⟨congrArg (fun z => Ending.returned (.bool z)) hz.out.symm, (((Below.refl _ _).alloc (Nat.le_refl _) _).alloc (by simp) _).alloc (by simp; omega) _⟩
            · have Ye : decide (c2 ≤ a2) = true := decide_eq_true (by omega)
              have hY : btF a2 a2 c2 = true := by unfold btF; rw [Bool.and_eq_true]; simp only [decide_eq_true_eq]; omega
              have hz : Hid (r = true) := by show r = true; rw [← hr.out]; unfold bt2; simp only; rw [hX, hY]; rfl
              clear hX hY
              go_enter Try.func121, Try.ntmps121
              go_wp2
              go_ret
              exact ⟨congrArg (fun z => Ending.returned (.bool z)) hz.out.symm, (((Below.refl _ _).alloc (Nat.le_refl _) _).alloc (by simp) _).alloc (by simp; omega) _⟩
        · by_cases Y1 : c2 < b2
          · have Yd : decide (b2 ≤ c2) = false := decide_eq_false (by omega)
            have hx : btF a2 b2 c2 = false := by unfold btF; rw [Bool.and_eq_false_iff]; simp only [decide_eq_false_iff_not]; omega
            have hz : Hid (r = false) := by show r = false; rw [← hr.out]; unfold bt2; simp only; rw [hx]; simp
            clear hx
            go_enter Try.func121, Try.ntmps121
            go_wp2
            go_ret
            exact ⟨congrArg (fun z => Ending.returned (.bool z)) hz.out.symm, (((Below.refl _ _).alloc (Nat.le_refl _) _).alloc (by simp) _).alloc (by simp; omega) _⟩
          · have Yd : decide (b2 ≤ c2) = true := decide_eq_true (by omega)
            by_cases Y2 : a2 < c2
            · have Ye : decide (c2 ≤ a2) = false := decide_eq_false (by omega)
              have hx : btF a2 b2 c2 = false := by unfold btF; rw [Bool.and_eq_false_iff]; simp only [decide_eq_false_iff_not]; omega
              have hz : Hid (r = false) := by show r = false; rw [← hr.out]; unfold bt2; simp only; rw [hx]; simp
              clear hx
              go_enter Try.func121, Try.ntmps121
              go_wp2
              go_ret
              exact ⟨congrArg (fun z => Ending.returned (.bool z)) hz.out.symm, (((Below.refl _ _).alloc (Nat.le_refl _) _).alloc (by simp) _).alloc (by simp; omega) _⟩
            · have Ye : decide (c2 ≤ a2) = true := decide_eq_true (by omega)
              have hY : btF a2 b2 c2 = true := by unfold btF; rw [Bool.and_eq_true]; simp only [decide_eq_true_eq]; omega
              have hz : Hid (r = true) := by show r = true; rw [← hr.out]; unfold bt2; simp only; rw [hX, hY]; rfl
              clear hX hY
              go_enter Try.func121, Try.ntmps121
              go_wp2
              go_ret
              exact ⟨congrArg (fun z => Ending.returned (.bool z)) hz.out.symm, (((Below.refl _ _).alloc (Nat.le_refl _) _).alloc (by simp) _).alloc (by simp; omega) _⟩
end Go.Proofs.Ytaehfildhmljeaa

namespace Go.Proofs.Ytaehfildhmljeaa
open Go.RowKit Go.Shelf

theorem sgn_zero (x : Int) : sgn x = 0 ↔ x = 0 := by unfold sgn; split; omega; split <;> omega
theorem sgn_mul (x y : Int) : (sgn x * sgn y < 0 ↔ x * y < 0) ∧ (sgn x * sgn y ≤ 0 ↔ x * y ≤ 0) := by
  have sx : ∀ z : Int, (0 < z ∧ sgn z = 1) ∨ (z < 0 ∧ sgn z = -1) ∨ (z = 0 ∧ sgn z = 0) := by
    intro z
    unfold sgn
    by_cases h : 0 < z
    · exact .inl ⟨h, if_pos h⟩
    · by_cases h2 : z < 0
      · exact .inr (.inl ⟨h2, by rw [if_neg h, if_pos h2]⟩)
      · exact .inr (.inr ⟨by omega, by rw [if_neg h, if_neg h2]⟩)
  rcases sx x with ⟨h, e⟩ | ⟨h, e⟩ | ⟨h, e⟩ <;> rcases sx y with ⟨h', e'⟩ | ⟨h', e'⟩ | ⟨h', e'⟩ <;> rw [e, e']
  · have := Int.mul_pos h h'; omega
  · have := Int.mul_neg_of_pos_of_neg h h'; omega
  · rw [h']; simp
  · have := Int.mul_neg_of_neg_of_pos h h'; omega
  · have := Int.mul_pos_of_neg_of_neg h h'; omega
  · rw [h']; simp
  · rw [h]; simp
  · rw [h]; simp
  · rw [h]; simp

def rblk (a b c d : Pt) (s1 s2 s3 s4 : Int) : Bool :=
  (decide (s1 * s2 < 0) && decide (s3 * s4 < 0)) || (decide (s1 = 0) && bt2 a b c) || (decide (s2 = 0) && bt2 a b d) || (decide (s3 = 0) && bt2 c d a) || (decide (s4 = 0) && bt2 c d b)

theorem side_at {a b c : Pt} (ha : vp a = true) (hb : vp b = true) (hc : vp c = true) : sideF a b c = sgn (cr a.1 a.2 b.1 b.2 c.1 c.2) := by
  unfold sideF; rw [ha, hb, hc]; rfl

theorem blk_ref {a b c d : Pt} (ha : vp a = true) (hb : vp b = true) (hc : vp c = true) (hd : vp d = true) :
    blkF a b c d = rblk a b c d (sideF a b c) (sideF a b d) (sideF c d a) (sideF c d b) := by
  have key := blocks_iff a.1 a.2 b.1 b.2 c.1 c.2 d.1 d.2
  rw [Bool.eq_iff_iff]
  unfold blkF rblk
  rw [side_at ha hb hc, side_at ha hb hd, side_at hc hd ha, side_at hc hd hb, ha, hb, hc, hd]
  simp only [Bool.and_eq_true, Bool.or_eq_true, decide_eq_true_eq, bt2, btF_iff, sgn_zero, (sgn_mul _ _).1, (sgn_mul _ _).2, ovlF]
  unfold ov at key
  constructor
  · rintro ⟨⟨⟨⟨_, h1⟩, h2⟩, h3⟩, h4⟩
    rcases key.1 ⟨h1, h2, h3, h4⟩ with h | h | h | h | h
    · exact .inl (.inl (.inl (.inl h)))
    · exact .inl (.inl (.inl (.inr h)))
    · exact .inl (.inl (.inr h))
    · exact .inl (.inr h)
    · exact .inr h
  · intro h
    obtain ⟨h1, h2, h3, h4⟩ := key.2 (by
      rcases h with (((h | h) | h) | h) | h
      · exact .inl h
      · exact .inr (.inl h)
      · exact .inr (.inr (.inl h))
      · exact .inr (.inr (.inr (.inl h)))
      · exact .inr (.inr (.inr (.inr h))))
    exact ⟨⟨⟨⟨by decide, h1⟩, h2⟩, h3⟩, h4⟩
end Go.Proofs.Ytaehfildhmljeaa

namespace Go.Proofs.Ytaehfildhmljeaa
open Go.RowKit Go.Shelf

theorem four_boxes' (w : World) (a1 a2 b1 b2 c1 c2 d1 d2 : Value) (W : World) (hW : W = ((((w.alloc (.cells #[a1, a2] 24)).alloc (.cells #[b1, b2] 24)).alloc (.cells #[c1, c2] 24)).alloc (.cells #[d1, d2] 24))) :
    BoxAt W w.heap.size 24 #[a1, a2] ∧ BoxAt W (w.heap.size + 1) 24 #[b1, b2] ∧ BoxAt W (w.heap.size + 1 + 1) 24 #[c1, c2] ∧ BoxAt W (w.heap.size + 1 + 1 + 1) 24 #[d1, d2] ∧ Below w.heap.size w W := by
  subst hW
  have ha := (((BoxAt.new w 24 #[a1, a2]).alloc (.cells #[b1, b2] 24)).alloc (.cells #[c1, c2] 24)).alloc (.cells #[d1, d2] 24)
  have hb := ((BoxAt.new (w.alloc (.cells #[a1, a2] 24)) 24 #[b1, b2]).alloc (.cells #[c1, c2] 24)).alloc (.cells #[d1, d2] 24)
  have hc := (BoxAt.new ((w.alloc (.cells #[a1, a2] 24)).alloc (.cells #[b1, b2] 24)) 24 #[c1, c2]).alloc (.cells #[d1, d2] 24)
  have hd := BoxAt.new (((w.alloc (.cells #[a1, a2] 24)).alloc (.cells #[b1, b2] 24)).alloc (.cells #[c1, c2] 24)) 24 #[d1, d2]
  simp only [World.size_alloc] at hb hc hd
  exact ⟨ha, hb, hc, hd, ((((Below.refl _ w).alloc (Nat.le_refl _) _).alloc (by simp) _).alloc (by simp; omega) _).alloc (by simp; omega) _⟩

theorem boxes_at {w0 W : World} {g1 g2 g3 g4 : Nat} {a1 a2 b1 b2 c1 c2 d1 d2 : Value} (ha : BoxAt w0 g1 24 #[a1, a2]) (hb : BoxAt w0 g2 24 #[b1, b2]) (hc : BoxAt w0 g3 24 #[c1, c2]) (hd : BoxAt w0 g4 24 #[d1, d2]) (h : Below w0.heap.size w0 W) :
    W.cell? ⟨g1, 0, none⟩ = some a1 ∧ W.cell? ⟨g1, 1, none⟩ = some a2 ∧ W.cell? ⟨g2, 0, none⟩ = some b1 ∧ W.cell? ⟨g2, 1, none⟩ = some b2 ∧ W.cell? ⟨g3, 0, none⟩ = some c1 ∧ W.cell? ⟨g3, 1, none⟩ = some c2 ∧ W.cell? ⟨g4, 0, none⟩ = some d1 ∧ W.cell? ⟨g4, 1, none⟩ = some d2 :=
  ⟨(ha.below h ha.lt).cell 0, (ha.below h ha.lt).cell 1, (hb.below h hb.lt).cell 0, (hb.below h hb.lt).cell 1, (hc.below h hc.lt).cell 0, (hc.below h hc.lt).cell 1, (hd.below h hd.lt).cell 0, (hd.below h hd.lt).cell 1⟩


set_option maxRecDepth 100000 in
set_option maxHeartbeats 16000000 in
theorem rblocks_any (a1 a2 b1 b2 c1 c2 d1 d2 : Int) (r : Bool) (w : World) (hr : Hid (blkF (a1, a2) (b1, b2) (c1, c2) (d1, d2) = r)) :
    Calls Try.prog 93 #[sp a1 a2, sp b1 b2, sp c1 c2, sp d1 d2] w fun e w' => e = .returned (.bool r) ∧ Below w.heap.size w w' := by
  obtain ⟨ha, hb, hc, hd, hB⟩ := four_boxes' w (.int .i64 a1) (.int .i64 a2) (.int .i64 b1) (.int .i64 b2) (.int .i64 c1) (.int .i64 c2) (.int .i64 d1) (.int .i64 d2) _ rfl
  obtain ⟨va, hva⟩ : ∃ s, s = vp (a1, a2) := ⟨_, rfl⟩
  obtain ⟨vb, hvb⟩ : ∃ s, s = vp (b1, b2) := ⟨_, rfl⟩
  obtain ⟨vc, hvc⟩ : ∃ s, s = vp (c1, c2) := ⟨_, rfl⟩
  obtain ⟨vd, hvd⟩ : ∃ s, s = vp (d1, d2) := ⟨_, rfl⟩
  have VA : Hid (vp (a1, a2) = va) := hva.symm
  have VB : Hid (vp (b1, b2) = vb) := hvb.symm
  have VC : Hid (vp (c1, c2) = vc) := hvc.symm
  have VD : Hid (vp (d1, d2) = vd) := hvd.symm
  have hbad : Hid ((va && vb && vc && vd) = false → r = false) := by
    show _ → _
    intro h
    rw [← hr.out]; unfold blkF; rw [← hva, ← hvb, ← hvc, ← hvd, h]; rfl
  obtain ⟨s1, e1⟩ : ∃ s, s = sideF (a1, a2) (b1, b2) (c1, c2) := ⟨_, rfl⟩
  obtain ⟨s2, e2⟩ : ∃ s, s = sideF (a1, a2) (b1, b2) (d1, d2) := ⟨_, rfl⟩
  obtain ⟨s3, e3⟩ : ∃ s, s = sideF (c1, c2) (d1, d2) (a1, a2) := ⟨_, rfl⟩
  obtain ⟨s4, e4⟩ : ∃ s, s = sideF (c1, c2) (d1, d2) (b1, b2) := ⟨_, rfl⟩
  have E1 : Hid (sideF (a1, a2) (b1, b2) (c1, c2) = s1) := e1.symm
  have E2 : Hid (sideF (a1, a2) (b1, b2) (d1, d2) = s2) := e2.symm
  have E3 : Hid (sideF (c1, c2) (d1, d2) (a1, a2) = s3) := e3.symm
  have E4 : Hid (sideF (c1, c2) (d1, d2) (b1, b2) = s4) := e4.symm
  have b12 : -1 ≤ s1 * s2 ∧ s1 * s2 ≤ 1 := by rw [e1, e2]; exact side_mul _ _ _ _ _ _
  have b34 : -1 ≤ s3 * s4 ∧ s3 * s4 ≤ 1 := by rw [e3, e4]; exact side_mul _ _ _ _ _ _
  obtain ⟨q1, f1⟩ : ∃ s, s = bt2 (a1, a2) (b1, b2) (c1, c2) := ⟨_, rfl⟩
  obtain ⟨q2, f2⟩ : ∃ s, s = bt2 (a1, a2) (b1, b2) (d1, d2) := ⟨_, rfl⟩
  obtain ⟨q3, f3⟩ : ∃ s, s = bt2 (c1, c2) (d1, d2) (a1, a2) := ⟨_, rfl⟩
  obtain ⟨q4, f4⟩ : ∃ s, s = bt2 (c1, c2) (d1, d2) (b1, b2) := ⟨_, rfl⟩
  have F1 : Hid (bt2 (a1, a2) (b1, b2) (c1, c2) = q1) := f1.symm
  have F2 : Hid (bt2 (a1, a2) (b1, b2) (d1, d2) = q2) := f2.symm
  have F3 : Hid (bt2 (c1, c2) (d1, d2) (a1, a2) = q3) := f3.symm
  have F4 : Hid (bt2 (c1, c2) (d1, d2) (b1, b2) = q4) := f4.symm
  have hgood : Hid ((va && vb && vc && vd) = true → r = ((decide (s1 * s2 < 0) && decide (s3 * s4 < 0)) || (decide (s1 = 0) && q1) || (decide (s2 = 0) && q2) || (decide (s3 = 0) && q3) || (decide (s4 = 0) && q4))) := by
    show _ → _
    intro h
    rw [Bool.and_eq_true, Bool.and_eq_true, Bool.and_eq_true] at h
    obtain ⟨⟨⟨h1, h2⟩, h3⟩, h4⟩ := h
    rw [← hr.out, blk_ref (by rw [← hva, h1]) (by rw [← hvb, h2]) (by rw [← hvc, h3]) (by rw [← hvd, h4]), e1, e2, e3, e4, f1, f2, f3, f4]; rfl
  obtain ⟨m1, hm1⟩ : ∃ m, m = s1 * s2 := ⟨_, rfl⟩
  obtain ⟨m2, hm2⟩ : ∃ m, m = s3 * s4 := ⟨_, rfl⟩
  have I1 : Hid (IntKind.i64.wrap (s1 * s2) = m1) := by show _ = _; rw [hm1]; exact IntWalk.i64_in _ (by omega)
  have I2 : Hid (IntKind.i64.wrap (s3 * s4) = m2) := by show _ = _; rw [hm2]; exact IntWalk.i64_in _ (by omega)
  rw [← hm1, ← hm2] at hgood
  obtain ⟨g, hg⟩ : ∃ g, g = (decide (m1 < 0) && decide (m2 < 0)) := ⟨_, rfl⟩
  have G : Hid (g = (decide (m1 < 0) && decide (m2 < 0))) := hg
  rw [← hg] at hgood
  clear hg hva hvb hvc hvd e1 e2 e3 e4 f1 f2 f3 f4 b12 b34 hm1 hm2
  go_enter Try.func93, Try.ntmps93
  go_upto_region 1 with fail
  generalize (((w.alloc (.cells #[.int .i64 a1, .int .i64 a2] 24)).alloc (.cells #[.int .i64 b1, .int .i64 b2] 24)).alloc (.cells #[.int .i64 c1, .int .i64 c2] 24)).alloc (.cells #[.int .i64 d1, .int .i64 d2] 24) = w0 at ha hb hc hd hB ⊢
  have hBx : Below w0.heap.size w0 w0 := Below.refl _ _
  have la := ha.lt
  have lb := hb.lt
  have lc := hc.lt
  have ld := hd.lt
  have HB := Lib.hid hB
  clear hB
  obtain ⟨k0, k1, k2, k3, k4, k5, k6, k7⟩ := boxes_at ha hb hc hd hBx
  cases va
  · have hz : Hid (r = false) := hbad.out (by cases vb <;> cases vc <;> cases vd <;> rfl)
    clear hgood hbad
    go_wp2_with (first
      | (go_at_call 62; (with_reducible refine (rvalid_any a1 a2 _ _ VA).mono ?_); rintro e w2 ⟨rfl, hb2⟩; replace hBx := below_step hBx hb2; obtain ⟨k0, k1, k2, k3, k4, k5, k6, k7⟩ := boxes_at ha hb hc hd hBx))
    go_ret
    exact ⟨congrArg (fun z => Ending.returned (.bool z)) hz.out.symm, HB.out.trans (hBx.mono HB.out.size)⟩
  cases vb
  · have hz : Hid (r = false) := hbad.out (by cases vc <;> cases vd <;> rfl)
    clear hgood hbad
    go_wp2_with (first
      | (go_at_call 62; (with_reducible refine (rvalid_any a1 a2 _ _ VA).mono ?_); rintro e w2 ⟨rfl, hb2⟩; replace hBx := below_step hBx hb2; obtain ⟨k0, k1, k2, k3, k4, k5, k6, k7⟩ := boxes_at ha hb hc hd hBx)
      | (go_at_call 62; (with_reducible refine (rvalid_any b1 b2 _ _ VB).mono ?_); rintro e w2 ⟨rfl, hb2⟩; replace hBx := below_step hBx hb2; obtain ⟨k0, k1, k2, k3, k4, k5, k6, k7⟩ := boxes_at ha hb hc hd hBx))
    go_ret
    exact ⟨congrArg (fun z => Ending.returned (.bool z)) hz.out.symm, HB.out.trans (hBx.mono HB.out.size)⟩
  cases vc
  · have hz : Hid (r = false) := hbad.out (by cases vd <;> rfl)
    clear hgood hbad
    go_wp2_with (first
      | (go_at_call 62; (with_reducible refine (rvalid_any a1 a2 _ _ VA).mono ?_); rintro e w2 ⟨rfl, hb2⟩; replace hBx := below_step hBx hb2; obtain ⟨k0, k1, k2, k3, k4, k5, k6, k7⟩ := boxes_at ha hb hc hd hBx)
      | (go_at_call 62; (with_reducible refine (rvalid_any b1 b2 _ _ VB).mono ?_); rintro e w2 ⟨rfl, hb2⟩; replace hBx := below_step hBx hb2; obtain ⟨k0, k1, k2, k3, k4, k5, k6, k7⟩ := boxes_at ha hb hc hd hBx)
      | (go_at_call 62; (with_reducible refine (rvalid_any c1 c2 _ _ VC).mono ?_); rintro e w2 ⟨rfl, hb2⟩; replace hBx := below_step hBx hb2; obtain ⟨k0, k1, k2, k3, k4, k5, k6, k7⟩ := boxes_at ha hb hc hd hBx))
    go_ret
    exact ⟨congrArg (fun z => Ending.returned (.bool z)) hz.out.symm, HB.out.trans (hBx.mono HB.out.size)⟩
  cases vd
  · have hz : Hid (r = false) := hbad.out (by rfl)
    clear hgood hbad
    go_wp2_with (first
      | (go_at_call 62; (with_reducible refine (rvalid_any a1 a2 _ _ VA).mono ?_); rintro e w2 ⟨rfl, hb2⟩; replace hBx := below_step hBx hb2; obtain ⟨k0, k1, k2, k3, k4, k5, k6, k7⟩ := boxes_at ha hb hc hd hBx)
      | (go_at_call 62; (with_reducible refine (rvalid_any b1 b2 _ _ VB).mono ?_); rintro e w2 ⟨rfl, hb2⟩; replace hBx := below_step hBx hb2; obtain ⟨k0, k1, k2, k3, k4, k5, k6, k7⟩ := boxes_at ha hb hc hd hBx)
      | (go_at_call 62; (with_reducible refine (rvalid_any c1 c2 _ _ VC).mono ?_); rintro e w2 ⟨rfl, hb2⟩; replace hBx := below_step hBx hb2; obtain ⟨k0, k1, k2, k3, k4, k5, k6, k7⟩ := boxes_at ha hb hc hd hBx)
      | (go_at_call 62; (with_reducible refine (rvalid_any d1 d2 _ _ VD).mono ?_); rintro e w2 ⟨rfl, hb2⟩; replace hBx := below_step hBx hb2; obtain ⟨k0, k1, k2, k3, k4, k5, k6, k7⟩ := boxes_at ha hb hc hd hBx))
    go_ret
    exact ⟨congrArg (fun z => Ending.returned (.bool z)) hz.out.symm, HB.out.trans (hBx.mono HB.out.size)⟩
  have HZ := Lib.hid (hgood.out rfl)
  clear hgood hbad
  go_upto_region 3 with (first
    | (go_at_call 62; (with_reducible refine (rvalid_any a1 a2 _ _ VA).mono ?_); rintro e w2 ⟨rfl, hb2⟩; replace hBx := below_step hBx hb2; obtain ⟨k0, k1, k2, k3, k4, k5, k6, k7⟩ := boxes_at ha hb hc hd hBx)
    | (go_at_call 62; (with_reducible refine (rvalid_any b1 b2 _ _ VB).mono ?_); rintro e w2 ⟨rfl, hb2⟩; replace hBx := below_step hBx hb2; obtain ⟨k0, k1, k2, k3, k4, k5, k6, k7⟩ := boxes_at ha hb hc hd hBx)
    | (go_at_call 62; (with_reducible refine (rvalid_any c1 c2 _ _ VC).mono ?_); rintro e w2 ⟨rfl, hb2⟩; replace hBx := below_step hBx hb2; obtain ⟨k0, k1, k2, k3, k4, k5, k6, k7⟩ := boxes_at ha hb hc hd hBx)
    | (go_at_call 62; (with_reducible refine (rvalid_any d1 d2 _ _ VD).mono ?_); rintro e w2 ⟨rfl, hb2⟩; replace hBx := below_step hBx hb2; obtain ⟨k0, k1, k2, k3, k4, k5, k6, k7⟩ := boxes_at ha hb hc hd hBx))
  obtain ⟨w9, hw9⟩ : ∃ x : World, x = w2 := ⟨_, rfl⟩
  subst hw9
  have hB9 := Lib.hid hBx
  go_cut [9, 10, 11, 12] from 31 to 46 (fun x1 x2 x3 x4 w' => x1 = .int .i64 s1 ∧ x2 = .int .i64 s2 ∧ x3 = .int .i64 s3 ∧ x4 = .int .i64 s4 ∧ Below w9.heap.size w9 w')
  case first =>
    replace hBx : Below w9.heap.size w9 w9.drew := (Below.refl _ _).drew
    have z9 := hB9.out.size
    replace la := Nat.lt_of_lt_of_le la z9
    replace lb := Nat.lt_of_lt_of_le lb z9
    replace lc := Nat.lt_of_lt_of_le lc z9
    replace ld := Nat.lt_of_lt_of_le ld z9
    clear ha hb hc hd HB
    go_region_held3 (fun w' => w'.cell? ⟨w.heap.size, 0, none⟩ = some (.int .i64 a1) ∧ w'.cell? ⟨w.heap.size, 1, none⟩ = some (.int .i64 a2) ∧ w'.cell? ⟨w.heap.size + 1, 0, none⟩ = some (.int .i64 b1) ∧ w'.cell? ⟨w.heap.size + 1, 1, none⟩ = some (.int .i64 b2) ∧ w'.cell? ⟨w.heap.size + 1 + 1, 0, none⟩ = some (.int .i64 c1) ∧ w'.cell? ⟨w.heap.size + 1 + 1, 1, none⟩ = some (.int .i64 c2) ∧ w'.cell? ⟨w.heap.size + 1 + 1 + 1, 0, none⟩ = some (.int .i64 d1) ∧ w'.cell? ⟨w.heap.size + 1 + 1 + 1, 1, none⟩ = some (.int .i64 d2))
      (refine ⟨?_, ?_, ?_, ?_, ?_, ?_, ?_, ?_⟩ <;> exact (Below.cell hBx (by assumption)).trans (by assumption))
      (first
        | (go_at_call 86; (with_reducible refine (rside_any a1 a2 b1 b2 c1 c2 s1 _ E1).mono ?_); rintro e w2 ⟨rfl, hb2⟩; replace hBx := below_step hBx hb2)
        | (go_at_call 86; (with_reducible refine (rside_any a1 a2 b1 b2 d1 d2 s2 _ E2).mono ?_); rintro e w2 ⟨rfl, hb2⟩; replace hBx := below_step hBx hb2)
        | (go_at_call 86; (with_reducible refine (rside_any c1 c2 d1 d2 a1 a2 s3 _ E3).mono ?_); rintro e w2 ⟨rfl, hb2⟩; replace hBx := below_step hBx hb2)
        | (go_at_call 86; (with_reducible refine (rside_any c1 c2 d1 d2 b1 b2 s4 _ E4).mono ?_); rintro e w2 ⟨rfl, hb2⟩; replace hBx := below_step hBx hb2))
    all_goals go_wp2
    all_goals go_meet
    all_goals exact ⟨rfl, rfl, rfl, rfl, hBx⟩
  case rest =>
    obtain ⟨rfl, rfl, rfl, rfl, hBy⟩ := hcut
    clear k0 k1 k2 k3 k4 k5 k6 k7
    replace hBx := below_step hB9.out hBy
    clear hBy
    obtain ⟨k0, k1, k2, k3, k4, k5, k6, k7⟩ := boxes_at ha hb hc hd hBx
    go_upto_region 4 with fail
    rename World => wd
    go_cut [56] from 47 to 56 (fun x w' => x = .bool g ∧ wd = w')
    case first =>
      have j1 := I1.out
      have j2 := I2.out
      by_cases g1 : m1 < 0
      · have g3 : decide (m1 < 0) = true := decide_eq_true g1
        go_wp2
        go_meet
        exact ⟨congrArg Value.bool (by rw [G.out, g3]; rfl), rfl⟩
      · have g3 : decide (m1 < 0) = false := decide_eq_false g1
        go_wp2
        go_meet
        exact ⟨congrArg Value.bool (by rw [G.out, g3]; rfl), rfl⟩
    case rest =>
      obtain ⟨rfl, rfl⟩ := hcut
      cases g
      rotate_left
      · have hz : Hid (r = true) := by show r = true; rw [HZ.out]; simp
        clear HZ
        go_wp2
        go_ret
        exact ⟨congrArg (fun z => Ending.returned (.bool z)) hz.out.symm, HB.out.trans (hBx.mono HB.out.size)⟩
      by_cases z1 : s1 = 0
      · obtain rfl : s1 = 0 := z1
        cases q1
        rotate_left
        · skip
          have hz : Hid (r = true) := by show r = true; rw [HZ.out]; simp
          clear HZ
          go_wp2_with (first
            | (go_at_call 121; (with_reducible refine (rbt_any a1 a2 b1 b2 c1 c2 _ _ F1).mono ?_); rintro e w2 ⟨rfl, hb2⟩; replace hBx := below_step hBx hb2; obtain ⟨k0, k1, k2, k3, k4, k5, k6, k7⟩ := boxes_at ha hb hc hd hBx))
          go_ret
          exact ⟨congrArg (fun z => Ending.returned (.bool z)) hz.out.symm, HB.out.trans (hBx.mono HB.out.size)⟩
        · skip
          by_cases z2 : s2 = 0
          · obtain rfl : s2 = 0 := z2
            cases q2
            rotate_left
            · skip
              have hz : Hid (r = true) := by show r = true; rw [HZ.out]; simp
              clear HZ
              go_wp2_with (first
                | (go_at_call 121; (with_reducible refine (rbt_any a1 a2 b1 b2 c1 c2 _ _ F1).mono ?_); rintro e w2 ⟨rfl, hb2⟩; replace hBx := below_step hBx hb2; obtain ⟨k0, k1, k2, k3, k4, k5, k6, k7⟩ := boxes_at ha hb hc hd hBx)
                | (go_at_call 121; (with_reducible refine (rbt_any a1 a2 b1 b2 d1 d2 _ _ F2).mono ?_); rintro e w2 ⟨rfl, hb2⟩; replace hBx := below_step hBx hb2; obtain ⟨k0, k1, k2, k3, k4, k5, k6, k7⟩ := boxes_at ha hb hc hd hBx))
              go_ret
              exact ⟨congrArg (fun z => Ending.returned (.bool z)) hz.out.symm, HB.out.trans (hBx.mono HB.out.size)⟩
            · skip
              by_cases z3 : s3 = 0
              · obtain rfl : s3 = 0 := z3
                cases q3
                rotate_left
                · skip
                  have hz : Hid (r = true) := by show r = true; rw [HZ.out]; simp
                  clear HZ
                  go_wp2_with (first
                    | (go_at_call 121; (with_reducible refine (rbt_any a1 a2 b1 b2 c1 c2 _ _ F1).mono ?_); rintro e w2 ⟨rfl, hb2⟩; replace hBx := below_step hBx hb2; obtain ⟨k0, k1, k2, k3, k4, k5, k6, k7⟩ := boxes_at ha hb hc hd hBx)
                    | (go_at_call 121; (with_reducible refine (rbt_any a1 a2 b1 b2 d1 d2 _ _ F2).mono ?_); rintro e w2 ⟨rfl, hb2⟩; replace hBx := below_step hBx hb2; obtain ⟨k0, k1, k2, k3, k4, k5, k6, k7⟩ := boxes_at ha hb hc hd hBx)
                    | (go_at_call 121; (with_reducible refine (rbt_any c1 c2 d1 d2 a1 a2 _ _ F3).mono ?_); rintro e w2 ⟨rfl, hb2⟩; replace hBx := below_step hBx hb2; obtain ⟨k0, k1, k2, k3, k4, k5, k6, k7⟩ := boxes_at ha hb hc hd hBx))
                  go_ret
                  exact ⟨congrArg (fun z => Ending.returned (.bool z)) hz.out.symm, HB.out.trans (hBx.mono HB.out.size)⟩
                · skip
                  by_cases z4 : s4 = 0
                  · obtain rfl : s4 = 0 := z4
                    cases q4
                    rotate_left
                    · skip
                      have hz : Hid (r = true) := by show r = true; rw [HZ.out]; simp
                      clear HZ
                      go_wp2_with (first
                        | (go_at_call 121; (with_reducible refine (rbt_any a1 a2 b1 b2 c1 c2 _ _ F1).mono ?_); rintro e w2 ⟨rfl, hb2⟩; replace hBx := below_step hBx hb2; obtain ⟨k0, k1, k2, k3, k4, k5, k6, k7⟩ := boxes_at ha hb hc hd hBx)
                        | (go_at_call 121; (with_reducible refine (rbt_any a1 a2 b1 b2 d1 d2 _ _ F2).mono ?_); rintro e w2 ⟨rfl, hb2⟩; replace hBx := below_step hBx hb2; obtain ⟨k0, k1, k2, k3, k4, k5, k6, k7⟩ := boxes_at ha hb hc hd hBx)
                        | (go_at_call 121; (with_reducible refine (rbt_any c1 c2 d1 d2 a1 a2 _ _ F3).mono ?_); rintro e w2 ⟨rfl, hb2⟩; replace hBx := below_step hBx hb2; obtain ⟨k0, k1, k2, k3, k4, k5, k6, k7⟩ := boxes_at ha hb hc hd hBx)
                        | (go_at_call 121; (with_reducible refine (rbt_any c1 c2 d1 d2 b1 b2 _ _ F4).mono ?_); rintro e w2 ⟨rfl, hb2⟩; replace hBx := below_step hBx hb2; obtain ⟨k0, k1, k2, k3, k4, k5, k6, k7⟩ := boxes_at ha hb hc hd hBx))
                      go_ret
                      exact ⟨congrArg (fun z => Ending.returned (.bool z)) hz.out.symm, HB.out.trans (hBx.mono HB.out.size)⟩
                    · skip
                      have hz : Hid (r = false) := by show r = false; rw [HZ.out]; simp
                      clear HZ
                      go_wp2_with (first
                        | (go_at_call 121; (with_reducible refine (rbt_any a1 a2 b1 b2 c1 c2 _ _ F1).mono ?_); rintro e w2 ⟨rfl, hb2⟩; replace hBx := below_step hBx hb2; obtain ⟨k0, k1, k2, k3, k4, k5, k6, k7⟩ := boxes_at ha hb hc hd hBx)
                        | (go_at_call 121; (with_reducible refine (rbt_any a1 a2 b1 b2 d1 d2 _ _ F2).mono ?_); rintro e w2 ⟨rfl, hb2⟩; replace hBx := below_step hBx hb2; obtain ⟨k0, k1, k2, k3, k4, k5, k6, k7⟩ := boxes_at ha hb hc hd hBx)
                        | (go_at_call 121; (with_reducible refine (rbt_any c1 c2 d1 d2 a1 a2 _ _ F3).mono ?_); rintro e w2 ⟨rfl, hb2⟩; replace hBx := below_step hBx hb2; obtain ⟨k0, k1, k2, k3, k4, k5, k6, k7⟩ := boxes_at ha hb hc hd hBx)
                        | (go_at_call 121; (with_reducible refine (rbt_any c1 c2 d1 d2 b1 b2 _ _ F4).mono ?_); rintro e w2 ⟨rfl, hb2⟩; replace hBx := below_step hBx hb2; obtain ⟨k0, k1, k2, k3, k4, k5, k6, k7⟩ := boxes_at ha hb hc hd hBx))
                      go_ret
                      exact ⟨congrArg (fun z => Ending.returned (.bool z)) hz.out.symm, HB.out.trans (hBx.mono HB.out.size)⟩
                  · have y4 : (s4 == 0) = false := by simp [z4]
                    have x4 : decide (s4 = 0) = false := decide_eq_false z4
                    have hz : Hid (r = false) := by show r = false; rw [HZ.out]; simp [z4]
                    clear HZ
                    go_wp2_with (first
                      | (go_at_call 121; (with_reducible refine (rbt_any a1 a2 b1 b2 c1 c2 _ _ F1).mono ?_); rintro e w2 ⟨rfl, hb2⟩; replace hBx := below_step hBx hb2; obtain ⟨k0, k1, k2, k3, k4, k5, k6, k7⟩ := boxes_at ha hb hc hd hBx)
                      | (go_at_call 121; (with_reducible refine (rbt_any a1 a2 b1 b2 d1 d2 _ _ F2).mono ?_); rintro e w2 ⟨rfl, hb2⟩; replace hBx := below_step hBx hb2; obtain ⟨k0, k1, k2, k3, k4, k5, k6, k7⟩ := boxes_at ha hb hc hd hBx)
                      | (go_at_call 121; (with_reducible refine (rbt_any c1 c2 d1 d2 a1 a2 _ _ F3).mono ?_); rintro e w2 ⟨rfl, hb2⟩; replace hBx := below_step hBx hb2; obtain ⟨k0, k1, k2, k3, k4, k5, k6, k7⟩ := boxes_at ha hb hc hd hBx))
                    go_ret
                    exact ⟨congrArg (fun z => Ending.returned (.bool z)) hz.out.symm, HB.out.trans (hBx.mono HB.out.size)⟩
              · have y3 : (s3 == 0) = false := by simp [z3]
                have x3 : decide (s3 = 0) = false := decide_eq_false z3
                by_cases z4 : s4 = 0
                · obtain rfl : s4 = 0 := z4
                  cases q4
                  rotate_left
                  · skip
                    have hz : Hid (r = true) := by show r = true; rw [HZ.out]; simp [z3]
                    clear HZ
                    go_wp2_with (first
                      | (go_at_call 121; (with_reducible refine (rbt_any a1 a2 b1 b2 c1 c2 _ _ F1).mono ?_); rintro e w2 ⟨rfl, hb2⟩; replace hBx := below_step hBx hb2; obtain ⟨k0, k1, k2, k3, k4, k5, k6, k7⟩ := boxes_at ha hb hc hd hBx)
                      | (go_at_call 121; (with_reducible refine (rbt_any a1 a2 b1 b2 d1 d2 _ _ F2).mono ?_); rintro e w2 ⟨rfl, hb2⟩; replace hBx := below_step hBx hb2; obtain ⟨k0, k1, k2, k3, k4, k5, k6, k7⟩ := boxes_at ha hb hc hd hBx)
                      | (go_at_call 121; (with_reducible refine (rbt_any c1 c2 d1 d2 b1 b2 _ _ F4).mono ?_); rintro e w2 ⟨rfl, hb2⟩; replace hBx := below_step hBx hb2; obtain ⟨k0, k1, k2, k3, k4, k5, k6, k7⟩ := boxes_at ha hb hc hd hBx))
                    go_ret
                    exact ⟨congrArg (fun z => Ending.returned (.bool z)) hz.out.symm, HB.out.trans (hBx.mono HB.out.size)⟩
                  · skip
                    have hz : Hid (r = false) := by show r = false; rw [HZ.out]; simp [z3]
                    clear HZ
                    go_wp2_with (first
                      | (go_at_call 121; (with_reducible refine (rbt_any a1 a2 b1 b2 c1 c2 _ _ F1).mono ?_); rintro e w2 ⟨rfl, hb2⟩; replace hBx := below_step hBx hb2; obtain ⟨k0, k1, k2, k3, k4, k5, k6, k7⟩ := boxes_at ha hb hc hd hBx)
                      | (go_at_call 121; (with_reducible refine (rbt_any a1 a2 b1 b2 d1 d2 _ _ F2).mono ?_); rintro e w2 ⟨rfl, hb2⟩; replace hBx := below_step hBx hb2; obtain ⟨k0, k1, k2, k3, k4, k5, k6, k7⟩ := boxes_at ha hb hc hd hBx)
                      | (go_at_call 121; (with_reducible refine (rbt_any c1 c2 d1 d2 b1 b2 _ _ F4).mono ?_); rintro e w2 ⟨rfl, hb2⟩; replace hBx := below_step hBx hb2; obtain ⟨k0, k1, k2, k3, k4, k5, k6, k7⟩ := boxes_at ha hb hc hd hBx))
                    go_ret
                    exact ⟨congrArg (fun z => Ending.returned (.bool z)) hz.out.symm, HB.out.trans (hBx.mono HB.out.size)⟩
                · have y4 : (s4 == 0) = false := by simp [z4]
                  have x4 : decide (s4 = 0) = false := decide_eq_false z4
                  have hz : Hid (r = false) := by show r = false; rw [HZ.out]; simp [z3, z4]
                  clear HZ
                  go_wp2_with (first
                    | (go_at_call 121; (with_reducible refine (rbt_any a1 a2 b1 b2 c1 c2 _ _ F1).mono ?_); rintro e w2 ⟨rfl, hb2⟩; replace hBx := below_step hBx hb2; obtain ⟨k0, k1, k2, k3, k4, k5, k6, k7⟩ := boxes_at ha hb hc hd hBx)
                    | (go_at_call 121; (with_reducible refine (rbt_any a1 a2 b1 b2 d1 d2 _ _ F2).mono ?_); rintro e w2 ⟨rfl, hb2⟩; replace hBx := below_step hBx hb2; obtain ⟨k0, k1, k2, k3, k4, k5, k6, k7⟩ := boxes_at ha hb hc hd hBx))
                  go_ret
                  exact ⟨congrArg (fun z => Ending.returned (.bool z)) hz.out.symm, HB.out.trans (hBx.mono HB.out.size)⟩
          · have y2 : (s2 == 0) = false := by simp [z2]
            have x2 : decide (s2 = 0) = false := decide_eq_false z2
            by_cases z3 : s3 = 0
            · obtain rfl : s3 = 0 := z3
              cases q3
              rotate_left
              · skip
                have hz : Hid (r = true) := by show r = true; rw [HZ.out]; simp [z2]
                clear HZ
                go_wp2_with (first
                  | (go_at_call 121; (with_reducible refine (rbt_any a1 a2 b1 b2 c1 c2 _ _ F1).mono ?_); rintro e w2 ⟨rfl, hb2⟩; replace hBx := below_step hBx hb2; obtain ⟨k0, k1, k2, k3, k4, k5, k6, k7⟩ := boxes_at ha hb hc hd hBx)
                  | (go_at_call 121; (with_reducible refine (rbt_any c1 c2 d1 d2 a1 a2 _ _ F3).mono ?_); rintro e w2 ⟨rfl, hb2⟩; replace hBx := below_step hBx hb2; obtain ⟨k0, k1, k2, k3, k4, k5, k6, k7⟩ := boxes_at ha hb hc hd hBx))
                go_ret
                exact ⟨congrArg (fun z => Ending.returned (.bool z)) hz.out.symm, HB.out.trans (hBx.mono HB.out.size)⟩
              · skip
                by_cases z4 : s4 = 0
                · obtain rfl : s4 = 0 := z4
                  cases q4
                  rotate_left
                  · skip
                    have hz : Hid (r = true) := by show r = true; rw [HZ.out]; simp [z2]
                    clear HZ
                    go_wp2_with (first
                      | (go_at_call 121; (with_reducible refine (rbt_any a1 a2 b1 b2 c1 c2 _ _ F1).mono ?_); rintro e w2 ⟨rfl, hb2⟩; replace hBx := below_step hBx hb2; obtain ⟨k0, k1, k2, k3, k4, k5, k6, k7⟩ := boxes_at ha hb hc hd hBx)
                      | (go_at_call 121; (with_reducible refine (rbt_any c1 c2 d1 d2 a1 a2 _ _ F3).mono ?_); rintro e w2 ⟨rfl, hb2⟩; replace hBx := below_step hBx hb2; obtain ⟨k0, k1, k2, k3, k4, k5, k6, k7⟩ := boxes_at ha hb hc hd hBx)
                      | (go_at_call 121; (with_reducible refine (rbt_any c1 c2 d1 d2 b1 b2 _ _ F4).mono ?_); rintro e w2 ⟨rfl, hb2⟩; replace hBx := below_step hBx hb2; obtain ⟨k0, k1, k2, k3, k4, k5, k6, k7⟩ := boxes_at ha hb hc hd hBx))
                    go_ret
                    exact ⟨congrArg (fun z => Ending.returned (.bool z)) hz.out.symm, HB.out.trans (hBx.mono HB.out.size)⟩
                  · skip
                    have hz : Hid (r = false) := by show r = false; rw [HZ.out]; simp [z2]
                    clear HZ
                    go_wp2_with (first
                      | (go_at_call 121; (with_reducible refine (rbt_any a1 a2 b1 b2 c1 c2 _ _ F1).mono ?_); rintro e w2 ⟨rfl, hb2⟩; replace hBx := below_step hBx hb2; obtain ⟨k0, k1, k2, k3, k4, k5, k6, k7⟩ := boxes_at ha hb hc hd hBx)
                      | (go_at_call 121; (with_reducible refine (rbt_any c1 c2 d1 d2 a1 a2 _ _ F3).mono ?_); rintro e w2 ⟨rfl, hb2⟩; replace hBx := below_step hBx hb2; obtain ⟨k0, k1, k2, k3, k4, k5, k6, k7⟩ := boxes_at ha hb hc hd hBx)
                      | (go_at_call 121; (with_reducible refine (rbt_any c1 c2 d1 d2 b1 b2 _ _ F4).mono ?_); rintro e w2 ⟨rfl, hb2⟩; replace hBx := below_step hBx hb2; obtain ⟨k0, k1, k2, k3, k4, k5, k6, k7⟩ := boxes_at ha hb hc hd hBx))
                    go_ret
                    exact ⟨congrArg (fun z => Ending.returned (.bool z)) hz.out.symm, HB.out.trans (hBx.mono HB.out.size)⟩
                · have y4 : (s4 == 0) = false := by simp [z4]
                  have x4 : decide (s4 = 0) = false := decide_eq_false z4
                  have hz : Hid (r = false) := by show r = false; rw [HZ.out]; simp [z2, z4]
                  clear HZ
                  go_wp2_with (first
                    | (go_at_call 121; (with_reducible refine (rbt_any a1 a2 b1 b2 c1 c2 _ _ F1).mono ?_); rintro e w2 ⟨rfl, hb2⟩; replace hBx := below_step hBx hb2; obtain ⟨k0, k1, k2, k3, k4, k5, k6, k7⟩ := boxes_at ha hb hc hd hBx)
                    | (go_at_call 121; (with_reducible refine (rbt_any c1 c2 d1 d2 a1 a2 _ _ F3).mono ?_); rintro e w2 ⟨rfl, hb2⟩; replace hBx := below_step hBx hb2; obtain ⟨k0, k1, k2, k3, k4, k5, k6, k7⟩ := boxes_at ha hb hc hd hBx))
                  go_ret
                  exact ⟨congrArg (fun z => Ending.returned (.bool z)) hz.out.symm, HB.out.trans (hBx.mono HB.out.size)⟩
            · have y3 : (s3 == 0) = false := by simp [z3]
              have x3 : decide (s3 = 0) = false := decide_eq_false z3
              by_cases z4 : s4 = 0
              · obtain rfl : s4 = 0 := z4
                cases q4
                rotate_left
                · skip
                  have hz : Hid (r = true) := by show r = true; rw [HZ.out]; simp [z2, z3]
                  clear HZ
                  go_wp2_with (first
                    | (go_at_call 121; (with_reducible refine (rbt_any a1 a2 b1 b2 c1 c2 _ _ F1).mono ?_); rintro e w2 ⟨rfl, hb2⟩; replace hBx := below_step hBx hb2; obtain ⟨k0, k1, k2, k3, k4, k5, k6, k7⟩ := boxes_at ha hb hc hd hBx)
                    | (go_at_call 121; (with_reducible refine (rbt_any c1 c2 d1 d2 b1 b2 _ _ F4).mono ?_); rintro e w2 ⟨rfl, hb2⟩; replace hBx := below_step hBx hb2; obtain ⟨k0, k1, k2, k3, k4, k5, k6, k7⟩ := boxes_at ha hb hc hd hBx))
                  go_ret
                  exact ⟨congrArg (fun z => Ending.returned (.bool z)) hz.out.symm, HB.out.trans (hBx.mono HB.out.size)⟩
                · skip
                  have hz : Hid (r = false) := by show r = false; rw [HZ.out]; simp [z2, z3]
                  clear HZ
                  go_wp2_with (first
                    | (go_at_call 121; (with_reducible refine (rbt_any a1 a2 b1 b2 c1 c2 _ _ F1).mono ?_); rintro e w2 ⟨rfl, hb2⟩; replace hBx := below_step hBx hb2; obtain ⟨k0, k1, k2, k3, k4, k5, k6, k7⟩ := boxes_at ha hb hc hd hBx)
                    | (go_at_call 121; (with_reducible refine (rbt_any c1 c2 d1 d2 b1 b2 _ _ F4).mono ?_); rintro e w2 ⟨rfl, hb2⟩; replace hBx := below_step hBx hb2; obtain ⟨k0, k1, k2, k3, k4, k5, k6, k7⟩ := boxes_at ha hb hc hd hBx))
                  go_ret
                  exact ⟨congrArg (fun z => Ending.returned (.bool z)) hz.out.symm, HB.out.trans (hBx.mono HB.out.size)⟩
              · have y4 : (s4 == 0) = false := by simp [z4]
                have x4 : decide (s4 = 0) = false := decide_eq_false z4
                have hz : Hid (r = false) := by show r = false; rw [HZ.out]; simp [z2, z3, z4]
                clear HZ
                go_wp2_with (first
                  | (go_at_call 121; (with_reducible refine (rbt_any a1 a2 b1 b2 c1 c2 _ _ F1).mono ?_); rintro e w2 ⟨rfl, hb2⟩; replace hBx := below_step hBx hb2; obtain ⟨k0, k1, k2, k3, k4, k5, k6, k7⟩ := boxes_at ha hb hc hd hBx))
                go_ret
                exact ⟨congrArg (fun z => Ending.returned (.bool z)) hz.out.symm, HB.out.trans (hBx.mono HB.out.size)⟩
      · have y1 : (s1 == 0) = false := by simp [z1]
        have x1 : decide (s1 = 0) = false := decide_eq_false z1
        by_cases z2 : s2 = 0
        · obtain rfl : s2 = 0 := z2
          cases q2
          rotate_left
          · skip
            have hz : Hid (r = true) := by show r = true; rw [HZ.out]; simp [z1]
            clear HZ
            go_wp2_with (first
              | (go_at_call 121; (with_reducible refine (rbt_any a1 a2 b1 b2 d1 d2 _ _ F2).mono ?_); rintro e w2 ⟨rfl, hb2⟩; replace hBx := below_step hBx hb2; obtain ⟨k0, k1, k2, k3, k4, k5, k6, k7⟩ := boxes_at ha hb hc hd hBx))
            go_ret
            exact ⟨congrArg (fun z => Ending.returned (.bool z)) hz.out.symm, HB.out.trans (hBx.mono HB.out.size)⟩
          · skip
            by_cases z3 : s3 = 0
            · obtain rfl : s3 = 0 := z3
              cases q3
              rotate_left
              · skip
                have hz : Hid (r = true) := by show r = true; rw [HZ.out]; simp [z1]
                clear HZ
                go_wp2_with (first
                  | (go_at_call 121; (with_reducible refine (rbt_any a1 a2 b1 b2 d1 d2 _ _ F2).mono ?_); rintro e w2 ⟨rfl, hb2⟩; replace hBx := below_step hBx hb2; obtain ⟨k0, k1, k2, k3, k4, k5, k6, k7⟩ := boxes_at ha hb hc hd hBx)
                  | (go_at_call 121; (with_reducible refine (rbt_any c1 c2 d1 d2 a1 a2 _ _ F3).mono ?_); rintro e w2 ⟨rfl, hb2⟩; replace hBx := below_step hBx hb2; obtain ⟨k0, k1, k2, k3, k4, k5, k6, k7⟩ := boxes_at ha hb hc hd hBx))
                go_ret
                exact ⟨congrArg (fun z => Ending.returned (.bool z)) hz.out.symm, HB.out.trans (hBx.mono HB.out.size)⟩
              · skip
                by_cases z4 : s4 = 0
                · obtain rfl : s4 = 0 := z4
                  cases q4
                  rotate_left
                  · skip
                    have hz : Hid (r = true) := by show r = true; rw [HZ.out]; simp [z1]
                    clear HZ
                    go_wp2_with (first
                      | (go_at_call 121; (with_reducible refine (rbt_any a1 a2 b1 b2 d1 d2 _ _ F2).mono ?_); rintro e w2 ⟨rfl, hb2⟩; replace hBx := below_step hBx hb2; obtain ⟨k0, k1, k2, k3, k4, k5, k6, k7⟩ := boxes_at ha hb hc hd hBx)
                      | (go_at_call 121; (with_reducible refine (rbt_any c1 c2 d1 d2 a1 a2 _ _ F3).mono ?_); rintro e w2 ⟨rfl, hb2⟩; replace hBx := below_step hBx hb2; obtain ⟨k0, k1, k2, k3, k4, k5, k6, k7⟩ := boxes_at ha hb hc hd hBx)
                      | (go_at_call 121; (with_reducible refine (rbt_any c1 c2 d1 d2 b1 b2 _ _ F4).mono ?_); rintro e w2 ⟨rfl, hb2⟩; replace hBx := below_step hBx hb2; obtain ⟨k0, k1, k2, k3, k4, k5, k6, k7⟩ := boxes_at ha hb hc hd hBx))
                    go_ret
                    exact ⟨congrArg (fun z => Ending.returned (.bool z)) hz.out.symm, HB.out.trans (hBx.mono HB.out.size)⟩
                  · skip
                    have hz : Hid (r = false) := by show r = false; rw [HZ.out]; simp [z1]
                    clear HZ
                    go_wp2_with (first
                      | (go_at_call 121; (with_reducible refine (rbt_any a1 a2 b1 b2 d1 d2 _ _ F2).mono ?_); rintro e w2 ⟨rfl, hb2⟩; replace hBx := below_step hBx hb2; obtain ⟨k0, k1, k2, k3, k4, k5, k6, k7⟩ := boxes_at ha hb hc hd hBx)
                      | (go_at_call 121; (with_reducible refine (rbt_any c1 c2 d1 d2 a1 a2 _ _ F3).mono ?_); rintro e w2 ⟨rfl, hb2⟩; replace hBx := below_step hBx hb2; obtain ⟨k0, k1, k2, k3, k4, k5, k6, k7⟩ := boxes_at ha hb hc hd hBx)
                      | (go_at_call 121; (with_reducible refine (rbt_any c1 c2 d1 d2 b1 b2 _ _ F4).mono ?_); rintro e w2 ⟨rfl, hb2⟩; replace hBx := below_step hBx hb2; obtain ⟨k0, k1, k2, k3, k4, k5, k6, k7⟩ := boxes_at ha hb hc hd hBx))
                    go_ret
                    exact ⟨congrArg (fun z => Ending.returned (.bool z)) hz.out.symm, HB.out.trans (hBx.mono HB.out.size)⟩
                · have y4 : (s4 == 0) = false := by simp [z4]
                  have x4 : decide (s4 = 0) = false := decide_eq_false z4
                  have hz : Hid (r = false) := by show r = false; rw [HZ.out]; simp [z1, z4]
                  clear HZ
                  go_wp2_with (first
                    | (go_at_call 121; (with_reducible refine (rbt_any a1 a2 b1 b2 d1 d2 _ _ F2).mono ?_); rintro e w2 ⟨rfl, hb2⟩; replace hBx := below_step hBx hb2; obtain ⟨k0, k1, k2, k3, k4, k5, k6, k7⟩ := boxes_at ha hb hc hd hBx)
                    | (go_at_call 121; (with_reducible refine (rbt_any c1 c2 d1 d2 a1 a2 _ _ F3).mono ?_); rintro e w2 ⟨rfl, hb2⟩; replace hBx := below_step hBx hb2; obtain ⟨k0, k1, k2, k3, k4, k5, k6, k7⟩ := boxes_at ha hb hc hd hBx))
                  go_ret
                  exact ⟨congrArg (fun z => Ending.returned (.bool z)) hz.out.symm, HB.out.trans (hBx.mono HB.out.size)⟩
            · have y3 : (s3 == 0) = false := by simp [z3]
              have x3 : decide (s3 = 0) = false := decide_eq_false z3
              by_cases z4 : s4 = 0
              · obtain rfl : s4 = 0 := z4
                cases q4
                rotate_left
                · skip
                  have hz : Hid (r = true) := by show r = true; rw [HZ.out]; simp [z1, z3]
                  clear HZ
                  go_wp2_with (first
                    | (go_at_call 121; (with_reducible refine (rbt_any a1 a2 b1 b2 d1 d2 _ _ F2).mono ?_); rintro e w2 ⟨rfl, hb2⟩; replace hBx := below_step hBx hb2; obtain ⟨k0, k1, k2, k3, k4, k5, k6, k7⟩ := boxes_at ha hb hc hd hBx)
                    | (go_at_call 121; (with_reducible refine (rbt_any c1 c2 d1 d2 b1 b2 _ _ F4).mono ?_); rintro e w2 ⟨rfl, hb2⟩; replace hBx := below_step hBx hb2; obtain ⟨k0, k1, k2, k3, k4, k5, k6, k7⟩ := boxes_at ha hb hc hd hBx))
                  go_ret
                  exact ⟨congrArg (fun z => Ending.returned (.bool z)) hz.out.symm, HB.out.trans (hBx.mono HB.out.size)⟩
                · skip
                  have hz : Hid (r = false) := by show r = false; rw [HZ.out]; simp [z1, z3]
                  clear HZ
                  go_wp2_with (first
                    | (go_at_call 121; (with_reducible refine (rbt_any a1 a2 b1 b2 d1 d2 _ _ F2).mono ?_); rintro e w2 ⟨rfl, hb2⟩; replace hBx := below_step hBx hb2; obtain ⟨k0, k1, k2, k3, k4, k5, k6, k7⟩ := boxes_at ha hb hc hd hBx)
                    | (go_at_call 121; (with_reducible refine (rbt_any c1 c2 d1 d2 b1 b2 _ _ F4).mono ?_); rintro e w2 ⟨rfl, hb2⟩; replace hBx := below_step hBx hb2; obtain ⟨k0, k1, k2, k3, k4, k5, k6, k7⟩ := boxes_at ha hb hc hd hBx))
                  go_ret
                  exact ⟨congrArg (fun z => Ending.returned (.bool z)) hz.out.symm, HB.out.trans (hBx.mono HB.out.size)⟩
              · have y4 : (s4 == 0) = false := by simp [z4]
                have x4 : decide (s4 = 0) = false := decide_eq_false z4
                have hz : Hid (r = false) := by show r = false; rw [HZ.out]; simp [z1, z3, z4]
                clear HZ
                go_wp2_with (first
                  | (go_at_call 121; (with_reducible refine (rbt_any a1 a2 b1 b2 d1 d2 _ _ F2).mono ?_); rintro e w2 ⟨rfl, hb2⟩; replace hBx := below_step hBx hb2; obtain ⟨k0, k1, k2, k3, k4, k5, k6, k7⟩ := boxes_at ha hb hc hd hBx))
                go_ret
                exact ⟨congrArg (fun z => Ending.returned (.bool z)) hz.out.symm, HB.out.trans (hBx.mono HB.out.size)⟩
        · have y2 : (s2 == 0) = false := by simp [z2]
          have x2 : decide (s2 = 0) = false := decide_eq_false z2
          by_cases z3 : s3 = 0
          · obtain rfl : s3 = 0 := z3
            cases q3
            rotate_left
            · skip
              have hz : Hid (r = true) := by show r = true; rw [HZ.out]; simp [z1, z2]
              clear HZ
              go_wp2_with (first
                | (go_at_call 121; (with_reducible refine (rbt_any c1 c2 d1 d2 a1 a2 _ _ F3).mono ?_); rintro e w2 ⟨rfl, hb2⟩; replace hBx := below_step hBx hb2; obtain ⟨k0, k1, k2, k3, k4, k5, k6, k7⟩ := boxes_at ha hb hc hd hBx))
              go_ret
              exact ⟨congrArg (fun z => Ending.returned (.bool z)) hz.out.symm, HB.out.trans (hBx.mono HB.out.size)⟩
            · skip
              by_cases z4 : s4 = 0
              · obtain rfl : s4 = 0 := z4
                cases q4
                rotate_left
                · skip
                  have hz : Hid (r = true) := by show r = true; rw [HZ.out]; simp [z1, z2]
                  clear HZ
                  go_wp2_with (first
                    | (go_at_call 121; (with_reducible refine (rbt_any c1 c2 d1 d2 a1 a2 _ _ F3).mono ?_); rintro e w2 ⟨rfl, hb2⟩; replace hBx := below_step hBx hb2; obtain ⟨k0, k1, k2, k3, k4, k5, k6, k7⟩ := boxes_at ha hb hc hd hBx)
                    | (go_at_call 121; (with_reducible refine (rbt_any c1 c2 d1 d2 b1 b2 _ _ F4).mono ?_); rintro e w2 ⟨rfl, hb2⟩; replace hBx := below_step hBx hb2; obtain ⟨k0, k1, k2, k3, k4, k5, k6, k7⟩ := boxes_at ha hb hc hd hBx))
                  go_ret
                  exact ⟨congrArg (fun z => Ending.returned (.bool z)) hz.out.symm, HB.out.trans (hBx.mono HB.out.size)⟩
                · skip
                  have hz : Hid (r = false) := by show r = false; rw [HZ.out]; simp [z1, z2]
                  clear HZ
                  go_wp2_with (first
                    | (go_at_call 121; (with_reducible refine (rbt_any c1 c2 d1 d2 a1 a2 _ _ F3).mono ?_); rintro e w2 ⟨rfl, hb2⟩; replace hBx := below_step hBx hb2; obtain ⟨k0, k1, k2, k3, k4, k5, k6, k7⟩ := boxes_at ha hb hc hd hBx)
                    | (go_at_call 121; (with_reducible refine (rbt_any c1 c2 d1 d2 b1 b2 _ _ F4).mono ?_); rintro e w2 ⟨rfl, hb2⟩; replace hBx := below_step hBx hb2; obtain ⟨k0, k1, k2, k3, k4, k5, k6, k7⟩ := boxes_at ha hb hc hd hBx))
                  go_ret
                  exact ⟨congrArg (fun z => Ending.returned (.bool z)) hz.out.symm, HB.out.trans (hBx.mono HB.out.size)⟩
              · have y4 : (s4 == 0) = false := by simp [z4]
                have x4 : decide (s4 = 0) = false := decide_eq_false z4
                have hz : Hid (r = false) := by show r = false; rw [HZ.out]; simp [z1, z2, z4]
                clear HZ
                go_wp2_with (first
                  | (go_at_call 121; (with_reducible refine (rbt_any c1 c2 d1 d2 a1 a2 _ _ F3).mono ?_); rintro e w2 ⟨rfl, hb2⟩; replace hBx := below_step hBx hb2; obtain ⟨k0, k1, k2, k3, k4, k5, k6, k7⟩ := boxes_at ha hb hc hd hBx))
                go_ret
                exact ⟨congrArg (fun z => Ending.returned (.bool z)) hz.out.symm, HB.out.trans (hBx.mono HB.out.size)⟩
          · have y3 : (s3 == 0) = false := by simp [z3]
            have x3 : decide (s3 = 0) = false := decide_eq_false z3
            by_cases z4 : s4 = 0
            · obtain rfl : s4 = 0 := z4
              cases q4
              rotate_left
              · skip
                have hz : Hid (r = true) := by show r = true; rw [HZ.out]; simp [z1, z2, z3]
                clear HZ
                go_wp2_with (first
                  | (go_at_call 121; (with_reducible refine (rbt_any c1 c2 d1 d2 b1 b2 _ _ F4).mono ?_); rintro e w2 ⟨rfl, hb2⟩; replace hBx := below_step hBx hb2; obtain ⟨k0, k1, k2, k3, k4, k5, k6, k7⟩ := boxes_at ha hb hc hd hBx))
                go_ret
                exact ⟨congrArg (fun z => Ending.returned (.bool z)) hz.out.symm, HB.out.trans (hBx.mono HB.out.size)⟩
              · skip
                have hz : Hid (r = false) := by show r = false; rw [HZ.out]; simp [z1, z2, z3]
                clear HZ
                go_wp2_with (first
                  | (go_at_call 121; (with_reducible refine (rbt_any c1 c2 d1 d2 b1 b2 _ _ F4).mono ?_); rintro e w2 ⟨rfl, hb2⟩; replace hBx := below_step hBx hb2; obtain ⟨k0, k1, k2, k3, k4, k5, k6, k7⟩ := boxes_at ha hb hc hd hBx))
                go_ret
                exact ⟨congrArg (fun z => Ending.returned (.bool z)) hz.out.symm, HB.out.trans (hBx.mono HB.out.size)⟩
            · have y4 : (s4 == 0) = false := by simp [z4]
              have x4 : decide (s4 = 0) = false := decide_eq_false z4
              have hz : Hid (r = false) := by show r = false; rw [HZ.out]; simp [z1, z2, z3, z4]
              clear HZ
              go_wp2
              go_ret
              exact ⟨congrArg (fun z => Ending.returned (.bool z)) hz.out.symm, HB.out.trans (hBx.mono HB.out.size)⟩
end Go.Proofs.Ytaehfildhmljeaa
