/- 'overlap', 'Blocks'. -/
import Derived.Test.YtglkpabcflecmaaSid2
namespace Go.Proofs.Ytglkpabcflecmaa
open Go.RowKit Go.Shelf

def ovlF (a b c d : Int) : Bool := decide (min c d ≤ max a b) && decide (min a b ≤ max c d)

set_option maxRecDepth 100000 in
set_option maxHeartbeats 4000000 in
theorem ovl_any (a b c d : Int) (r : Bool) (w : World) (hr : Hid (ovlF a b c d = r)) :
    Calls Try.prog 79 #[.int .i64 a, .int .i64 b, .int .i64 c, .int .i64 d] w fun e w' => e = .returned (.bool r) ∧ w = w' := by
  rcases Int.lt_trichotomy a b with h1 | rfl | h1
  · rcases Int.lt_trichotomy c d with h2 | rfl | h2
    · by_cases t1 : c ≤ b
      · by_cases t2 : a ≤ d
        · have hz : Hid (r = true) := by show r = true; rw [← hr.out]; unfold ovlF; rw [decide_eq_true (by omega), decide_eq_true (by omega)]; rfl
          go_enter Try.func79, Try.ntmps79
          go_wp2
          go_ret
          exact ⟨congrArg (fun z => Ending.returned (.bool z)) hz.out.symm, rfl⟩
        · have hz : Hid (r = false) := by show r = false; rw [← hr.out]; unfold ovlF; rw [decide_eq_true (by omega), decide_eq_false (by omega)]; rfl
          go_enter Try.func79, Try.ntmps79
          go_wp2
          go_ret
          exact ⟨congrArg (fun z => Ending.returned (.bool z)) hz.out.symm, rfl⟩
      · have hz : Hid (r = false) := by show r = false; rw [← hr.out]; unfold ovlF; rw [decide_eq_false (by omega)]; rfl
        go_enter Try.func79, Try.ntmps79
        go_wp2
        go_ret
        exact ⟨congrArg (fun z => Ending.returned (.bool z)) hz.out.symm, rfl⟩
    · by_cases t1 : c ≤ b
      · by_cases t2 : a ≤ c
        · have hz : Hid (r = true) := by show r = true; rw [← hr.out]; unfold ovlF; rw [decide_eq_true (by omega), decide_eq_true (by omega)]; rfl
          go_enter Try.func79, Try.ntmps79
          go_wp2
          go_ret
          exact ⟨congrArg (fun z => Ending.returned (.bool z)) hz.out.symm, rfl⟩
        · have hz : Hid (r = false) := by show r = false; rw [← hr.out]; unfold ovlF; rw [decide_eq_true (by omega), decide_eq_false (by omega)]; rfl
          go_enter Try.func79, Try.ntmps79
          go_wp2
          go_ret
          exact ⟨congrArg (fun z => Ending.returned (.bool z)) hz.out.symm, rfl⟩
      · have hz : Hid (r = false) := by show r = false; rw [← hr.out]; unfold ovlF; rw [decide_eq_false (by omega)]; rfl
        go_enter Try.func79, Try.ntmps79
        go_wp2
        go_ret
        exact ⟨congrArg (fun z => Ending.returned (.bool z)) hz.out.symm, rfl⟩
    · by_cases t1 : d ≤ b
      · by_cases t2 : a ≤ c
        · have hz : Hid (r = true) := by show r = true; rw [← hr.out]; unfold ovlF; rw [decide_eq_true (by omega), decide_eq_true (by omega)]; rfl
          go_enter Try.func79, Try.ntmps79
          go_wp2
          go_ret
          exact ⟨congrArg (fun z => Ending.returned (.bool z)) hz.out.symm, rfl⟩
        · have hz : Hid (r = false) := by show r = false; rw [← hr.out]; unfold ovlF; rw [decide_eq_true (by omega), decide_eq_false (by omega)]; rfl
          go_enter Try.func79, Try.ntmps79
          go_wp2
          go_ret
          exact ⟨congrArg (fun z => Ending.returned (.bool z)) hz.out.symm, rfl⟩
      · have hz : Hid (r = false) := by show r = false; rw [← hr.out]; unfold ovlF; rw [decide_eq_false (by omega)]; rfl
        go_enter Try.func79, Try.ntmps79
        go_wp2
        go_ret
        exact ⟨congrArg (fun z => Ending.returned (.bool z)) hz.out.symm, rfl⟩
  · rcases Int.lt_trichotomy c d with h2 | rfl | h2
    · by_cases t1 : c ≤ a
      · by_cases t2 : a ≤ d
        · have hz : Hid (r = true) := by show r = true; rw [← hr.out]; unfold ovlF; rw [decide_eq_true (by omega), decide_eq_true (by omega)]; rfl
          go_enter Try.func79, Try.ntmps79
          go_wp2
          go_ret
          exact ⟨congrArg (fun z => Ending.returned (.bool z)) hz.out.symm, rfl⟩
        · have hz : Hid (r = false) := by show r = false; rw [← hr.out]; unfold ovlF; rw [decide_eq_true (by omega), decide_eq_false (by omega)]; rfl
          go_enter Try.func79, Try.ntmps79
          go_wp2
          go_ret
          exact ⟨congrArg (fun z => Ending.returned (.bool z)) hz.out.symm, rfl⟩
      · have hz : Hid (r = false) := by show r = false; rw [← hr.out]; unfold ovlF; rw [decide_eq_false (by omega)]; rfl
        go_enter Try.func79, Try.ntmps79
        go_wp2
        go_ret
        exact ⟨congrArg (fun z => Ending.returned (.bool z)) hz.out.symm, rfl⟩
    · by_cases t1 : c ≤ a
      · by_cases t2 : a ≤ c
        · have hz : Hid (r = true) := by show r = true; rw [← hr.out]; unfold ovlF; rw [decide_eq_true (by omega), decide_eq_true (by omega)]; rfl
          go_enter Try.func79, Try.ntmps79
          go_wp2
          go_ret
          exact ⟨congrArg (fun z => Ending.returned (.bool z)) hz.out.symm, rfl⟩
        · have hz : Hid (r = false) := by show r = false; rw [← hr.out]; unfold ovlF; rw [decide_eq_true (by omega), decide_eq_false (by omega)]; rfl
          go_enter Try.func79, Try.ntmps79
          go_wp2
          go_ret
          exact ⟨congrArg (fun z => Ending.returned (.bool z)) hz.out.symm, rfl⟩
      · have hz : Hid (r = false) := by show r = false; rw [← hr.out]; unfold ovlF; rw [decide_eq_false (by omega)]; rfl
        go_enter Try.func79, Try.ntmps79
        go_wp2
        go_ret
        exact ⟨congrArg (fun z => Ending.returned (.bool z)) hz.out.symm, rfl⟩
    · by_cases t1 : d ≤ a
      · by_cases t2 : a ≤ c
        · have hz : Hid (r = true) := by show r = true; rw [← hr.out]; unfold ovlF; rw [decide_eq_true (by omega), decide_eq_true (by omega)]; rfl
          go_enter Try.func79, Try.ntmps79
          go_wp2
          go_ret
          exact ⟨congrArg (fun z => Ending.returned (.bool z)) hz.out.symm, rfl⟩
        · have hz : Hid (r = false) := by show r = false; rw [← hr.out]; unfold ovlF; rw [decide_eq_true (by omega), decide_eq_false (by omega)]; rfl
          go_enter Try.func79, Try.ntmps79
          go_wp2
          go_ret
          exact ⟨congrArg (fun z => Ending.returned (.bool z)) hz.out.symm, rfl⟩
      · have hz : Hid (r = false) := by show r = false; rw [← hr.out]; unfold ovlF; rw [decide_eq_false (by omega)]; rfl
        go_enter Try.func79, Try.ntmps79
        go_wp2
        go_ret
        exact ⟨congrArg (fun z => Ending.returned (.bool z)) hz.out.symm, rfl⟩
  · rcases Int.lt_trichotomy c d with h2 | rfl | h2
    · by_cases t1 : c ≤ a
      · by_cases t2 : b ≤ d
        · have hz : Hid (r = true) := by show r = true; rw [← hr.out]; unfold ovlF; rw [decide_eq_true (by omega), decide_eq_true (by omega)]; rfl
          go_enter Try.func79, Try.ntmps79
          go_wp2
          go_ret
          exact ⟨congrArg (fun z => Ending.returned (.bool z)) hz.out.symm, rfl⟩
        · have hz : Hid (r = false) := by show r = false; rw [← hr.out]; unfold ovlF; rw [decide_eq_true (by omega), decide_eq_false (by omega)]; rfl
          go_enter Try.func79, Try.ntmps79
          go_wp2
          go_ret
          exact ⟨congrArg (fun z => Ending.returned (.bool z)) hz.out.symm, rfl⟩
      · have hz : Hid (r = false) := by show r = false; rw [← hr.out]; unfold ovlF; rw [decide_eq_false (by omega)]; rfl
        go_enter Try.func79, Try.ntmps79
        go_wp2
        go_ret
        exact ⟨congrArg (fun z => Ending.returned (.bool z)) hz.out.symm, rfl⟩
    · by_cases t1 : c ≤ a
      · by_cases t2 : b ≤ c
        · have hz : Hid (r = true) := by show r = true; rw [← hr.out]; unfold ovlF; rw [decide_eq_true (by omega), decide_eq_true (by omega)]; rfl
          go_enter Try.func79, Try.ntmps79
          go_wp2
          go_ret
          exact ⟨congrArg (fun z => Ending.returned (.bool z)) hz.out.symm, rfl⟩
        · have hz : Hid (r = false) := by show r = false; rw [← hr.out]; unfold ovlF; rw [decide_eq_true (by omega), decide_eq_false (by omega)]; rfl
          go_enter Try.func79, Try.ntmps79
          go_wp2
          go_ret
          exact ⟨congrArg (fun z => Ending.returned (.bool z)) hz.out.symm, rfl⟩
      · have hz : Hid (r = false) := by show r = false; rw [← hr.out]; unfold ovlF; rw [decide_eq_false (by omega)]; rfl
        go_enter Try.func79, Try.ntmps79
        go_wp2
        go_ret
        exact ⟨congrArg (fun z => Ending.returned (.bool z)) hz.out.symm, rfl⟩
    · by_cases t1 : d ≤ a
      · by_cases t2 : b ≤ c
        · have hz : Hid (r = true) := by show r = true; rw [← hr.out]; unfold ovlF; rw [decide_eq_true (by omega), decide_eq_true (by omega)]; rfl
          go_enter Try.func79, Try.ntmps79
          go_wp2
          go_ret
          exact ⟨congrArg (fun z => Ending.returned (.bool z)) hz.out.symm, rfl⟩
        · have hz : Hid (r = false) := by show r = false; rw [← hr.out]; unfold ovlF; rw [decide_eq_true (by omega), decide_eq_false (by omega)]; rfl
          go_enter Try.func79, Try.ntmps79
          go_wp2
          go_ret
          exact ⟨congrArg (fun z => Ending.returned (.bool z)) hz.out.symm, rfl⟩
      · have hz : Hid (r = false) := by show r = false; rw [← hr.out]; unfold ovlF; rw [decide_eq_false (by omega)]; rfl
        go_enter Try.func79, Try.ntmps79
        go_wp2
        go_ret
        exact ⟨congrArg (fun z => Ending.returned (.bool z)) hz.out.symm, rfl⟩
end Go.Proofs.Ytglkpabcflecmaa
