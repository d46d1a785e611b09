/- Shift: what it asks of the way, and one point moved. -/
import Derived.Test.YtaehfildhmljeaaRChC
import Derived.Test.YtaehfildhmljeaaPtsL
namespace Go.Proofs.Ytaehfildhmljeaa
open Go.RowKit Go.Shelf

def nearB (x y : Int) : Bool := (decide (-33554432 ≤ x) && decide (x ≤ 33554432)) && (decide (-33554432 ≤ y) && decide (y ≤ 33554432))
set_option maxHeartbeats 1000000 in
theorem vshift_any (x y : Int) (r : Bool) (w : World) (hr : Hid (nearB x y = r)) :
    Calls Try.prog 58 #[sp x y] w fun e w' => e = .returned (.bool r) ∧ Below w.heap.size w w' := by
  by_cases x1 : x < -33554432
  · have hz : Hid (r = false) := by show r = false; rw [← hr.out]; unfold nearB; rw [decide_eq_false (show ¬ -33554432 ≤ x by omega)]; simp
    go_enter Try.func58, Try.ntmps58
    go_wp2
    go_ret
    exact ⟨congrArg (fun z => Ending.returned (.bool z)) hz.out.symm, (Below.refl _ _).alloc (Nat.le_refl _) _⟩
  by_cases x2 : 33554432 < x
  · have hz : Hid (r = false) := by show r = false; rw [← hr.out]; unfold nearB; rw [decide_eq_false (show ¬ x ≤ 33554432 by omega)]; simp
    go_enter Try.func58, Try.ntmps58
    go_wp2
    go_ret
    exact ⟨congrArg (fun z => Ending.returned (.bool z)) hz.out.symm, (Below.refl _ _).alloc (Nat.le_refl _) _⟩
  by_cases y1 : y < -33554432
  · have hz : Hid (r = false) := by show r = false; rw [← hr.out]; unfold nearB; rw [decide_eq_false (show ¬ -33554432 ≤ y by omega)]; simp
    go_enter Try.func58, Try.ntmps58
    go_wp2
    go_ret
    exact ⟨congrArg (fun z => Ending.returned (.bool z)) hz.out.symm, (Below.refl _ _).alloc (Nat.le_refl _) _⟩
  by_cases y2 : 33554432 < y
  · have hz : Hid (r = false) := by show r = false; rw [← hr.out]; unfold nearB; rw [decide_eq_false (show ¬ y ≤ 33554432 by omega)]; simp
    have yd : decide (y ≤ 33554432) = false := decide_eq_false (by omega)
    go_enter Try.func58, Try.ntmps58
    go_wp2
    go_ret
    exact ⟨congrArg (fun z => Ending.returned (.bool z)) hz.out.symm, (Below.refl _ _).alloc (Nat.le_refl _) _⟩
  · have hz : Hid (r = true) := by show r = true; rw [← hr.out]; unfold nearB; rw [decide_eq_true (show -33554432 ≤ x by omega), decide_eq_true (show x ≤ 33554432 by omega), decide_eq_true (show -33554432 ≤ y by omega), decide_eq_true (show y ≤ 33554432 by omega)]; rfl
    have yd : decide (y ≤ 33554432) = true := decide_eq_true (by omega)
    go_enter Try.func58, Try.ntmps58
    go_wp2
    go_ret
    exact ⟨congrArg (fun z => Ending.returned (.bool z)) hz.out.symm, (Below.refl _ _).alloc (Nat.le_refl _) _⟩

set_option maxHeartbeats 1000000 in
theorem far_any (x y : Int) (r : Bool) (w : World) (hr : Hid ((!nearB x y) = r)) :
    Calls Try.prog 61 #[sp x y] w fun e w' => e = .returned (.bool r) ∧ Below w.heap.size w w' := by
  by_cases x1 : x < -33554432
  · have hz : Hid (r = true) := by show r = true; rw [← hr.out]; unfold nearB; rw [decide_eq_false (show ¬ -33554432 ≤ x by omega)]; simp
    go_enter Try.func61, Try.ntmps61
    go_wp2
    go_ret
    exact ⟨congrArg (fun z => Ending.returned (.bool z)) hz.out.symm, (Below.refl _ _).alloc (Nat.le_refl _) _⟩
  by_cases x2 : 33554432 < x
  · have hz : Hid (r = true) := by show r = true; rw [← hr.out]; unfold nearB; rw [decide_eq_false (show ¬ x ≤ 33554432 by omega)]; simp
    go_enter Try.func61, Try.ntmps61
    go_wp2
    go_ret
    exact ⟨congrArg (fun z => Ending.returned (.bool z)) hz.out.symm, (Below.refl _ _).alloc (Nat.le_refl _) _⟩
  by_cases y1 : y < -33554432
  · have hz : Hid (r = true) := by show r = true; rw [← hr.out]; unfold nearB; rw [decide_eq_false (show ¬ -33554432 ≤ y by omega)]; simp
    go_enter Try.func61, Try.ntmps61
    go_wp2
    go_ret
    exact ⟨congrArg (fun z => Ending.returned (.bool z)) hz.out.symm, (Below.refl _ _).alloc (Nat.le_refl _) _⟩
  by_cases y2 : 33554432 < y
  · have hz : Hid (r = true) := by show r = true; rw [← hr.out]; unfold nearB; rw [decide_eq_false (show ¬ y ≤ 33554432 by omega)]; simp
    have yd : decide (33554432 < y) = true := decide_eq_true (by omega)
    go_enter Try.func61, Try.ntmps61
    go_wp2
    go_ret
    exact ⟨congrArg (fun z => Ending.returned (.bool z)) hz.out.symm, (Below.refl _ _).alloc (Nat.le_refl _) _⟩
  · have hz : Hid (r = false) := by show r = false; rw [← hr.out]; unfold nearB; rw [decide_eq_true (show -33554432 ≤ x by omega), decide_eq_true (show x ≤ 33554432 by omega), decide_eq_true (show -33554432 ≤ y by omega), decide_eq_true (show y ≤ 33554432 by omega)]; rfl
    have yd : decide (33554432 < y) = false := decide_eq_false (by omega)
    go_enter Try.func61, Try.ntmps61
    go_wp2
    go_ret
    exact ⟨congrArg (fun z => Ending.returned (.bool z)) hz.out.symm, (Below.refl _ _).alloc (Nat.le_refl _) _⟩

theorem moved_any (x y v a b : Int) (w : World) (hx : okc x) (hy : okc y) (ha1 : -33554432 ≤ a) (ha2 : a ≤ 33554432) (hb1 : -33554432 ≤ b) (hb2 : b ≤ 33554432) :
    Calls Try.prog 59 #[.agg #[.int .i64 x, .int .i64 y, .int .i64 v], .agg #[.int .i64 a, .int .i64 b]] w fun e w' => e = .returned (.agg #[.int .i64 (x + a), .int .i64 (y + b)]) ∧ Below w.heap.size w w' := by
  obtain ⟨x1, x2⟩ := hx
  obtain ⟨y1, y2⟩ := hy
  go_enter Try.func59, Try.ntmps59
  go_wp2
  exact bodyPost_ret (v := .agg #[.int .i64 (x + a), .int .i64 (y + b)]) (by simp [results, Try.results59, go_sem]) rfl ⟨rfl, by
    repeat (first | exact Below.refl _ _ | refine Below.setCell ?_ (by first | omega | (simp; omega) | simp) _ | refine Below.alloc ?_ (by first | omega | (simp; omega) | simp) _)⟩

/-- How many points a move gives, and its error. -/
def shN (n : Nat) (X Y V : Nat → Int) (a b : Int) : Nat × Int :=
  if chkF n X Y V ≠ 0 then (0, chkF n X Y V) else if nearB a b = false then (0, 2) else if allB (fun i => vldB (X i + a) (Y i + b)) n = true then (n, 0) else (0, 2)
def ShPost (n : Nat) (X Y V : Nat → Int) (a b : Int) (w : World) (e : Ending) (w' : World) : Prop :=
  ∃ B cap', e = .returned (.tuple #[.slice B (shN n X Y V a b).1 cap', .int .i64 (shN n X Y V a b).2]) ∧ (shN n X Y V a b).1 ≤ cap' ∧ Cloud w' B (shN n X Y V a b).1 (fun i => X i + a) (fun i => Y i + b) V ∧ Below w.heap.size w w'
theorem shN_bad {n : Nat} {X Y V : Nat → Int} {a b z : Int} (h : chkF n X Y V = z) (hz : z ≠ 0) : shN n X Y V a b = (0, z) := by
  unfold shN; rw [h, if_pos hz]
theorem shN_far {n : Nat} {X Y V : Nat → Int} {a b : Int} (h : chkF n X Y V = 0) (hz : nearB a b = false) : shN n X Y V a b = (0, 2) := by
  unfold shN; rw [h, if_neg (by simp), if_pos hz]
theorem shN_out {n k : Nat} {X Y V : Nat → Int} {a b : Int} (h : chkF n X Y V = 0) (hz : nearB a b = true) (hk : k < n) (hv : vldB (X k + a) (Y k + b) = false) : shN n X Y V a b = (0, 2) := by
  unfold shN; rw [h, if_neg (by simp), if_neg (by simp [hz]), allB_false hk hv, if_neg (by simp)]
theorem shN_ok {n : Nat} {X Y V : Nat → Int} {a b : Int} (h : chkF n X Y V = 0) (hz : nearB a b = true) (hv : allB (fun i => vldB (X i + a) (Y i + b)) n = true) : shN n X Y V a b = (n, 0) := by
  unfold shN; rw [h, if_neg (by simp), if_neg (by simp [hz]), if_pos hv]
theorem ShPost.nil {n : Nat} {X Y V : Nat → Int} {a b z : Int} {w w' : World} {B : Option Addr} {c : Nat} (h : shN n X Y V a b = (0, z)) (hb : Below w.heap.size w w') : ShPost n X Y V a b w (.returned (.tuple #[.slice B 0 c, .int .i64 z])) w' := by
  unfold ShPost
  rw [h]
  exact ⟨B, c, rfl, Nat.zero_le _, fun h => absurd h (by simp), hb⟩
theorem ok_at {n k : Nat} {X Y V : Nat → Int} (h : chkF n X Y V = 0) (hk : k < n) : okc (X k) ∧ okc (Y k) ∧ -4000 ≤ V k ∧ V k ≤ 4000 := by
  unfold chkF at h
  split at h
  · cases h
  · split at h
    · rename_i h2
      have := allB_true h2 k hk
      unfold okP at this
      rw [Bool.and_eq_true, Bool.and_eq_true, vldB_iff] at this
      obtain ⟨⟨h3, h4⟩, h5, h6⟩ := this
      exact ⟨h3, h4, of_decide_eq_true h5, of_decide_eq_true h6⟩
    · cases h
theorem near_of {a b : Int} (h : nearB a b = true) : -33554432 ≤ a ∧ a ≤ 33554432 ∧ -33554432 ≤ b ∧ b ≤ 33554432 := by
  unfold nearB at h
  simp only [Bool.and_eq_true, decide_eq_true_iff] at h
  omega
end Go.Proofs.Ytaehfildhmljeaa
