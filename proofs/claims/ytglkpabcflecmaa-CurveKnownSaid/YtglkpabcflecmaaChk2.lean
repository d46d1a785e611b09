/- Check of what is no curve: too few points, too many, one that isn't valid. -/
import Derived.Test.YtglkpabcflecmaaLen
namespace Go.Proofs.Ytglkpabcflecmaa
open Go.RowKit Go.Shelf

set_option maxHeartbeats 2000000 in
theorem check_short (A : Option Addr) (n cap : Nat) (hn : n < 2) (w : World) :
    Calls Try.prog 20 #[.agg #[.slice A n cap]] w fun e w' => e = .returned (.int .i64 6) ∧ Below w.heap.size w w' := by
  go_enter Try.func20, Try.ntmps20
  go_wp2
  exact bodyPost_ret (v := .int .i64 6) (by simp [results, Try.results20, go_sem]) rfl ⟨rfl, by
    repeat (first | exact Below.refl _ _ | refine Below.setCell ?_ (by first | omega | (simp; omega) | simp) _ | refine Below.alloc ?_ (by first | omega | (simp; omega) | simp) _)⟩

set_option maxHeartbeats 2000000 in
theorem check_long (A : Option Addr) (n cap : Nat) (hn : 16 < n) (w : World) :
    Calls Try.prog 20 #[.agg #[.slice A n cap]] w fun e w' => e = .returned (.int .i64 5) ∧ Below w.heap.size w w' := by
  have h2 : ¬ n < 2 := by omega
  go_enter Try.func20, Try.ntmps20
  go_wp2
  exact bodyPost_ret (v := .int .i64 5) (by simp [results, Try.results20, go_sem]) rfl ⟨rfl, by
    repeat (first | exact Below.refl _ _ | refine Below.setCell ?_ (by first | omega | (simp; omega) | simp) _ | refine Below.alloc ?_ (by first | omega | (simp; omega) | simp) _)⟩

set_option maxHeartbeats 4000000 in
theorem check_range (b off n cap : Nat) (X Y : Nat → Int) (hn : 2 ≤ n) (hn' : n ≤ 16) (w : World) (hp : Pts w b off n X Y) (j : Nat) (hj : j < n) (hbad : ¬ (okc (X j) ∧ okc (Y j))) :
    Calls Try.prog 20 #[cv b off n cap] w fun e w' => e = .returned (.int .i64 2) ∧ Below w.heap.size w w' := by
  have HB := Lib.hid hbad
  have hb := hp.lt (by omega)
  have hB2 : Below w.heap.size w ((w.alloc (.cells #[.slice (some ⟨b, off, none⟩) n cap] 24)).alloc (.cells #[.int .i64 0] 28)) := ((Below.refl _ w).alloc (Nat.le_refl _) _).alloc (by simp) _
  have hp2 := hp.below hB2 hb
  have h2 : ¬ n < 2 := by omega
  have h3 : ¬ 16 < n := by omega
  clear hbad
  go_enter Try.func20, Try.ntmps20
  go_wp2_with (go_at_call 59; (refine (valid_no b off n cap X Y _ hp2 (by simp; omega) (by omega) j hj HB.out).mono ?_); rintro e w1 ⟨rfl, hb1⟩; obtain ⟨hbw, hz1, cC, hR⟩ := pre_facts hb1; clear hb1; have r0 := BoxAt.cell hR.out 0; have r1 := BoxAt.frozen hR.out 0)
  have hq := BoxAt.cell (BoxAt.set hR.out 0 (.int .i64 2)) 0
  exact bodyPost_ret (v := .int .i64 2) (by simp [results, Try.results20, go_sem, hq]) rfl ⟨rfl, by
    repeat (first | exact hbw | refine Below.setCell ?_ (by first | omega | (simp; omega) | simp) _ | refine Below.alloc ?_ (by first | omega | (simp; omega) | simp) _)⟩
end Go.Proofs.Ytglkpabcflecmaa
