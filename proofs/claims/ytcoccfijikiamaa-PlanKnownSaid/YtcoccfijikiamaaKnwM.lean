/- The examples of PlanKnown: what each call gives. -/
import Derived.Test.YtcoccfijikiamaaPstM
import Derived.Test.YtcoccfijikiamaaAwk
namespace Go.Proofs.Ytcoccfijikiamaa
open Go.RowKit Go.Shelf

theorem known_car : carE ⟨4000, 20, 91, 30, 1⟩ = 2 := by decide +kernel
theorem known_c1 : chkP kCar [0, -30, -60] = 0 := by decide +kernel
theorem known_c2 : chkP kCar [10] = 2 := by decide +kernel
theorem known_c3 : chkP kCar [] = 6 := by decide +kernel
theorem known_r1 : rmpC kCar 0 20 = 20 := by decide +kernel
theorem known_r2 : rmpC kCar (-60) 0 = -30 := by decide +kernel
theorem known_s1 : IsStop kCar 0 100 3 := ⟨by decide, by decide, by decide +kernel, fun j h1 h2 => by
  rcases (show j = 1 ∨ j = 2 by omega) with rfl | rfl <;> decide +kernel⟩
theorem known_s2 : IsStop kCar 20 0 1 := ⟨by decide, by decide, by decide +kernel, fun j h1 h2 => by omega⟩
theorem known_s3 : IsStop kCar (-60) 0 1 := ⟨by decide, by decide, by decide +kernel, fun j h1 h2 => by omega⟩
/-- A stop of the chapter's car. -/
theorem stops_k (a v : Int) (n : Nat) (l : List Int) (hv : I64 v) (h : IsStop kCar a (clp v 0 2000) n) (hl : rmps kCar (-kCar.brk) n a = l) (W : World) :
    Calls Try.prog 22 #[cv kCar, iv a, iv v] W fun e w' => ∃ A cap, e = .returned (.slice A n cap) ∧ NumL w' A l ∧ Below W.heap.size W w' := by
  refine (stops_any kCar kCar_ok a v W hv).mono fun e w' hh => ?_
  obtain ⟨m, A, cap, hm, he, _, hA, hb⟩ := hh
  obtain rfl := isStop_uniq hm h
  rw [hl] at hA
  exact ⟨A, cap, he, hA, hb⟩
/-- The kit's comparison of equal rows. -/
theorem longs_k (l : List Int) (h : l.length ≤ 1000000) (A : Option Addr) (cap B : Nat) (W : World) (h1 : NumL W A l) (h2 : NumL W (some ⟨B, 0, none⟩) l) :
    Calls Try.prog 21 #[.slice A l.length cap, .slice (some ⟨B, 0, none⟩) l.length l.length] W fun e w' => e = .returned (.bool true) ∧ Below W.heap.size W w' := by
  have h3 := longs_any A cap l (some ⟨B, 0, none⟩) l.length l W h h h1 h2
  rw [decide_eq_true rfl] at h3
  exact h3
theorem same_k (l : List Int) (h : l.length ≤ 1000000) (A : Option Addr) (cap B : Nat) (W : World) (h1 : NumL W A l) (h2 : NumL W (some ⟨B, 0, none⟩) l) :
    Calls Try.prog 15 #[pv A l.length cap, pv (some ⟨B, 0, none⟩) l.length l.length] W fun e w' => e = .returned (.bool true) ∧ Below W.heap.size W w' := by
  have h3 := rsame_any A cap l (some ⟨B, 0, none⟩) l.length l W h h h1 h2
  rw [decide_eq_true rfl] at h3
  exact h3
theorem check_k (l : List Int) (e0 : Int) (h : l.length ≤ 1000000) (he : chkP kCar l = e0) (A : Option Addr) (cap : Nat) (hc : l.length ≤ cap) (W : World) (h1 : NumL W A l) :
    Calls Try.prog 10 #[cv kCar, pv A l.length cap] W fun e w' => e = .returned (iv e0) ∧ Below W.heap.size W w' := by
  have h3 := check_any kCar A cap l W h1 hc h
  rw [he] at h3
  exact h3
theorem tail_k (l t : List Int) (ht : tailF l = t) (h : l.length ≤ 1000000) (B : Nat) (W : World) (h1 : NumL W (some ⟨B, 0, none⟩) l) :
    Calls Try.prog 14 #[pv (some ⟨B, 0, none⟩) l.length l.length] W fun e w' => ∃ A cap, e = .returned (pv A t.length cap) ∧ NumL w' A t ∧ Below W.heap.size W w' := by
  refine (tail_any (some ⟨B, 0, none⟩) l.length l W h1 (fun e => by cases e) (Nat.le_refl _) h).mono fun e w' hh => ?_
  obtain ⟨v, he, ho, hb⟩ := hh
  rw [ht] at ho
  obtain ⟨A, cap, rfl⟩ := own_form ho
  exact ⟨A, cap, he, num_row ho, hb⟩
end Go.Proofs.Ytcoccfijikiamaa
