/- Arguments that came in: a slice of numbers. -/
import Derived.Test.YtaehfildhmljeaaOpn
import Derived.Test.YtaehfildhmljeaaKCl
import Derived.Deep.SlicePairs
import Derived.Deep.Slices
namespace Go.Proofs.Ytaehfildhmljeaa
open Go.ChangeShapes Go.WideShapes Go.ChangeAt Go.RowKit Go.Joins Go.Deep

set_option maxRecDepth 100000 in
/-- A slice of numbers, or nil. -/
theorem open_nums {H : Type} {enc : TypeId × Value → H} {W : World} {base b0 : Nat} {r : Reach} {spare : Nat → Bool} {held : Bool} {v : Value} {d : DataW H} {p : List MemPlace} (hv : Value.okWide Try.prog W r b0 70 v) (h : DataW.Trod enc Try.prog W base spare held 70 v d p) :
    ∃ (A : Option Addr) (n cap : Nat) (S : Nat → Int), v = .slice A n cap ∧ n ≤ cap ∧ Nums W A n S := by
  obtain ⟨A, n, cap, rfl⟩ := okWide_slice Try.underlying70 hv
  obtain ⟨fuel, hf⟩ := h
  have hf' : DataW.trod enc Try.prog W base spare held fuel 70 [.slice A n cap] = some (d, p) := by simpa [Value.cells] using hf
  rcases open_slice1 Try.underlying70 (by kernel_rfl) hf' with ⟨hc, _⟩ | ⟨a, len, cap', m, n2, V, D, Pl, hc, hb, hle, hm, hmm, hx2, hall⟩
  · obtain ⟨rfl, rfl, rfl⟩ : A = none ∧ n = 0 ∧ cap = 0 := by simpa using hc
    exact ⟨none, 0, 0, fun _ => 0, rfl, Nat.le_refl _, fun h => absurd h (by omega)⟩
  · obtain ⟨rfl, rfl, rfl⟩ : A = some a ∧ n = len ∧ cap = cap' := by simpa using hc
    refine ⟨some a, n, cap, fun i => numOf (V i), rfl, hle, fun hn => ?_⟩
    have hlm : n ≤ m := by rw [hmm]; split <;> omega
    have hsp : a.spot = none := by
      have h1 := (hall 0 (by omega)).1
      have := plain_of_cell h1
      simpa [Addr.add] using this
    obtain ⟨b, off, spot⟩ := a
    simp only at hsp
    subst hsp
    refine ⟨b, off, rfl, fun i hi => ?_⟩
    obtain ⟨g0, t0⟩ := hall i (by omega)
    obtain ⟨z0, q0, _, _⟩ := DataW.trod_int Try.underlying2 t0
    simp at q0
    rw [add_flat] at g0
    rw [q0] at g0
    dsimp only
    rw [q0]
    exact g0
end Go.Proofs.Ytaehfildhmljeaa
