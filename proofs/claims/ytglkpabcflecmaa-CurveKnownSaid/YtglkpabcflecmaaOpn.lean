/- Arguments that came in: a spot, and the numbers of which a curve is made. -/
import Derived.Test.YtglkpabcflecmaaLift
import Derived.Test.YtglkpabcflecmaaKCur
import Derived.Deep.SlicePairs
import Derived.Deep.Slices
import Derived.Deep.Strs
namespace Go.Proofs.Ytglkpabcflecmaa
open Go.ChangeShapes Go.WideShapes Go.ChangeAt Go.RowKit Go.Joins Go.Deep

theorem cells43 : Try.prog.cellsOf 43 = 2 := by kernel_rfl

set_option maxRecDepth 100000 in
/-- A spot by value: its two coordinates. -/
theorem open_spot {H : Type} {enc : TypeId × Value → H} {W : World} {base b0 : Nat} {r : Reach} {spare : Nat → Bool} {held : Bool} {v : Value} {d : DataW H} {p : List MemPlace} (hv : Value.okWide Try.prog W r b0 43 v) (h : DataW.Trod enc Try.prog W base spare held 43 v d p) :
    ∃ x y : Int, v = sp x y := by
  obtain ⟨c0, c1, y0, y1, m, rfl, rfl, rfl, hy0, hy1⟩ := open_agg2 Try.underlying43 (by kernel_rfl) cells43 hv h
  obtain ⟨a, e0, rfl, wa⟩ := DataW.trod_int Try.underlying2 hy0
  obtain ⟨b, e1, rfl, wb⟩ := DataW.trod_int Try.underlying2 hy1
  simp at e0 e1
  subst e0 e1
  exact ⟨a, b, rfl⟩

/-- The number in a value. -/
def numOf : Value → Int
  | .int _ z => z
  | _ => 0

/-- A slice has no row behind its address where its cells are read. -/
theorem plain_of_cell {w : World} {a : Addr} {v : Value} (h : w.cell? a = some v) : a.spot = none := by
  unfold World.cell? at h
  cases hs : a.spot with
  | none => rfl
  | some z =>
    split at h
    · rw [hs] at h; simp at h
    · cases h

set_option maxRecDepth 100000 in
theorem open_chain {H : Type} {enc : TypeId × Value → H} {W : World} {base b0 : Nat} {r : Reach} {spare : Nat → Bool} {held : Bool} {v : Value} {d : DataW H} {p : List MemPlace} (hv : Value.okWide Try.prog W r b0 37 v) (h : DataW.Trod enc Try.prog W base spare held 37 v d p) :
    ∃ (x y : Int) (A : Option Addr) (m cap : Nat) (S : Nat → Int), v = chv x y A m cap ∧ Stps W A m S := by
  obtain ⟨cs, rfl, hsz⟩ := okWide_struct Try.underlying37 hv
  obtain ⟨fuel, hf⟩ := h
  obtain ⟨y0, y1, y2, n, hx, hl, h0, h1, h2⟩ := trod_struct3 Try.underlying37 hf
  have hc1 : Try.prog.cellsOf 37 = 3 := by kernel_rfl
  obtain ⟨c0, c1, c2, hc0⟩ : ∃ c0 c1 c2, cs.toList = [c0, c1, c2] := by
    rw [hc1] at hsz
    match cs, hsz with
    | ⟨[c0, c1, c2]⟩, _ => exact ⟨c0, c1, c2, rfl⟩
  obtain rfl : cs = #[c0, c1, c2] := by cases cs; simp_all
  have e2 : Try.prog.cellsOf 2 = 1 := by kernel_rfl
  have e35 : Try.prog.cellsOf 35 = 1 := by kernel_rfl
  have h0' : DataW.trod enc Try.prog W base spare held n 2 [c0] = some y0 := by simpa [Value.cells, e2] using h0
  have h1' : DataW.trod enc Try.prog W base spare held n 2 [c1] = some y1 := by simpa [Value.cells, e2] using h1
  have h2' : DataW.trod enc Try.prog W base spare held n 35 [c2] = some y2 := by simpa [Value.cells, e35] using h2
  obtain ⟨x, q0, _, _⟩ := DataW.trod_int Try.underlying2 h0'
  obtain ⟨y, q1, _, _⟩ := DataW.trod_int Try.underlying2 h1'
  simp at q0 q1
  subst q0 q1
  rcases open_slice1 Try.underlying35 (by kernel_rfl) h2' with ⟨hc, _⟩ | ⟨a, len, cap, m, n2, V, D, Pl, hc, hb, hle, hm, hmm, hx2, hall⟩
  · obtain rfl : c2 = .slice none 0 0 := by simpa using hc
    exact ⟨x, y, none, 0, 0, fun _ => 0, rfl, fun h => absurd h (by omega)⟩
  · obtain rfl : c2 = .slice (some a) len cap := by simpa using hc
    refine ⟨x, y, some a, len, cap, fun i => numOf (V i), rfl, fun hn => ?_⟩
    have hlm : len ≤ m := by rw [hmm]; split <;> omega
    have hsp : a.spot = none := by
      have h1 := (hall 0 (by omega)).1
      have := plain_of_cell h1
      simpa [Addr.add] using this
    obtain ⟨b, off, spot⟩ := a
    simp only at hsp
    subst hsp
    refine ⟨b, off, rfl, fun i hi => ?_⟩
    obtain ⟨g0, t0⟩ := hall i (by omega)
    obtain ⟨z0, q0, _, _⟩ := DataW.trod_int Try.underlying3 t0
    simp at q0
    rw [add_plain] at g0
    rw [q0] at g0
    dsimp only
    rw [q0]
    exact g0
set_option maxRecDepth 100000 in
theorem open_chainc {H : Type} {enc : TypeId × Value → H} {W : World} {base b0 : Nat} {r : Reach} {spare : Nat → Bool} {held : Bool} {v : Value} {d : DataW H} {p : List MemPlace} (hv : Value.okWide Try.prog W r b0 37 v) (h : DataW.Trod enc Try.prog W base spare held 37 v d p) :
    ∃ (x y : Int) (A : Option Addr) (m cap : Nat) (S : Nat → Int), v = chv x y A m cap ∧ Stps W A m S ∧ m ≤ cap := by
  obtain ⟨x, y, A, m, cap, S, e, hS⟩ := open_chain hv h
  subst e
  refine ⟨x, y, A, m, cap, S, rfl, hS, ?_⟩
  obtain ⟨fuel, hf⟩ := h
  obtain ⟨y0, y1, y2, n, hx, hl, h0, h1, h2⟩ := trod_struct3 Try.underlying37 hf
  have e2 : Try.prog.cellsOf 2 = 1 := by kernel_rfl
  have e35 : Try.prog.cellsOf 35 = 1 := by kernel_rfl
  have h2' : DataW.trod enc Try.prog W base spare held n 35 [.slice A m cap] = some y2 := by simpa [Value.cells, e2, e35] using h2
  rcases open_slice1 Try.underlying35 (by kernel_rfl) h2' with ⟨hc, _⟩ | ⟨a, len, cap', m', n2, V, D, Pl, hc, hb, hle, _⟩
  · simp at hc
    omega
  · simp at hc
    omega
end Go.Proofs.Ytglkpabcflecmaa
