/- Arguments that came in: numbers, cars, plans. -/
import Derived.Test.YtcoccfijikiamaaLif
import Derived.Test.YtcoccfijikiamaaCln
import Derived.Deep.Slices
import Derived.Deep.Fields
namespace Go.Proofs.Ytcoccfijikiamaa
open Go.ChangeShapes Go.WideShapes Go.ChangeAt Go.RowKit Go.Joins Go.Deep

theorem i64_wf {x : Int} (h : (Lit.int .i64 x).wf = true) : I64 x := by
  simp only [Lit.wf, Bool.and_eq_true, decide_eq_true_eq] at h
  exact h
/-- The number in a value. -/
def numOf : Value → Int
  | .int _ z => z
  | _ => 0
/-- A slice has no row behind its address where its cells are read. -/
theorem plain_of_cell {w : World} {a : Addr} {v : Value} (h : w.cell? a = some v) : a.spot = none := by
  unfold World.cell? at h
  cases hs : a.spot with
  | none => rfl
  | some z =>
    split at h
    · rw [hs] at h; simp at h
    · cases h
set_option maxRecDepth 100000 in
/-- A slice of numbers, or nil. -/
theorem open_nums0 {H : Type} {enc : TypeId × Value → H} {W : World} {base : Nat} {spare : Nat → Bool} {held : Bool} {v : Value} {x : DataW H × List MemPlace} {fuel : Nat} (hf' : DataW.trod enc Try.prog W base spare held fuel 24 [v] = some x) :
    ∃ (A : Option Addr) (cap : Nat) (l : List Int), v = .slice A l.length cap ∧ l.length ≤ cap ∧ Nil0 A cap ∧ l.length ≤ 9223372036854775807 ∧ NumL W A l ∧ ∀ x ∈ l, I64 x := by
  rcases open_slice1 Try.underlying24 (by kernel_rfl) hf' with ⟨hc, _⟩ | ⟨a, len, cap', m, n2, V, D, Pl, hc, hb, hle, hm, hmm, hx2, hall⟩
  · obtain rfl : v = .slice none 0 0 := by simpa using hc
    exact ⟨none, 0, [], rfl, Nat.le_refl _, fun _ => rfl, by decide, NumL.nil _ _, by simp⟩
  · obtain rfl : v = .slice (some a) len cap' := by simpa using hc
    have hlm : len ≤ m := by rw [hmm]; split <;> omega
    have hV : ∀ i, i < len → ∃ z, V i = .int .i64 z ∧ I64 z := fun i hi => by
      obtain ⟨_, t0⟩ := hall i (by omega)
      obtain ⟨z0, q0, _, hw⟩ := DataW.trod_int Try.underlying2 t0
      simp at q0
      exact ⟨z0, q0, i64_wf hw⟩
    refine ⟨some a, cap', (List.range len).map fun i => numOf (V i), by simp, by simpa using hle, fun e => by (cases e), by simp only [List.length_map, List.length_range]; unfold maxLen at hm; omega, fun hn => ?_, fun x hx => ?_⟩
    · simp only [List.length_map, List.length_range] at hn
      have hsp : a.spot = none := by
        have h1 := (hall 0 (by omega)).1
        have := plain_of_cell h1
        simpa [Addr.add] using this
      obtain ⟨b, off, spot⟩ := a
      simp only at hsp
      subst hsp
      refine ⟨b, off, rfl, fun i x hi => ?_⟩
      have hil := (List.getElem?_eq_some_iff.1 hi).1
      simp only [List.length_map, List.length_range] at hil
      obtain ⟨g0, _⟩ := hall i (by omega)
      obtain ⟨z0, q0, _⟩ := hV i hil
      rw [add_flat] at g0
      rw [q0] at g0
      have e : x = z0 := by
        rw [List.getElem?_map, List.getElem?_range hil] at hi
        have : numOf (V i) = x := by simpa using hi
        rw [← this, q0]; rfl
      rw [e]; exact g0
    · obtain ⟨i, hi, rfl⟩ := List.mem_map.1 hx
      obtain ⟨z0, q0, hz⟩ := hV i (List.mem_range.1 hi)
      rw [q0]; exact hz
theorem open_nums {H : Type} {enc : TypeId × Value → H} {W : World} {base b0 : Nat} {r : Reach} {spare : Nat → Bool} {held : Bool} {v : Value} {d : DataW H} {p : List MemPlace} (hv : Value.okWide Try.prog W r b0 24 v) (h : DataW.Trod enc Try.prog W base spare held 24 v d p) :
    ∃ (A : Option Addr) (cap : Nat) (l : List Int), v = .slice A l.length cap ∧ l.length ≤ cap ∧ Nil0 A cap ∧ l.length ≤ 9223372036854775807 ∧ NumL W A l ∧ ∀ x ∈ l, I64 x := by
  obtain ⟨A, n, cap, rfl⟩ := okWide_slice Try.underlying24 hv
  obtain ⟨fuel, hf⟩ := h
  exact open_nums0 (by simpa [Value.cells] using hf)
theorem cells44 : Try.prog.cellsOf 44 = 4 := by kernel_rfl
theorem cells26 : Try.prog.cellsOf 26 = 1 := by kernel_rfl
theorem cells23 : Try.prog.cellsOf 23 = 5 := by kernel_rfl
set_option maxRecDepth 100000 in
/-- Numbers for a car. -/
theorem open_make {H : Type} {enc : TypeId × Value → H} {W : World} {base b0 : Nat} {r : Reach} {spare : Nat → Bool} {held : Bool} {v : Value} {d : DataW H} {p : List MemPlace} (hv : Value.okWide Try.prog W r b0 44 v) (h : DataW.Trod enc Try.prog W base spare held 44 v d p) :
    ∃ x y z u : Int, v = .agg #[iv x, iv y, iv z, iv u] := by
  obtain ⟨c0, c1, c2, c3, y0, y1, y2, y3, m, rfl, rfl, rfl, hy0, hy1, hy2, hy3⟩ := open_agg4 Try.underlying44 (by kernel_rfl) cells44 hv h
  obtain ⟨a, e0, rfl, wa⟩ := DataW.trod_int Try.underlying2 hy0
  obtain ⟨b, e1, rfl, wb⟩ := DataW.trod_int Try.underlying2 hy1
  obtain ⟨c, e2, rfl, wc⟩ := DataW.trod_int Try.underlying2 hy2
  obtain ⟨d, e3, rfl, wd⟩ := DataW.trod_int Try.underlying2 hy3
  simp at e0 e1 e2 e3
  subst e0 e1 e2 e3
  exact ⟨a, b, c, d, rfl⟩
end Go.Proofs.Ytcoccfijikiamaa
