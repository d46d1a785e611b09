/- Arguments that are arrays: three slices of numbers, three numbers. -/
import Derived.Test.YtnpnfdnaglcnfaaDoorOpn
import Derived.Laws.IdiomArrays
namespace Go.Proofs.YtnpnfdnaglcnfaaDoor
open Go.ChangeShapes Go.WideShapes Go.ChangeAt Go.RowKit Go.Joins Go.Deep

theorem wide_arr {P : Program} {W : World} {b0 n : Nat} {t e : TypeId} {r : Reach} {v : Value} (ht : P.underlying t = some (.array n e)) (h : Value.okWide P W r b0 t v) : ∃ cs, v = .agg cs ∧ cs.size = P.cellsOf t := by
  unfold Value.okWide at h
  rw [ht] at h
  obtain ⟨cs, h1, h2, _⟩ := h
  exact ⟨cs, h1, h2⟩
theorem arr3 (cs : Array Value) (h : cs.size = 3) : ∃ a b c, cs = #[a, b, c] := by
  obtain ⟨l⟩ := cs
  match l, h with
  | [a, b, c], _ => exact ⟨a, b, c, rfl⟩
set_option maxRecDepth 100000 in
/-- A slice of numbers, or nil, out of its reading. -/
theorem open_nums0 {H : Type} {enc : TypeId × Value → H} {W : World} {base fuel : Nat} {spare : Nat → Bool} {held : Bool} {v : Value} {x : DataW H × List MemPlace} (hf' : DataW.trod enc Tryd.prog W base spare held fuel 44 [v] = some x) :
    ∃ (A : Option Addr) (cap : Nat) (l : List Int), v = .slice A l.length cap ∧ l.length ≤ 9223372036854775807 ∧ NumL W A l := by
  rcases open_slice1 Tryd.underlying44 (by kernel_rfl) hf' with ⟨hc, _⟩ | ⟨a, n, cap, m, n2, V, D, Pl, hc, hb, hle, hm, hmm, hx2, hall⟩
  · obtain rfl : v = .slice none 0 0 := by simpa using hc
    exact ⟨none, 0, [], rfl, by decide, NumL.nil _ _⟩
  · obtain rfl : v = .slice (some a) n cap := by simpa using hc
    refine ⟨some a, cap, (List.range n).map fun i => numOf (V i), by simp, by simp only [List.length_map, List.length_range]; unfold maxLen at hm; omega, fun hn => ?_⟩
    simp only [List.length_map, List.length_range] at hn
    have hlm : n ≤ m := by rw [hmm]; split <;> omega
    have hsp : a.spot = none := by
      have h1 := (hall 0 (by omega)).1
      have := plain_of_cell h1
      simpa [Addr.add] using this
    obtain ⟨b, off, spot⟩ := a
    simp only at hsp
    subst hsp
    refine ⟨b, off, rfl, fun i x hi => ?_⟩
    have hil := (List.getElem?_eq_some_iff.1 hi).1
    simp only [List.length_map, List.length_range] at hil
    obtain ⟨g0, t0⟩ := hall i (by omega)
    obtain ⟨z0, q0, _, _⟩ := DataW.trod_int Tryd.underlying3 t0
    simp at q0
    rw [add_flat] at g0
    rw [q0] at g0
    have e : x = z0 := by
      rw [List.getElem?_map, List.getElem?_range hil] at hi
      have : numOf (V i) = x := by simpa using hi
      rw [← this, q0]; rfl
    rw [e]; exact g0
set_option maxRecDepth 100000 in
theorem open_tri {H : Type} {enc : TypeId × Value → H} {W : World} {base b0 : Nat} {r : Reach} {spare : Nat → Bool} {held : Bool} {v : Value} {d : DataW H} {p : List MemPlace} (hv : Value.okWide Tryd.prog W r b0 66 v) (h : DataW.Trod enc Tryd.prog W base spare held 66 v d p) :
    ∃ (F : Nat → Option Addr) (c : Nat → Nat) (L : Nat → List Int), v = .agg #[.slice (F 0) (L 0).length (c 0), .slice (F 1) (L 1).length (c 1), .slice (F 2) (L 2).length (c 2)] ∧ (∀ k, (L k).length ≤ 9223372036854775807) ∧ ∀ k, k < 3 → NumL W (F k) (L k) := by
  obtain ⟨cs, rfl, hsz⟩ := wide_arr Tryd.underlying66 hv
  obtain ⟨v0, v1, v2, rfl⟩ := arr3 cs (hsz.trans (by kernel_rfl))
  obtain ⟨fuel, hf⟩ := h
  have hf' : DataW.trod enc Tryd.prog W base spare held fuel 66 [v0, v1, v2] = some (d, p) := by simpa [Value.cells] using hf
  obtain ⟨y0, y1, y2, n, _, h0, h1, h2⟩ := trod_array3 Tryd.underlying66 (by kernel_rfl) hf'
  obtain ⟨A0, c0, l0, rfl, m0, n0⟩ := open_nums0 h0
  obtain ⟨A1, c1, l1, rfl, m1, n1⟩ := open_nums0 h1
  obtain ⟨A2, c2, l2, rfl, m2, n2⟩ := open_nums0 h2
  refine ⟨fun | 0 => A0 | 1 => A1 | _ => A2, fun | 0 => c0 | 1 => c1 | _ => c2, fun | 0 => l0 | 1 => l1 | _ => l2, rfl, fun k => ?_, fun k hk => ?_⟩
  · rcases k with _ | _ | k
    · exact m0
    · exact m1
    · exact m2
  · rcases k with _ | _ | k
    · exact n0
    · exact n1
    · exact n2
set_option maxRecDepth 100000 in
theorem open_three {H : Type} {enc : TypeId × Value → H} {W : World} {base b0 : Nat} {r : Reach} {spare : Nat → Bool} {held : Bool} {v : Value} {d : DataW H} {p : List MemPlace} (hv : Value.okWide Tryd.prog W r b0 67 v) (h : DataW.Trod enc Tryd.prog W base spare held 67 v d p) :
    ∃ R : Nat → Int, v = .agg #[iv (R 0), iv (R 1), iv (R 2)] := by
  obtain ⟨cs, rfl, hsz⟩ := wide_arr Tryd.underlying67 hv
  obtain ⟨v0, v1, v2, rfl⟩ := arr3 cs (hsz.trans (by kernel_rfl))
  obtain ⟨fuel, hf⟩ := h
  have hf' : DataW.trod enc Tryd.prog W base spare held fuel 67 [v0, v1, v2] = some (d, p) := by simpa [Value.cells] using hf
  obtain ⟨y0, y1, y2, n, _, h0, h1, h2⟩ := trod_array3 Tryd.underlying67 (by kernel_rfl) hf'
  obtain ⟨a0, e0, _⟩ := DataW.trod_int Tryd.underlying3 h0
  obtain ⟨a1, e1, _⟩ := DataW.trod_int Tryd.underlying3 h1
  obtain ⟨a2, e2, _⟩ := DataW.trod_int Tryd.underlying3 h2
  simp at e0 e1 e2
  subst e0 e1 e2
  exact ⟨fun | 0 => a0 | 1 => a1 | _ => a2, rfl⟩
end Go.Proofs.YtnpnfdnaglcnfaaDoor
