/- Arguments that came in: cars, plans. -/
import Derived.Test.YtcoccfijikiamaaOpn
namespace Go.Proofs.Ytcoccfijikiamaa
open Go.ChangeShapes Go.WideShapes Go.ChangeAt Go.RowKit Go.Joins Go.Deep

theorem arr1 (T : Array Value) (h : T.size = 1) : ∃ v0, T = #[v0] := by
  obtain ⟨l⟩ := T
  simp only [List.size_toArray] at h
  match l, h with
  | [v0], _ => exact ⟨v0, rfl⟩
theorem arr5 (T : Array Value) (h : T.size = 5) : ∃ v0 v1 v2 v3 v4, T = #[v0, v1, v2, v3, v4] := by
  obtain ⟨l⟩ := T
  simp only [List.size_toArray] at h
  match l, h with
  | [v0, v1, v2, v3, v4], _ => exact ⟨v0, v1, v2, v3, v4, rfl⟩
set_option maxRecDepth 100000 in
theorem open_plan {H : Type} {enc : TypeId × Value → H} {W : World} {base b0 : Nat} {r : Reach} {spare : Nat → Bool} {held : Bool} {v : Value} {d : DataW H} {p : List MemPlace} (hv : Value.okWide Try.prog W r b0 26 v) (h : DataW.Trod enc Try.prog W base spare held 26 v d p) :
    ∃ (A : Option Addr) (cap : Nat) (l : List Int), v = pv A l.length cap ∧ l.length ≤ cap ∧ Nil0 A cap ∧ l.length ≤ 9223372036854775807 ∧ NumL W A l ∧ ∀ x ∈ l, I64 x := by
  obtain ⟨cs, rfl, hsz⟩ := okWide_struct Try.underlying26 hv
  obtain ⟨c0, rfl⟩ := arr1 cs (hsz.trans cells26)
  obtain ⟨fuel, hf⟩ := h
  obtain ⟨xs, n, _, _, hl, hlen, hfs⟩ := DataW.trod_struct Try.underlying26 hf
  have h1 : DataW.trod enc Try.prog W base spare held n 24 [c0] = some (xs[0]'(by rw [hlen]; decide)) := by
    have h2 : DataW.trod enc Try.prog W base spare held n 24 (((Value.agg #[c0]).cells.toList.drop 0).take (Try.prog.cellsOf 24)) = xs[0]? := hfs 0 _ rfl
    rw [show Try.prog.cellsOf 24 = 1 by kernel_rfl] at h2
    exact h2.trans (List.getElem?_eq_getElem (by rw [hlen]; decide))
  obtain ⟨A, cap, l, rfl, g1, g2, g3, g4, g5⟩ := open_nums0 h1
  exact ⟨A, cap, l, rfl, g1, g2, g3, g4, g5⟩
set_option maxRecDepth 100000 in
theorem open_car {H : Type} {enc : TypeId × Value → H} {W : World} {base b0 : Nat} {r : Reach} {spare : Nat → Bool} {held : Bool} {v : Value} {d : DataW H} {p : List MemPlace} (hv : Value.okWide Try.prog W r b0 23 v) (h : DataW.Trod enc Try.prog W base spare held 23 v d p) :
    ∃ c : Car, v = cv c := by
  obtain ⟨cs, rfl, hsz⟩ := okWide_struct Try.underlying23 hv
  obtain ⟨c0, c1, c2, c3, c4, rfl⟩ := arr5 cs (hsz.trans cells23)
  obtain ⟨fuel, hf⟩ := h
  obtain ⟨xs, n, _, _, hl, hlen, hfs⟩ := DataW.trod_struct Try.underlying23 hf
  have hx : ∀ (j : Nat) (t : TypeId) (u : Value), (∃ f : Field, (match Try.prog.underlying 23 with | some (.struct fs) => fs[j]? | _ => none) = some f ∧ f.type = t ∧ f.offset = j ∧ Try.prog.cellsOf f.type = 1) → #[c0, c1, c2, c3, c4][j]? = some u → ∃ y, DataW.trod enc Try.prog W base spare held n t [u] = some y := by
    intro j t u ⟨f, hf1, hf2, hf3, hf4⟩ hu
    rw [Try.underlying23] at hf1
    have h1 := hfs j f hf1
    subst hf2
    rw [hf3, hf4] at h1
    have hjl : j < 5 := (Array.getElem?_eq_some_iff.1 hu).1
    have h2 : ((Value.agg #[c0, c1, c2, c3, c4]).cells.toList.drop j).take 1 = [u] := by
      rcases (show j = 0 ∨ j = 1 ∨ j = 2 ∨ j = 3 ∨ j = 4 by omega) with rfl | rfl | rfl | rfl | rfl <;> simp [Value.cells] at hu ⊢ <;> exact hu
    rw [h2] at h1
    exact ⟨_, h1.trans (List.getElem?_eq_getElem (by rw [hlen]; exact hjl))⟩
  obtain ⟨y0, g0⟩ := hx 0 2 c0 ⟨_, rfl, rfl, rfl, by kernel_rfl⟩ rfl
  obtain ⟨y1, g1⟩ := hx 1 2 c1 ⟨_, rfl, rfl, rfl, by kernel_rfl⟩ rfl
  obtain ⟨y2, g2⟩ := hx 2 2 c2 ⟨_, rfl, rfl, rfl, by kernel_rfl⟩ rfl
  obtain ⟨y3, g3⟩ := hx 3 2 c3 ⟨_, rfl, rfl, rfl, by kernel_rfl⟩ rfl
  obtain ⟨y4, g4⟩ := hx 4 3 c4 ⟨_, rfl, rfl, rfl, by kernel_rfl⟩ rfl
  obtain ⟨a0, e0, _⟩ := DataW.trod_int Try.underlying2 g0
  obtain ⟨a1, e1, _⟩ := DataW.trod_int Try.underlying2 g1
  obtain ⟨a2, e2, _⟩ := DataW.trod_int Try.underlying2 g2
  obtain ⟨a3, e3, _⟩ := DataW.trod_int Try.underlying2 g3
  obtain ⟨a4, e4, _⟩ := DataW.trod_int Try.underlying3 g4
  simp at e0 e1 e2 e3 e4
  subst e0 e1 e2 e3 e4
  exact ⟨⟨a0, a1, a2, a3, a4⟩, rfl⟩
end Go.Proofs.Ytcoccfijikiamaa
