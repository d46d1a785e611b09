/- A row of numbers put behind the last row. -/
import Derived.Test.YtaehfildhmljeaaSegN
namespace Go.Proofs.Ytaehfildhmljeaa
open Go.RowKit Go.Shelf

theorem SegsAt.pushRow {W W' : World} {base : Nat} {v v' x0 : Value} {R : List (List Nat)} {r0 : List Nat} {xs : List Value} (h1 : xs.length = R.length) (h2 : W.ownsRow base 41 1 v R.length xs)
    (h3 : ∀ (a : Nat) x r, xs[a]? = some x → R[a]? = some r → W.ownsRow base 3 1 x r.length (natV r)) (h4 : ∀ (a b : Nat) x y, xs[a]? = some x → xs[b]? = some y → a ≠ b → x.ownBlock = none ∨ x.ownBlock ≠ y.ownBlock)
    (hx0 : W.ownsRow base 3 1 x0 r0.length (natV r0)) (hd : ∀ (a : Nat) x, xs[a]? = some x → x.ownBlock = none ∨ x.ownBlock ≠ x0.ownBlock)
    (ho : W'.ownsRow base 41 1 v' (R.length + 1) (xs ++ [x0])) (hg : W.grownBy W' v.ownBlock) : SegsAt W' base v' (R ++ [r0]) := by
  have get : ∀ (a : Nat) x, (xs ++ [x0])[a]? = some x → (a < xs.length ∧ xs[a]? = some x) ∨ (a = xs.length ∧ x = x0) := fun a x hx => by
    rcases Nat.lt_or_ge a xs.length with h | h
    · rw [List.getElem?_append_left h] at hx; exact Or.inl ⟨h, hx⟩
    · rw [List.getElem?_append_right h] at hx
      have : a - xs.length = 0 := by
        rcases Nat.eq_zero_or_pos (a - xs.length) with h0 | h0
        · exact h0
        · rw [List.getElem?_eq_none (by simp; omega)] at hx; cases hx
      rw [this] at hx
      exact Or.inr ⟨by omega, by simpa using hx.symm⟩
  refine ⟨xs ++ [x0], by simp [h1], by simpa using ho, fun a x r hx hr => ?_, fun a b x y hx hy hab => ?_⟩
  · rcases get a x hx with ⟨ha, hx'⟩ | ⟨ha, rfl⟩
    · rw [List.getElem?_append_left (by omega)] at hr
      have := h3 a x r hx' hr
      exact this.kept hg (own_ne this h2 (by decide))
    · rw [ha, h1, List.getElem?_append_right (Nat.le_refl _)] at hr
      have : r = r0 := by simpa using hr.symm
      subst this
      exact hx0.kept hg (own_ne hx0 h2 (by decide))
  · rcases get a x hx with ⟨ha, hx'⟩ | ⟨ha, rfl⟩
    · rcases get b y hy with ⟨hb, hy'⟩ | ⟨hb, rfl⟩
      · exact h4 a b x y hx' hy' hab
      · exact hd a x hx'
    · rcases get b y hy with ⟨hb, hy'⟩ | ⟨hb, rfl⟩
      · rcases hd b y hy' with h | h
        · cases hx2 : x.ownBlock with
          | none => exact Or.inl rfl
          | some k => exact Or.inr (by rw [h]; simp)
        · exact Or.inr (fun e => h e.symm)
      · omega
end Go.Proofs.Ytaehfildhmljeaa
