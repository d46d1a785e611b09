/- Rows of rows of numbers in memory, and the rows of segments. -/
import Derived.Test.YtaehfildhmljeaaSegL
namespace Go.Proofs.Ytaehfildhmljeaa
open Go.RowKit Go.Shelf

def natV (l : List Nat) : List Value := l.map (fun (k : Nat) => Value.int .i64 ((k : Nat) : Int))
theorem natV_snoc (l : List Nat) (i : Nat) : natV l ++ [.int .i64 (i : Int)] = natV (l ++ [i]) := by simp [natV]
theorem own_ne {w : World} {base base' size size' n n' : Nat} {e e' : TypeId} {v v' : Value} {xs xs' : List Value} (h : w.ownsRow base e size v n xs) (h' : w.ownsRow base' e' size' v' n' xs') (hne : e ≠ e') : v.ownBlock = none ∨ v.ownBlock ≠ v'.ownBlock := by
  rcases h.2 with ⟨rfl, _⟩ | ⟨g, cap, cur, rfl, _, hg, _⟩
  · exact Or.inl rfl
  · refine Or.inr fun he => ?_
    rcases h'.2 with ⟨rfl, _⟩ | ⟨g', cap', cur', rfl, _, hg', _⟩
    · cases he
    · have : g = g' := by simpa [Value.ownBlock] using he
      subst this
      rw [hg] at hg'
      simp at hg'
      exact hne hg'.2
/-- Rows of numbers, and the row that holds them. -/
def SegsAt (W : World) (base : Nat) (v : Value) (R : List (List Nat)) : Prop :=
  ∃ xs : List Value, xs.length = R.length ∧ W.ownsRow base 41 1 v R.length xs ∧ (∀ (a : Nat) x r, xs[a]? = some x → R[a]? = some r → W.ownsRow base 3 1 x r.length (natV r)) ∧
    ∀ (a b : Nat) x y, xs[a]? = some x → xs[b]? = some y → a ≠ b → x.ownBlock = none ∨ x.ownBlock ≠ y.ownBlock
theorem segs_none (W : World) (base : Nat) : SegsAt W base (.slice none 0 0) [] :=
  ⟨[], rfl, World.ownsRow_nil _ _ _ _, fun a x r h => by simp at h, fun a b x y h => by simp at h⟩
/-- What turns no block from 'base' on. -/
theorem SegsAt.kept {W W' : World} {base : Nat} {v : Value} {R : List (List Nat)} {row : Option Nat} (h : SegsAt W base v R) (hg : W.grownBy W' row) (hr : ∀ g, row = some g → g < base) : SegsAt W' base v R := by
  obtain ⟨xs, h1, h2, h3, h4⟩ := h
  have ne : ∀ {e size u n ys}, W.ownsRow base e size u n ys → u.ownBlock = Option.none ∨ u.ownBlock ≠ row := fun {e size u n ys} ho => by
    cases hb : u.ownBlock with
    | none => exact Or.inl rfl
    | some k =>
      refine Or.inr fun he => ?_
      have := (ho.lt k hb).1
      have := hr k he.symm
      omega
  exact ⟨xs, h1, h2.kept hg (ne h2), fun a x r hx hR => (h3 a x r hx hR).kept hg (ne (h3 a x r hx hR)), h4⟩
theorem SegsAt.below {W W' : World} {base : Nat} {v : Value} {R : List (List Nat)} (h : SegsAt W base v R) (hb : Below W.heap.size W W') : SegsAt W' base v R :=
  h.kept (row := Option.none) ⟨hb.os, hb.tape, hb.output, hb.size, fun i hi _ => hb.block i hi⟩ (fun g e => by cases e)
/-- A row behind the last one. -/
theorem SegsAt.push {W W' : World} {base : Nat} {v v' : Value} {R : List (List Nat)} {xs : List Value} (h1 : xs.length = R.length) (h2 : W.ownsRow base 41 1 v R.length xs)
    (h3 : ∀ (a : Nat) x r, xs[a]? = some x → R[a]? = some r → W.ownsRow base 3 1 x r.length (natV r)) (h4 : ∀ (a b : Nat) x y, xs[a]? = some x → xs[b]? = some y → a ≠ b → x.ownBlock = none ∨ x.ownBlock ≠ y.ownBlock)
    (ho : W'.ownsRow base 41 1 v' (R.length + 1) (xs ++ [.slice none 0 0])) (hg : W.grownBy W' v.ownBlock) : SegsAt W' base v' (R ++ [[]]) := by
  have get : ∀ (a : Nat) x, (xs ++ [Value.slice none 0 0])[a]? = some x → (a < xs.length ∧ xs[a]? = some x) ∨ (a = xs.length ∧ x = .slice none 0 0) := fun a x hx => by
    rcases Nat.lt_or_ge a xs.length with h | h
    · rw [List.getElem?_append_left h] at hx; exact Or.inl ⟨h, hx⟩
    · rw [List.getElem?_append_right h] at hx
      have : a - xs.length = 0 := by
        rcases Nat.eq_zero_or_pos (a - xs.length) with h0 | h0
        · exact h0
        · rw [List.getElem?_eq_none (by simp; omega)] at hx; cases hx
      rw [this] at hx
      exact Or.inr ⟨by omega, by simpa using hx.symm⟩
  refine ⟨xs ++ [.slice none 0 0], by simp [h1], by simpa using ho, fun a x r hx hr => ?_, fun a b x y hx hy hab => ?_⟩
  · rcases get a x hx with ⟨ha, hx'⟩ | ⟨ha, rfl⟩
    · rw [List.getElem?_append_left (by omega)] at hr
      have := h3 a x r hx' hr
      exact this.kept hg (own_ne this h2 (by decide))
    · rw [ha, h1, List.getElem?_append_right (Nat.le_refl _)] at hr
      have : r = [] := by simpa using hr.symm
      subst this
      exact World.ownsRow_nil _ _ _ _
  · rcases get a x hx with ⟨ha, hx'⟩ | ⟨ha, rfl⟩
    · rcases get b y hy with ⟨hb, hy'⟩ | ⟨hb, rfl⟩
      · exact h4 a b x y hx' hy' hab
      · cases hx2 : x.ownBlock with
        | none => exact Or.inl rfl
        | some k => exact Or.inr (by simp [Value.ownBlock])
    · exact Or.inl rfl
/-- A number behind the last one of a row. -/
theorem SegsAt.add {W W' : World} {base g0 c0 a i g1 c1 : Nat} {x : Value} {r : List Nat} {R : List (List Nat)} {xs : List Value} (h1 : xs.length = R.length) (h2 : W.ownsRow base 41 1 (.slice (some ⟨g0, 0, none⟩) R.length c0) R.length xs)
    (h3 : ∀ (a : Nat) x r, xs[a]? = some x → R[a]? = some r → W.ownsRow base 3 1 x r.length (natV r)) (h4 : ∀ (a b : Nat) x y, xs[a]? = some x → xs[b]? = some y → a ≠ b → x.ownBlock = none ∨ x.ownBlock ≠ y.ownBlock)
    (hx : xs[a]? = some x) (hr : R[a]? = some r) (ho : W'.ownsRow base 3 1 (.slice (some ⟨g1, 0, none⟩) (r.length + 1) c1) (r.length + 1) (natV r ++ [.int .i64 (i : Int)])) (hg : W.grownBy W' x.ownBlock) (hat : x.ownBlock = some g1 ∨ W.heap.size ≤ g1) :
    SegsAt (W'.setCell ⟨g0, a, none⟩ (.slice (some ⟨g1, 0, none⟩) (r.length + 1) c1)) base (.slice (some ⟨g0, 0, none⟩) R.length c0) (R.modify a (· ++ [i])) := by
  have ha : a < R.length := by rw [← h1]; exact (List.getElem?_eq_some_iff.1 hx).1
  have hxr := h3 a x r hx hr
  have k2 : W'.ownsRow base 41 1 (.slice (some ⟨g0, 0, none⟩) R.length c0) R.length xs := by
    refine h2.kept hg ?_
    rcases own_ne h2 hxr (by decide) with h | h
    · exact Or.inl h
    · exact Or.inr h
  have hl0 := (h2.lt g0 rfl).2
  have hne1 : g1 ≠ g0 := by
    rcases hat with h | h
    · rcases own_ne hxr h2 (by decide) with h' | h'
      · rw [h'] at h; cases h
      · intro e; rw [h, e] at h'; exact h' rfl
    · omega
  have hset : ∀ {e size u n ys}, W'.ownsRow base e size u n ys → u.ownBlock ≠ some g0 → (W'.setCell ⟨g0, a, none⟩ (.slice (some ⟨g1, 0, none⟩) (r.length + 1) c1)).ownsRow base e size u n ys := fun {e size u n ys} hh hn => by
    exact hh.kept (only_set W' g0 a _) (Or.inr hn)
  refine ⟨xs.set a (.slice (some ⟨g1, 0, none⟩) (r.length + 1) c1), by simp [h1], ?_, fun b y q hy hq => ?_, fun b c y z hy hz hbc => ?_⟩
  · have := k2.stored a (.slice (some ⟨g1, 0, none⟩) (r.length + 1) c1)
    simpa using this.1
  · by_cases hb : b = a
    · subst hb
      rw [List.getElem?_set_self (by omega)] at hy
      obtain rfl := Option.some.inj hy
      rw [List.getElem?_modify_eq, hr] at hq
      obtain rfl : r ++ [i] = q := by simpa using hq
      rw [natV_snoc] at ho
      have := hset ho (by simp [Value.ownBlock]; exact hne1)
      simpa using this
    · rw [List.getElem?_set_ne (fun e => hb e.symm)] at hy
      rw [List.getElem?_modify_ne (· ++ [i]) R (show a ≠ b from fun e => hb e.symm)] at hq
      have hyr := h3 b y q hy hq
      have hk : W'.ownsRow base 3 1 y q.length (natV q) := hyr.kept hg (h4 b a y x hy hx hb)
      refine hset hk ?_
      rcases own_ne hyr h2 (by decide) with h | h
      · rw [h]; simp
      · exact h
  · have new : ∀ (d : Nat) u, xs[d]? = some u → d ≠ a → u.ownBlock = none ∨ u.ownBlock ≠ some g1 := fun d u hu hd => by
      cases hb : u.ownBlock with
      | none => exact Or.inl rfl
      | some k =>
        refine Or.inr fun he => ?_
        obtain rfl := Option.some.inj he
        rcases hat with h | h
        · rcases h4 d a u x hu hx hd with h' | h'
          · rw [hb] at h'; cases h'
          · rw [hb, h] at h'; exact h' rfl
        · have hdl : d < R.length := by rw [← h1]; exact (List.getElem?_eq_some_iff.1 hu).1
          have := (h3 d u _ hu (List.getElem?_eq_getElem hdl)).lt k hb
          omega
    by_cases hb : b = a
    · subst hb
      rw [List.getElem?_set_self (by omega)] at hy
      obtain rfl := Option.some.inj hy
      rw [List.getElem?_set_ne hbc] at hz
      refine Or.inr ?_
      rcases new c z hz (fun e => hbc e.symm) with h | h
      · rw [h]; simp [Value.ownBlock]
      · exact fun e => h e.symm
    · rw [List.getElem?_set_ne (fun e => hb e.symm)] at hy
      by_cases hc : c = a
      · subst hc
        rw [List.getElem?_set_self (by omega)] at hz
        obtain rfl := Option.some.inj hz
        exact new b y hy hb
      · rw [List.getElem?_set_ne (fun e => hc e.symm)] at hz
        exact h4 b c y z hy hz hbc

/-- How many of the first k are first ones of segments. -/
def cnt (L : Nat → Nat) : Nat → Nat
  | 0 => 0
  | k + 1 => cnt L k + if L k = k then 1 else 0
/-- The segments of the first i points. -/
def rowsL (L : Nat → Nat) : Nat → List (List Nat)
  | 0 => []
  | i + 1 => (if L i = i then rowsL L i ++ [[]] else rowsL L i).modify (cnt L (L i)) (· ++ [i])
theorem rowsL_len (L : Nat → Nat) (i : Nat) : (rowsL L i).length = cnt L i := by
  induction i with
  | zero => rfl
  | succ i ih =>
    unfold rowsL cnt
    rw [List.length_modify]
    split
    · rw [List.length_append, ih]; rfl
    · exact ih
theorem cnt_mono {L : Nat → Nat} {i j : Nat} (h : i ≤ j) : cnt L i ≤ cnt L j := by
  induction j with
  | zero => obtain rfl : i = 0 := by omega
            exact Nat.le_refl _
  | succ j ih =>
    rcases Nat.lt_or_ge i (j + 1) with h1 | h1
    · have := ih (by omega)
      show cnt L i ≤ cnt L j + _
      omega
    · obtain rfl : i = j + 1 := by omega
      exact Nat.le_refl _
theorem cnt_lt {L : Nat → Nat} {r i : Nat} (h : L r = r) (hr : r < i) : cnt L r < cnt L i := by
  have h1 : cnt L (r + 1) = cnt L r + 1 := by show cnt L r + (if L r = r then 1 else 0) = _; rw [if_pos h]
  have := cnt_mono (L := L) (show r + 1 ≤ i by omega)
  omega
theorem rowsL_ext {L L' : Nat → Nat} {n : Nat} (h : ∀ k, k < n → L k = L' k) (hle : ∀ k, k < n → L k ≤ k) : rowsL L n = rowsL L' n := by
  have hc : ∀ k, k ≤ n → cnt L k = cnt L' k := by
    intro k
    induction k with
    | zero => intro _; rfl
    | succ k ih => intro hk; unfold cnt; rw [ih (by omega), h k (by omega)]
  have hr : ∀ k, k ≤ n → rowsL L k = rowsL L' k := by
    intro k
    induction k with
    | zero => intro _; rfl
    | succ k ih =>
      intro hk
      have := hle k (by omega)
      unfold rowsL
      rw [ih (by omega), hc (L k) (by omega), h k (by omega)]
  exact hr n (Nat.le_refl _)
end Go.Proofs.Ytaehfildhmljeaa
