/- Plain mathematics of segments: roots, unions, and labels. It names no program. -/
namespace Go.Proofs.Ytaehfildhmljeaa

def upd (B : Nat → Nat) (k v : Nat) (i : Nat) : Nat := if i = k then v else B i
theorem upd_same (B : Nat → Nat) (k v : Nat) : upd B k v k = v := if_pos rfl
theorem upd_other (B : Nat → Nat) {k i : Nat} (v : Nat) (h : i ≠ k) : upd B k v i = B i := if_neg h
/-- The root, with so many steps at most. -/
def rtF (B : Nat → Nat) : Nat → Nat → Nat
  | 0, k => k
  | f + 1, k => if B k = k then k else rtF B f (B k)
def rt (B : Nat → Nat) (k : Nat) : Nat := rtF B k k
/-- Each of the first ones points to itself, or to a lesser one. -/
def Dn (B : Nat → Nat) (m : Nat) : Prop := ∀ k, k < m → B k ≤ k
theorem rtF_fuel {B : Nat → Nat} {m : Nat} (h : Dn B m) : ∀ (k f : Nat), k < m → k ≤ f → rtF B f k = rt B k := by
  intro k
  induction k using Nat.strongRecOn with
  | _ k ih =>
    intro f hk hf
    have hb := h k hk
    unfold rt
    cases f with
    | zero =>
      obtain rfl : k = 0 := by omega
      rfl
    | succ f =>
      cases k with
      | zero =>
        show (if B 0 = 0 then 0 else rtF B f (B 0)) = 0
        rw [if_pos (by omega)]
      | succ k =>
        show (if B (k + 1) = k + 1 then k + 1 else rtF B f (B (k + 1))) = (if B (k + 1) = k + 1 then k + 1 else rtF B k (B (k + 1)))
        by_cases he : B (k + 1) = k + 1
        · rw [if_pos he, if_pos he]
        · rw [if_neg he, if_neg he, ih (B (k + 1)) (by omega) f (by omega) (by omega), ih (B (k + 1)) (by omega) k (by omega) (by omega)]
theorem rt_fix {B : Nat → Nat} {k : Nat} (h : B k = k) : rt B k = k := by
  unfold rt
  cases k with
  | zero => rfl
  | succ k => exact if_pos h
theorem rt_step {B : Nat → Nat} {m k : Nat} (hd : Dn B m) (hk : k < m) (h : B k ≠ k) : rt B k = rt B (B k) := by
  have hb := hd k hk
  cases k with
  | zero => omega
  | succ k =>
    show (if B (k + 1) = k + 1 then k + 1 else rtF B k (B (k + 1))) = _
    rw [if_neg h]
    exact rtF_fuel hd _ _ (by omega) (by omega)
theorem rt_ok {B : Nat → Nat} {m : Nat} (hd : Dn B m) : ∀ k, k < m → rt B k ≤ k ∧ B (rt B k) = rt B k := by
  intro k
  induction k using Nat.strongRecOn with
  | _ k ih =>
    intro hk
    have hb := hd k hk
    by_cases h : B k = k
    · rw [rt_fix h]; exact ⟨Nat.le_refl _, h⟩
    · rw [rt_step hd hk h]
      have := ih (B k) (by omega) (by omega)
      exact ⟨by omega, this.2⟩
theorem dn_upd {B : Nat → Nat} {m k v : Nat} (hd : Dn B m) (hv : v ≤ k) : Dn (upd B k v) m := fun i hi => by
  unfold upd
  split
  · omega
  · exact hd i hi
/-- Pointing to the root changes no root. -/
theorem rt_short {B : Nat → Nat} {m k : Nat} (hd : Dn B m) (hk : k < m) (hne : B k ≠ k) : ∀ j, j < m → rt (upd B k (rt B k)) j = rt B j := by
  have hr := rt_ok hd k hk
  have hr2 : rt B k < k := by
    rw [rt_step hd hk hne]
    have := hd k hk
    have := (rt_ok hd (B k) (by omega)).1
    omega
  have hd' : Dn (upd B k (rt B k)) m := dn_upd hd hr.1
  intro j
  induction j using Nat.strongRecOn with
  | _ j ih =>
    intro hj
    by_cases he : j = k
    · subst he
      rw [rt_step hd' hj (by rw [upd_same]; omega), upd_same]
      exact rt_fix (by rw [upd_other _ _ (by omega)]; exact hr.2)
    · by_cases hf : B j = j
      · rw [rt_fix hf, rt_fix (by rw [upd_other _ _ he]; exact hf)]
      · have := hd j hj
        rw [rt_step hd' hj (by rw [upd_other _ _ he]; exact hf), upd_other _ _ he, ih (B j) (by omega) (by omega), ← rt_step hd hj hf]
/-- One root put under another one. -/
theorem rt_union {B : Nat → Nat} {m M N : Nat} (hd : Dn B m) (hM : M < m) (h1 : B M = M) (h2 : B N = N) (h3 : N ≤ M) : ∀ j, j < m → rt (upd B M N) j = if rt B j = M then N else rt B j := by
  have hd' : Dn (upd B M N) m := dn_upd hd h3
  intro j
  induction j using Nat.strongRecOn with
  | _ j ih =>
    intro hj
    by_cases he : j = M
    · subst he
      rw [rt_fix h1, if_pos rfl]
      by_cases hn : N = j
      · subst hn
        exact rt_fix (upd_same _ _ _)
      · rw [rt_step hd' hj (by rw [upd_same]; exact hn), upd_same]
        exact rt_fix (by rw [upd_other _ _ hn]; exact h2)
    · by_cases hf : B j = j
      · rw [rt_fix hf, if_neg he, rt_fix (by rw [upd_other _ _ he]; exact hf)]
      · have := hd j hj
        rw [rt_step hd' hj (by rw [upd_other _ _ he]; exact hf), upd_other _ _ he, ih (B j) (by omega) (by omega), ← rt_step hd hj hf]

/-- Connected by a chain of links among the first n. -/
inductive Conn (lnk : Nat → Nat → Bool) (n : Nat) : Nat → Nat → Prop
  | refl (i : Nat) : Conn lnk n i i
  | link {i k : Nat} : i < n → k < n → lnk i k = true → Conn lnk n i k
  | symm {i k : Nat} : Conn lnk n i k → Conn lnk n k i
  | trans {i j k : Nat} : Conn lnk n i j → Conn lnk n j k → Conn lnk n i k
/-- The labels of segments: the least one of each. -/
structure Lab (lnk : Nat → Nat → Bool) (n : Nat) (L : Nat → Nat) : Prop where
  le : ∀ i, i < n → L i ≤ i
  con : ∀ i, i < n → Conn lnk n i (L i)
  eq : ∀ i k, i < n → k < n → lnk i k = true → L i = L k
theorem Conn.lab {lnk : Nat → Nat → Bool} {n : Nat} {L : Nat → Nat} (h : Lab lnk n L) {i k : Nat} (hc : Conn lnk n i k) : i = k ∨ (i < n ∧ k < n ∧ L i = L k) := by
  induction hc with
  | refl i => exact Or.inl rfl
  | link hi hk hl => exact Or.inr ⟨hi, hk, h.eq _ _ hi hk hl⟩
  | symm _ ih =>
    rcases ih with rfl | ⟨a, b, c⟩
    · exact Or.inl rfl
    · exact Or.inr ⟨b, a, c.symm⟩
  | trans _ _ ih1 ih2 =>
    rcases ih1 with rfl | ⟨a, b, c⟩
    · exact ih2
    · rcases ih2 with rfl | ⟨d, e, f⟩
      · exact Or.inr ⟨a, b, c⟩
      · exact Or.inr ⟨a, e, c.trans f⟩
theorem Lab.le2 {lnk : Nat → Nat → Bool} {n : Nat} {L L' : Nat → Nat} (h : Lab lnk n L) (h' : Lab lnk n L') {i : Nat} (hi : i < n) : L' i ≤ L i := by
  have hl := h.le i hi
  rcases (h.con i hi).lab h' with e | ⟨_, hk, e⟩
  · have := h'.le i hi; omega
  · have := h'.le (L i) hk; omega
/-- **There is one labelling.** -/
theorem Lab.uniq {lnk : Nat → Nat → Bool} {n : Nat} {L L' : Nat → Nat} (h : Lab lnk n L) (h' : Lab lnk n L') {i : Nat} (hi : i < n) : L i = L' i := by
  have a := h.le2 h' hi
  have b := h'.le2 h hi
  omega
end Go.Proofs.Ytaehfildhmljeaa
