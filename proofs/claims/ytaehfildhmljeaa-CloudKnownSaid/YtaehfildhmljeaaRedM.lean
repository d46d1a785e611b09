/- The first points of their cells, and the greatest speed of a cell. Plain mathematics. -/
import Derived.Test.YtaehfildhmljeaaChkC
import Derived.Test.YtaehfildhmljeaaPtsL
namespace Go.Proofs.Ytaehfildhmljeaa

section
variable (C : Nat → Int × Int)
/-- Point i is the first one of its cell. -/
def fstB (i : Nat) : Bool := allB (fun k => !decide (C k = C i)) i
/-- How many of the first k points are first ones. -/
def rnk : Nat → Nat
  | 0 => 0
  | k + 1 => rnk k + if fstB C k then 1 else 0
/-- The a-th first one of the first n points. -/
def nthF : Nat → Nat → Nat
  | 0, _ => 0
  | n + 1, a => if fstB C n = true ∧ a = rnk C n then n else nthF n a
/-- The greatest speed of the cell of point i among the first k points. -/
def mxF (V : Nat → Int) (i : Nat) : Nat → Int
  | 0 => V i
  | k + 1 => if C k = C i then max (mxF V i k) (V k) else mxF V i k
end
section
variable {C : Nat → Int × Int}
theorem fstB_iff {i : Nat} : fstB C i = true ↔ ∀ k, k < i → C k ≠ C i := by
  unfold fstB
  constructor
  · intro h k hk
    have := allB_true h k hk
    simpa using this
  · intro h
    exact allB_of (fun k hk => by simpa using h k hk)
theorem rnk_mono {i j : Nat} (h : i ≤ j) : rnk C i ≤ rnk C j := by
  induction j with
  | zero => obtain rfl : i = 0 := by omega
            exact Nat.le_refl _
  | succ j ih =>
    rcases Nat.lt_or_ge i (j + 1) with h1 | h1
    · have := ih (by omega)
      show rnk C i ≤ rnk C j + _
      omega
    · obtain rfl : i = j + 1 := by omega
      exact Nat.le_refl _
theorem rnk_fst {k : Nat} (h : fstB C k = true) : rnk C (k + 1) = rnk C k + 1 := by
  show rnk C k + (if fstB C k then 1 else 0) = _
  rw [if_pos h]
theorem rnk_not {k : Nat} (h : fstB C k = false) : rnk C (k + 1) = rnk C k := by
  show rnk C k + (if fstB C k then 1 else 0) = _
  rw [if_neg (by rw [h]; simp)]
  rfl
theorem rnk_lt {i j : Nat} (h : fstB C i = true) (hij : i < j) : rnk C i < rnk C j := by
  have h1 := rnk_fst h
  have h2 := rnk_mono (C := C) (show i + 1 ≤ j by omega)
  omega
theorem rnk_le (k : Nat) : rnk C k ≤ k := by
  induction k with
  | zero => exact Nat.le_refl _
  | succ k ih =>
    show rnk C k + (if fstB C k then 1 else 0) ≤ _
    split <;> omega
theorem nth_of {k : Nat} (h : fstB C k = true) : ∀ n, k < n → nthF C n (rnk C k) = k := by
  intro n
  induction n with
  | zero => intro hk; omega
  | succ n ih =>
    intro hk
    unfold nthF
    by_cases he : k = n
    · subst he; rw [if_pos ⟨h, rfl⟩]
    · have h1 := rnk_lt h (show k < n by omega)
      rw [if_neg (fun hh => by have := hh.2; omega)]
      exact ih (by omega)
theorem nth_spec : ∀ n a, a < rnk C n → nthF C n a < n ∧ fstB C (nthF C n a) = true ∧ rnk C (nthF C n a) = a := by
  intro n
  induction n with
  | zero => intro a h; exact absurd h (by simp [rnk])
  | succ n ih =>
    intro a h
    unfold nthF
    by_cases he : fstB C n = true ∧ a = rnk C n
    · rw [if_pos he]
      exact ⟨by omega, he.1, he.2.symm⟩
    · rw [if_neg he]
      have h1 : a < rnk C n := by
        cases hf : fstB C n with
        | true =>
          rw [rnk_fst hf] at h
          have : a ≠ rnk C n := fun e => he ⟨hf, e⟩
          omega
        | false => rw [rnk_not hf] at h; exact h
      obtain ⟨a1, a2, a3⟩ := ih a h1
      exact ⟨by omega, a2, a3⟩
/-- Each point has a first one of its cell. -/
theorem lead (k : Nat) : ∃ j, j ≤ k ∧ fstB C j = true ∧ C j = C k := by
  induction k using Nat.strongRecOn with
  | _ k ih =>
    cases hf : fstB C k with
    | true => exact ⟨k, Nat.le_refl _, hf, rfl⟩
    | false =>
      have : ∃ j, j < k ∧ C j = C k := by
        refine Classical.byContradiction fun hn => ?_
        have : fstB C k = true := fstB_iff.2 (fun j hj e => hn ⟨j, hj, e⟩)
        rw [hf] at this; cases this
      obtain ⟨j, hj, e⟩ := this
      obtain ⟨i, hi, h1, h2⟩ := ih j hj
      exact ⟨i, by omega, h1, h2.trans e⟩
theorem fst_uniq {i j : Nat} (hi : fstB C i = true) (hj : fstB C j = true) (e : C i = C j) : i = j := by
  rcases Nat.lt_trichotomy i j with h | h | h
  · exact absurd e (fstB_iff.1 hj i h)
  · exact h
  · exact absurd e.symm (fstB_iff.1 hi j h)
theorem mx_low {V : Nat → Int} {i : Nat} (h : fstB C i = true) : ∀ k, k ≤ i → mxF C V i k = V i := by
  intro k
  induction k with
  | zero => intro _; rfl
  | succ k ih =>
    intro hk
    unfold mxF
    rw [if_neg (fstB_iff.1 h k (by omega)), ih (by omega)]
theorem mx_first {V : Nat → Int} {i : Nat} (h : fstB C i = true) : mxF C V i (i + 1) = V i := by
  unfold mxF
  rw [if_pos rfl, mx_low h i (Nat.le_refl _)]
  omega
theorem mx_bd {V : Nat → Int} {i n : Nat} (h : ∀ k, k < n → -4000 ≤ V k ∧ V k ≤ 4000) (hi : i < n) : ∀ k, k ≤ n → -4000 ≤ mxF C V i k ∧ mxF C V i k ≤ 4000 := by
  intro k
  induction k with
  | zero => intro _; exact h i hi
  | succ k ih =>
    intro hk
    have h1 := ih (by omega)
    have h2 := h k (by omega)
    unfold mxF
    split <;> omega
end

theorem cellsP_ext {X Y V X' Y' V' : Nat → Int} : ∀ {m : Nat}, (∀ i, i < m → X i = X' i ∧ Y i = Y' i ∧ V i = V' i) → cellsP X Y V m = cellsP X' Y' V' m := by
  intro m
  induction m with
  | zero => intro _; rfl
  | succ m ih =>
    intro h
    obtain ⟨a, b, c⟩ := h m (by omega)
    unfold cellsP
    rw [ih (fun i hi => h i (by omega)), a, b, c]
theorem cellsP_set (X Y V : Nat → Int) (v : Int) {a : Nat} : ∀ {m : Nat}, a < m → (cellsP X Y V m).set (a * 3 + 2) (.int .i64 v) = cellsP X Y (fun i => if i = a then v else V i) m := by
  intro m
  induction m with
  | zero => intro h; omega
  | succ m ih =>
    intro h
    have hl := cellsP_length X Y V m
    unfold cellsP
    by_cases he : a = m
    · subst he
      rw [List.set_append_right _ _ (by omega), hl, show a * 3 + 2 - a * 3 = 2 by omega]
      rw [cellsP_ext (V' := fun i => if i = a then v else V i) (fun i hi => ⟨rfl, rfl, by simp; intro e; omega⟩)]
      simp
    · rw [List.set_append_left _ _ (by omega), ih (by omega), if_neg (fun e => he e.symm)]
end Go.Proofs.Ytaehfildhmljeaa
