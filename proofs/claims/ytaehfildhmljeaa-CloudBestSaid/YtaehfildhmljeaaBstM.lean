/- No candidate is better than the best shift. Plain mathematics. -/
import Derived.Test.YtaehfildhmljeaaRegA
namespace Go.Proofs.Ytaehfildhmljeaa
open Go.RowKit Go.Shelf

section
variable {n : Nat} {X Y : Nat → Int} {m : Nat} {X' Y' : Nat → Int} {win s : Int}
theorem betB_ge {p : Pt} {c : Nat} {st : Pt × Nat} (h : betB p c st = true) : st.2 ≤ c := by
  unfold betB at h
  simp only [Bool.or_eq_true, Bool.and_eq_true, decide_eq_true_eq] at h
  rcases h with h | ⟨h, _⟩ <;> omega
theorem betB_le {p : Pt} {c : Nat} {st : Pt × Nat} (h : betB p c st = false) : c ≤ st.2 := by
  unfold betB at h
  simp only [Bool.or_eq_false_iff, decide_eq_false_iff_not] at h
  omega
theorem stepL_inv {st : Pt × Nat} (h : st.2 = matF n X Y m X' Y' st.1.1 st.1.2 s) (x : Cw win) : (stepL n X Y m X' Y' win s st x).2 = matF n X Y m X' Y' (stepL n X Y m X' Y' win s st x).1.1 (stepL n X Y m X' Y' win s st x).1.2 s := by
  unfold stepL
  split
  · rfl
  · exact h
theorem stepL_ge (st : Pt × Nat) (x : Cw win) : st.2 ≤ (stepL n X Y m X' Y' win s st x).2 ∧ matF n X Y m X' Y' x.1.1 x.1.2 s ≤ (stepL n X Y m X' Y' win s st x).2 := by
  unfold stepL
  split
  · rename_i h
    exact ⟨betB_ge h, Nat.le_refl _⟩
  · rename_i h
    exact ⟨Nat.le_refl _, betB_le (by simpa using h)⟩
theorem foldl_inv : ∀ (l : List (Cw win)) (st : Pt × Nat), st.2 = matF n X Y m X' Y' st.1.1 st.1.2 s → (l.foldl (stepL n X Y m X' Y' win s) st).2 = matF n X Y m X' Y' (l.foldl (stepL n X Y m X' Y' win s) st).1.1 (l.foldl (stepL n X Y m X' Y' win s) st).1.2 s := by
  intro l
  induction l with
  | nil => intro st h; exact h
  | cons x r ih => intro st h; exact ih _ (stepL_inv h x)
theorem foldl_ge : ∀ (l : List (Cw win)) (st : Pt × Nat), st.2 ≤ (l.foldl (stepL n X Y m X' Y' win s) st).2 ∧ ∀ x ∈ l, matF n X Y m X' Y' x.1.1 x.1.2 s ≤ (l.foldl (stepL n X Y m X' Y' win s) st).2 := by
  intro l
  induction l with
  | nil => intro st; exact ⟨Nat.le_refl _, fun x h => by cases h⟩
  | cons y r ih =>
    intro st
    obtain ⟨h1, h2⟩ := ih (stepL n X Y m X' Y' win s st y)
    obtain ⟨h3, h4⟩ := stepL_ge (n := n) (X := X) (Y := Y) (m := m) (X' := X') (Y' := Y') (s := s) st y
    refine ⟨Nat.le_trans h3 h1, fun x hx => ?_⟩
    rcases List.mem_cons.1 hx with rfl | hx
    · exact Nat.le_trans h4 h1
    · exact h2 x hx
theorem cndJ_mem {i j : Nat} (h : inW (X i - X' j, Y i - Y' j) win = true) : ∀ k, j < k → (⟨(X i - X' j, Y i - Y' j), h⟩ : Cw win) ∈ cndJ X Y X' Y' win i k := by
  intro k
  induction k with
  | zero => intro hk; omega
  | succ k ih =>
    intro hk
    rw [cndJ]
    rcases Nat.lt_or_ge j k with hjk | hjk
    · exact List.mem_append_left _ (ih hjk)
    · obtain rfl : j = k := by omega
      exact List.mem_append_right _ (by rw [cnd_yes h]; exact List.mem_singleton.2 rfl)
theorem cndI_mem {i j : Nat} (hj : j < m) (h : inW (X i - X' j, Y i - Y' j) win = true) : ∀ k, i < k → (⟨(X i - X' j, Y i - Y' j), h⟩ : Cw win) ∈ cndI X Y X' Y' m win k := by
  intro k
  induction k with
  | zero => intro hk; omega
  | succ k ih =>
    intro hk
    rw [cndI]
    rcases Nat.lt_or_ge i k with hik | hik
    · exact List.mem_append_left _ (ih hik)
    · obtain rfl : i = k := by omega
      exact List.mem_append_right _ (cndJ_mem h m hj)
theorem best_inv : (regI n X Y m X' Y' win s n).2 = matF n X Y m X' Y' (regI n X Y m X' Y' win s n).1.1 (regI n X Y m X' Y' win s n).1.2 s := by
  rw [← foldI]
  unfold foldL
  exact foldl_inv (cndI X Y X' Y' m win n) ((0, 0), matF n X Y m X' Y' 0 0 s) rfl
theorem best_zero : matF n X Y m X' Y' 0 0 s ≤ (regI n X Y m X' Y' win s n).2 := by
  rw [← foldI]
  unfold foldL
  exact (foldl_ge (cndI X Y X' Y' m win n) ((0, 0), matF n X Y m X' Y' 0 0 s)).1
theorem best_cand {i j : Nat} (hi : i < n) (hj : j < m) (h : inW (X i - X' j, Y i - Y' j) win = true) : matF n X Y m X' Y' (X i - X' j) (Y i - Y' j) s ≤ (regI n X Y m X' Y' win s n).2 := by
  rw [← foldI]
  unfold foldL
  exact (foldl_ge (cndI X Y X' Y' m win n) ((0, 0), matF n X Y m X' Y' 0 0 s)).2 ⟨(X i - X' j, Y i - Y' j), h⟩ (cndI_mem hj h n hi)
end
/-- The greatest of the coordinates and their opposites. -/
theorem in_of_max {p q win M : Int} (h1 : M = p ∨ M = -p ∨ M = q ∨ M = -q) (h2 : p ≤ M) (h3 : -p ≤ M) (h4 : q ≤ M) (h5 : -q ≤ M) : inW (p, q) win = decide (M ≤ win) := by
  unfold inW
  rw [← Bool.decide_and, ← Bool.decide_and, ← Bool.decide_and]
  apply decide_eq_decide.2
  simp only
  omega
end Go.Proofs.Ytaehfildhmljeaa
