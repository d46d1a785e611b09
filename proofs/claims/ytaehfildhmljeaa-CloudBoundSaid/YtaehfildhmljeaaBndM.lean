/- What a reduced cloud is to its cloud. Plain mathematics. -/
import Derived.Test.YtaehfildhmljeaaRedW
import Derived.Test.YtaehfildhmljeaaRBd
import Derived.Test.YtaehfildhmljeaaSide
namespace Go.Proofs.Ytaehfildhmljeaa
open Go.RowKit Go.Shelf

theorem bnd_spec {s : Int} (h1 : 1 ≤ s) (h2 : s ≤ 16777216) : 0 ≤ bndF s ∧ s - 1 ≤ bndF s ∧ bndF s ≤ 2 * s ∧ 2 * ((s - 1) * (s - 1)) ≤ bndF s * bndF s := by
  obtain ⟨t, ht⟩ : ∃ t : Nat, t = (s - 1).toNat := ⟨_, rfl⟩
  have hs : s - 1 = (t : Int) := by omega
  obtain ⟨_, a2⟩ := srch_spec t (2 * t) 0 (2 * t) (by omega) (by omega) (fun k hk => absurd hk (by omega)) (bndP_two t _ (Nat.le_refl _))
  have a3 := srch_bd (bndP t) (2 * t) 0 (2 * t) (by omega) (by omega)
  have he : bndF s = ((srch (bndP t) 0 (2 * t) : Nat) : Int) := by unfold bndF; rw [if_pos ⟨h1, h2⟩, ← ht]
  obtain ⟨q, hq⟩ : ∃ q, q = srch (bndP t) 0 (2 * t) := ⟨_, rfl⟩
  rw [← hq] at a2 a3 he
  unfold bndP at a2
  rw [decide_eq_true_iff] at a2
  rw [he, hs]
  have a4 : 2 * (t * t) ≤ q * q := by rw [← Nat.mul_assoc]; exact a2
  have a5 : t ≤ q := by
    refine Classical.byContradiction fun hn => ?_
    have h3 : q * q ≤ t * t := Nat.mul_le_mul (by omega) (by omega)
    have h4 : 0 < t * t := Nat.mul_pos (by omega) (by omega)
    omega
  refine ⟨by omega, by omega, by omega, ?_⟩
  exact_mod_cast a4
theorem same_cell {x y s : Int} (h1 : 1 ≤ s) (e : x / s = y / s) : -(s - 1) ≤ x - y ∧ x - y ≤ s - 1 := by
  have a := Int.emod_add_mul_ediv x s
  have b := Int.emod_add_mul_ediv y s
  have c := Int.emod_nonneg x (show s ≠ 0 by omega)
  have d := Int.emod_lt_of_pos x (show 0 < s by omega)
  have c' := Int.emod_nonneg y (show s ≠ 0 by omega)
  have d' := Int.emod_lt_of_pos y (show 0 < s by omega)
  rw [e] at a
  omega
theorem sq_le {x a : Int} (ha : 0 ≤ a) (h1 : -a ≤ x) (h2 : x ≤ a) : x * x ≤ a * a := by
  rcases Int.le_total 0 x with h | h
  · exact Int.mul_le_mul h2 h2 h ha
  · have := Int.mul_le_mul (show -x ≤ a by omega) (show -x ≤ a by omega) (by omega) ha
    rw [Int.neg_mul_neg] at this
    exact this
theorem near_cell {X Y : Nat → Int} {s : Int} {i j : Nat} (h1 : 1 ≤ s) (e : redC X Y s i = redC X Y s j) : dsq (X i, Y i) (X j, Y j) ≤ 2 * ((s - 1) * (s - 1)) := by
  unfold redC at e
  obtain ⟨e1, e2⟩ := Prod.mk.inj e
  obtain ⟨a1, a2⟩ := same_cell h1 e1
  obtain ⟨b1, b2⟩ := same_cell h1 e2
  have p := sq_le (x := X j - X i) (a := s - 1) (by omega) (by omega) (by omega)
  have q := sq_le (x := Y j - Y i) (a := s - 1) (by omega) (by omega) (by omega)
  unfold dsq
  simp only
  omega
section
variable {C : Nat → Int × Int} {V : Nat → Int}
theorem mx_ge {i j : Nat} (e : C j = C i) : ∀ k, j < k → V j ≤ mxF C V i k := by
  intro k
  induction k with
  | zero => intro h; omega
  | succ k ih =>
    intro h
    unfold mxF
    by_cases he : j = k
    · subst he; rw [if_pos e]; omega
    · have := ih (by omega)
      split <;> omega
theorem all_first {m : Nat} (h : ∀ a, a < m → fstB C a = true) : ∀ a, a ≤ m → rnk C a = a := by
  intro a
  induction a with
  | zero => intro _; rfl
  | succ a ih => intro ha; rw [rnk_fst (h a (by omega)), ih (by omega)]
theorem all_nth {m : Nat} (h : ∀ a, a < m → fstB C a = true) {a : Nat} (ha : a < m) : nthF C m a = a := by
  have := nth_of (h a ha) m ha
  rw [all_first h a (by omega)] at this
  exact this
theorem all_mx {m : Nat} (h : ∀ a, a < m → fstB C a = true) {a : Nat} (ha : a < m) : ∀ k, k ≤ m → mxF C V a k = V a := by
  intro k
  induction k with
  | zero => intro _; rfl
  | succ k ih =>
    intro hk
    have hi := ih (by omega)
    unfold mxF
    split
    · rename_i e
      have := fst_uniq (h k (by omega)) (h a ha) e
      subst this
      rw [hi]; omega
    · exact hi
end
/-- Each kept point is the first of its cell among the kept ones. -/
theorem kept_first {X Y : Nat → Int} {s : Int} {n : Nat} : ∀ a, a < rnk (redC X Y s) n → fstB (redC (fun a => X (nthF (redC X Y s) n a)) (fun a => Y (nthF (redC X Y s) n a)) s) a = true := by
  intro a ha
  refine fstB_iff.2 fun b hb e => ?_
  obtain ⟨h1, h2, h3⟩ := nth_spec (C := redC X Y s) n a ha
  obtain ⟨h1', h2', h3'⟩ := nth_spec (C := redC X Y s) n b (by omega)
  have : nthF (redC X Y s) n b = nthF (redC X Y s) n a := fst_uniq h2' h2 e
  rw [this, h3] at h3'
  omega
theorem kept_ok {n : Nat} {X Y V : Nat → Int} {s : Int} (h : chkF n X Y V = 0) : chkF (rnk (redC X Y s) n) (fun a => X (nthF (redC X Y s) n a)) (fun a => Y (nthF (redC X Y s) n a)) (fun a => mxF (redC X Y s) V (nthF (redC X Y s) n a) n) = 0 := by
  have hn : n ≤ 1000 := by
    have h' := h
    unfold chkF at h'
    split at h'
    · cases h'
    · omega
  have hr := rnk_le (C := redC X Y s) n
  unfold chkF
  rw [if_neg (by omega), if_pos]
  refine allB_of fun a ha => ?_
  obtain ⟨h1, _, _⟩ := nth_spec (C := redC X Y s) n a ha
  obtain ⟨b1, b2, _, _⟩ := ok_at h h1
  have b3 := mx_bd (C := redC X Y s) (V := V) (fun k hk => (ok_at h hk).2.2) h1 n (Nat.le_refl _)
  unfold okP
  rw [Bool.and_eq_true, vldB_iff]
  refine ⟨⟨b1, b2⟩, ?_⟩
  simp
  omega
theorem Cloud.ext {w : World} {A : Option Addr} {n : Nat} {X Y V X' Y' V' : Nat → Int} (h : Cloud w A n X Y V) (he : ∀ i, i < n → X i = X' i ∧ Y i = Y' i ∧ V i = V' i) : Cloud w A n X' Y' V' := fun hn => by
  obtain ⟨b, off, e, hp⟩ := h hn
  refine ⟨b, off, e, fun i hi => ?_⟩
  obtain ⟨a1, a2, a3⟩ := he i hi
  rw [← a1, ← a2, ← a3]
  exact hp i hi
end Go.Proofs.Ytaehfildhmljeaa
