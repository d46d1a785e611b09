/- The mathematics of RulesOrder: costs, and their order. -/
import Derived.Test.YtnpnfdnaglcnfaaDoorDulM
namespace Go.Proofs.YtnpnfdnaglcnfaaDoor

/-- The order of two lists of numbers. -/
def cmpL : List Int → List Int → Int
  | x :: l, y :: m => if x = y then cmpL l m else if x < y then -1 else 1
  | _, _ => 0
theorem cmpL_neg : ∀ l m : List Int, cmpL m l = -cmpL l m
  | [], [] => rfl
  | [], _ :: _ => rfl
  | _ :: _, [] => rfl
  | x :: l, y :: m => by
    unfold cmpL
    by_cases h : x = y
    · rw [if_pos h, if_pos h.symm, cmpL_neg l m]
    · rw [if_neg h, if_neg (fun e => h e.symm)]
      split <;> split <;> omega
theorem cmpL_zero : ∀ l m : List Int, l.length = m.length → (cmpL l m = 0 ↔ l = m)
  | [], [], _ => by simp [cmpL]
  | [], _ :: _, h => by simp at h
  | _ :: _, [], h => by simp at h
  | x :: l, y :: m, h => by
    unfold cmpL
    by_cases e : x = y
    · rw [if_pos e, cmpL_zero l m (by simpa using h), e]
      simp
    · rw [if_neg e]
      constructor
      · intro h2
        split at h2 <;> omega
      · intro h2
        exact absurd (List.cons.inj h2).1 e
theorem cmpL_trans : ∀ l m n : List Int, l.length = m.length → m.length = n.length → cmpL l m ≤ 0 → cmpL m n ≤ 0 → cmpL l n ≤ 0
  | [], [], [], _, _, _, _ => by simp [cmpL]
  | [], [], _ :: _, _, h, _, _ => by simp at h
  | [], _ :: _, _, h, _, _, _ => by simp at h
  | _ :: _, [], _, h, _, _, _ => by simp at h
  | _ :: _, _ :: _, [], _, h, _, _ => by simp at h
  | x :: l, y :: m, z :: n, h1, h2, h3, h4 => by
    have ih := cmpL_trans l m n (by simpa using h1) (by simpa using h2)
    unfold cmpL at h3 h4 ⊢
    by_cases e1 : x = y
    · rw [if_pos e1] at h3
      by_cases e2 : y = z
      · rw [if_pos e2] at h4
        rw [if_pos (e1.trans e2)]
        exact ih h3 h4
      · rw [if_neg e2] at h4
        have : y < z := by
          by_cases h5 : y < z
          · exact h5
          · rw [if_neg h5] at h4; omega
        rw [if_neg (by omega), if_pos (by omega)]
        omega
    · rw [if_neg e1] at h3
      have hxy : x < y := by
        by_cases h5 : x < y
        · exact h5
        · rw [if_neg h5] at h3; omega
      have hyz : y ≤ z := by
        by_cases e2 : y = z
        · omega
        · rw [if_neg e2] at h4
          by_cases h5 : y < z
          · omega
          · rw [if_neg h5] at h4; omega
      rw [if_neg (by omega), if_pos (by omega)]
      omega
theorem cmpL_pm (l m : List Int) : cmpL l m = -1 ∨ cmpL l m = 0 ∨ cmpL l m = 1 := by
  induction l generalizing m with
  | nil => exact .inr (.inl rfl)
  | cons x l ih =>
    cases m with
    | nil => exact .inr (.inl rfl)
    | cons y m =>
      unfold cmpL
      split
      · exact ih m
      · split <;> simp
/-- All noughts are at most what is at least nought. -/
theorem cmpL_least : ∀ l m : List Int, (∀ x ∈ l, x = 0) → (∀ x ∈ m, 0 ≤ x) → cmpL l m ≤ 0
  | [], _, _, _ => by unfold cmpL; omega
  | _ :: _, [], _, _ => by unfold cmpL; omega
  | x :: l, y :: m, h1, h2 => by
    have hx := h1 x (by simp)
    have hy := h2 y (by simp)
    have ih := cmpL_least l m (fun z hz => h1 z (by simp [hz])) (fun z hz => h2 z (by simp [hz]))
    unfold cmpL
    split
    · exact ih
    · rw [if_pos (by omega)]; omega
/-- How many of the first verdicts are No. -/
def ctNo (a : Nat → Int) : Nat → Int
  | 0 => 0
  | k + 1 => ctNo a k + if a k = 0 then 1 else 0
theorem ctNo_in (a : Nat → Int) : ∀ k : Nat, 0 ≤ ctNo a k ∧ ctNo a k ≤ (k : Int)
  | 0 => by simp [ctNo]
  | k + 1 => by
    have := ctNo_in a k
    unfold ctNo
    split <;> omega
/-- Some more cost of a rank. -/
def bump (l : List Int) (r : Nat) (n : Int) : List Int := l.set r (l.getD r 0 + n)
theorem bump_len (l : List Int) (r : Nat) (n : Int) : (bump l r n).length = l.length := by simp [bump]
theorem bump_zero (l : List Int) (r : Nat) : bump l r 0 = l := by
  unfold bump
  rw [Int.add_zero]
  apply List.ext_getElem? fun i => ?_
  rw [List.getElem?_set]
  by_cases h : r = i
  · subst h
    by_cases h2 : r < l.length
    · simp [h2, List.getD_eq_getElem?_getD]
    · simp [h2]
  · simp [h]
theorem bump_add (l : List Int) (r : Nat) (n m : Int) (h : r < l.length) : bump (bump l r n) r m = bump l r (n + m) := by
  unfold bump
  rw [List.set_set]
  congr 1
  simp [List.getD_eq_getElem?_getD, h]
  omega
/-- The costs of a book for a trace. -/
def cstL (t : List (List Int)) (bs : List (Nat × List Nd)) : List Int := bs.foldl (fun l p => bump l p.1 (ctNo (vdsF t p.2) t.length)) (List.replicate 10 0)
theorem cstL_snoc (t : List (List Int)) (bs : List (Nat × List Nd)) (p : Nat × List Nd) : cstL t (bs ++ [p]) = bump (cstL t bs) p.1 (ctNo (vdsF t p.2) t.length) := by simp [cstL]
theorem cst_gen (t : List (List Int)) : ∀ (bs : List (Nat × List Nd)) (l : List Int), (bs.foldl (fun l p => bump l p.1 (ctNo (vdsF t p.2) t.length)) l).length = l.length
  | [], _ => rfl
  | p :: bs, l => by rw [List.foldl_cons, cst_gen t bs, bump_len]
theorem cstL_len (t : List (List Int)) (bs : List (Nat × List Nd)) : (cstL t bs).length = 10 := by
  unfold cstL
  rw [cst_gen]
  simp
theorem bump_in {l : List Int} {M : Int} (h : ∀ x ∈ l, 0 ≤ x ∧ x ≤ M) (r : Nat) {n N : Int} (h1 : 0 ≤ n) (h2 : n ≤ N) (hM : 0 ≤ M) : ∀ x ∈ bump l r n, 0 ≤ x ∧ x ≤ M + N := fun x hx => by
  unfold bump at hx
  rcases List.mem_or_eq_of_mem_set hx with h3 | h3
  · have := h x h3; omega
  · have hd : 0 ≤ l.getD r 0 ∧ l.getD r 0 ≤ M := by
      rw [List.getD_eq_getElem?_getD]
      cases e : l[r]? with
      | none => exact ⟨Int.le_refl 0, hM⟩
      | some y => exact h y (List.mem_of_getElem? e)
    omega
theorem cst_in (t : List (List Int)) : ∀ (bs : List (Nat × List Nd)) (l : List Int) (M : Int), 0 ≤ M → (∀ x ∈ l, 0 ≤ x ∧ x ≤ M) → ∀ x ∈ bs.foldl (fun l p => bump l p.1 (ctNo (vdsF t p.2) t.length)) l, 0 ≤ x ∧ x ≤ M + (bs.length : Int) * (t.length : Int)
  | [], l, M, _, h => by simpa using h
  | p :: bs, l, M, hM, h => fun x hx => by
    rw [List.foldl_cons] at hx
    obtain ⟨c1, c2⟩ := ctNo_in (vdsF t p.2) t.length
    have h2 := cst_in t bs (bump l p.1 (ctNo (vdsF t p.2) t.length)) (M + (t.length : Int)) (by omega) (bump_in h p.1 c1 c2 hM) x hx
    refine ⟨h2.1, Int.le_trans h2.2 ?_⟩
    rw [List.length_cons, Int.natCast_add, Int.add_mul]
    simp
    omega
theorem cstL_in (t : List (List Int)) (bs : List (Nat × List Nd)) : ∀ x ∈ cstL t bs, 0 ≤ x ∧ x ≤ (bs.length : Int) * (t.length : Int) := fun x hx => by
  have h := cst_in t bs (List.replicate 10 0) 0 (Int.le_refl 0) (fun x hx => by
    obtain rfl := (List.mem_replicate.1 hx).2
    omega) x hx
  omega
theorem cstL_nil : ∀ (bs : List (Nat × List Nd)), ∀ x ∈ cstL [] bs, x = 0 := fun bs x hx => by
  have h := cstL_in [] bs x hx
  simp at h
  omega
end Go.Proofs.YtnpnfdnaglcnfaaDoor
