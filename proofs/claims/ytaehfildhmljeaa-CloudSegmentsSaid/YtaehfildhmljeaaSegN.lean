/- The rows of a labelling, said row by row; the reference's rounds of labelling. Plain mathematics. -/
import Derived.Test.YtaehfildhmljeaaSegR
namespace Go.Proofs.Ytaehfildhmljeaa

theorem mod_left {α : Type} {f : α → α} : ∀ (l1 l2 : List α) (i : Nat), i < l1.length → (l1 ++ l2).modify i f = l1.modify i f ++ l2 := by
  intro l1
  induction l1 with
  | nil => intro l2 i h; simp at h
  | cons a l1 ih =>
    intro l2 i h
    cases i with
    | zero => rfl
    | succ i => simp only [List.cons_append, List.modify_succ_cons, List.cons.injEq, true_and]; exact ih l2 i (by simpa using h)
theorem mod_last {α : Type} {f : α → α} (a : α) : ∀ (l : List α) (i : Nat), i = l.length → (l ++ [a]).modify i f = l ++ [f a] := by
  intro l
  induction l with
  | nil => intro i h; subst h; rfl
  | cons b l ih =>
    intro i h
    subst h
    simp only [List.cons_append, List.length_cons, List.modify_succ_cons, List.cons.injEq, true_and]
    exact ih _ rfl

/-- The first k points with the label r. -/
def rowF (L : Nat → Nat) (r : Nat) : Nat → List Nat
  | 0 => []
  | k + 1 => if L k = r then rowF L r k ++ [k] else rowF L r k
/-- The rows of the labels below i, of the first m points. -/
def outG (L : Nat → Nat) (m : Nat) : Nat → List (List Nat)
  | 0 => []
  | i + 1 => if L i = i then outG L m i ++ [rowF L i m] else outG L m i
theorem rowF_low {L : Nat → Nat} {r : Nat} : ∀ k, (∀ j, j < k → L j ≠ r) → rowF L r k = [] := by
  intro k
  induction k with
  | zero => intro _; rfl
  | succ k ih =>
    intro h
    unfold rowF
    rw [if_neg (h k (by omega))]
    exact ih (fun j hj => h j (by omega))
theorem rowF_len (L : Nat → Nat) (r k : Nat) : (rowF L r k).length ≤ k := by
  induction k with
  | zero => exact Nat.le_refl _
  | succ k ih =>
    unfold rowF
    split
    · rw [List.length_append]; simp; omega
    · omega
theorem rowF_pos {L : Nat → Nat} {r : Nat} : ∀ k, r < k → L r = r → 0 < (rowF L r k).length := by
  intro k
  induction k with
  | zero => intro h; omega
  | succ k ih =>
    intro h hr
    unfold rowF
    by_cases he : L k = r
    · rw [if_pos he, List.length_append]; simp
    · rw [if_neg he]
      refine ih ?_ hr
      have : r ≠ k := fun e => he (by rw [← e]; exact hr)
      omega
theorem outG_len (L : Nat → Nat) (m i : Nat) : (outG L m i).length = cnt L i := by
  induction i with
  | zero => rfl
  | succ i ih =>
    unfold outG cnt
    split
    · rw [List.length_append, ih]; rfl
    · rw [ih]; rfl
theorem outG_same {L : Nat → Nat} {m : Nat} : ∀ i, i ≤ L m → outG L (m + 1) i = outG L m i := by
  intro i
  induction i with
  | zero => intro _; rfl
  | succ i ih =>
    intro h
    unfold outG
    rw [ih (by omega), show rowF L i (m + 1) = rowF L i m by rw [rowF, if_neg (by omega)]]
theorem outG_step {L : Nat → Nat} {m : Nat} (h0 : L (L m) = L m) : ∀ i, L m < i → (outG L m i).modify (cnt L (L m)) (· ++ [m]) = outG L (m + 1) i := by
  intro i
  induction i with
  | zero => intro h; omega
  | succ i ih =>
    intro h
    by_cases he : L m = i
    · rw [outG, outG, if_pos (by rw [← he]; exact h0), if_pos (by rw [← he]; exact h0), mod_last _ _ _ (by rw [outG_len, he]), outG_same i (by omega), show rowF L i (m + 1) = rowF L i m ++ [m] by rw [rowF, if_pos he]]
    · have h1 : L m < i := by omega
      have h2 := ih h1
      by_cases hi : L i = i
      · rw [outG, outG, if_pos hi, if_pos hi, mod_left _ _ _ (by rw [outG_len]; exact cnt_lt h0 h1), h2, show rowF L i (m + 1) = rowF L i m by rw [rowF, if_neg (by omega)]]
      · rw [outG, outG, if_neg hi, if_neg hi, h2]
theorem rowsL_outG {L : Nat → Nat} {n : Nat} (hle : ∀ k, k < n → L k ≤ k) (hr : ∀ k, k < n → L (L k) = L k) : ∀ m, m ≤ n → rowsL L m = outG L m m := by
  intro m
  induction m with
  | zero => intro _; rfl
  | succ m ih =>
    intro h
    have hl := hle m (by omega)
    have hrm := hr m (by omega)
    rw [rowsL, ih (by omega)]
    by_cases he : L m = m
    · rw [if_pos he, he, mod_last _ _ _ (by rw [outG_len]), outG, if_pos he, outG_same m (by omega), show rowF L m (m + 1) = rowF L m m ++ [m] by rw [rowF, if_pos he], rowF_low m (fun j hj => by have := hle j (by omega); omega)]
    · rw [if_neg he, outG, if_neg he]
      exact outG_step hrm m (by omega)

/-- The reference's labels on the way. -/
structure RInv (lnk : Nat → Nat → Bool) (n : Nat) (B : Nat → Nat) : Prop where
  le : ∀ i, i < n → B i ≤ i
  con : ∀ i, i < n → Conn lnk n i (B i)
theorem RInv.start (lnk : Nat → Nat → Bool) (n : Nat) : RInv lnk n (fun i => i) := ⟨fun _ _ => Nat.le_refl _, fun i _ => .refl i⟩
theorem RInv.step {lnk : Nat → Nat → Bool} {n i k : Nat} {B : Nat → Nat} (h : RInv lnk n B) (hi : i < n) (hk : k < n) (hl : lnk i k = true) (hlt : B k < B i) : RInv lnk n (upd B i (B k)) := by
  refine ⟨fun j hj => ?_, fun j hj => ?_⟩
  · unfold upd
    split
    · rename_i e; subst e; have := h.le j hj; omega
    · exact h.le j hj
  · unfold upd
    split
    · rename_i e; subst e; exact .trans (.link hi hk hl) (h.con k hk)
    · exact h.con j hj
def sumB (B : Nat → Nat) : Nat → Nat
  | 0 => 0
  | n + 1 => sumB B n + B n
theorem sumB_ext {B B' : Nat → Nat} : ∀ n, (∀ i, i < n → B i = B' i) → sumB B n = sumB B' n := by
  intro n
  induction n with
  | zero => intro _; rfl
  | succ n ih => intro h; unfold sumB; rw [ih (fun i hi => h i (by omega)), h n (by omega)]
theorem sumB_upd {B : Nat → Nat} {i v : Nat} (hv : v < B i) : ∀ n, i < n → sumB (upd B i v) n < sumB B n := by
  intro n
  induction n with
  | zero => intro h; omega
  | succ n ih =>
    intro h
    unfold sumB
    by_cases he : i = n
    · subst he
      have h1 : sumB (upd B i v) i = sumB B i := sumB_ext i (fun j hj => by unfold upd; rw [if_neg (by omega)])
      have h2 : upd B i v i = v := by unfold upd; rw [if_pos rfl]
      omega
    · have h1 := ih (by omega)
      have h2 : upd B i v n = B n := by unfold upd; rw [if_neg (by omega)]
      omega
theorem RInv.lab {lnk : Nat → Nat → Bool} {n : Nat} {B : Nat → Nat} (h : RInv lnk n B) (hs : ∀ i k, lnk i k = lnk k i) (hd : ∀ i k, i < n → k < n → lnk i k = true → ¬ B k < B i) : Lab lnk n B :=
  ⟨h.le, h.con, fun i k hi hk hl => by
    have h1 := hd i k hi hk hl
    have h2 := hd k i hk hi (by rw [hs]; exact hl)
    omega⟩
/-- What a pass has done: up to the pair (i, k). -/
def PD (lnk : Nat → Nat → Bool) (n : Nat) (B B' : Nat → Nat) (c : Bool) (i k : Nat) : Prop :=
  (c = false → (∀ j, j < n → B' j = B j) ∧ ∀ i' k', (i' < i ∨ (i' = i ∧ k' < k)) → k' < n → lnk i' k' = true → ¬ B' k' < B' i') ∧ (c = true → sumB B' n < sumB B n)
theorem PD.start (lnk : Nat → Nat → Bool) (n : Nat) (B : Nat → Nat) : PD lnk n B B false 0 0 :=
  ⟨fun _ => ⟨fun _ _ => rfl, fun i' k' h => by omega⟩, fun h => by cases h⟩
theorem PD.skip {lnk : Nat → Nat → Bool} {n : Nat} {B B' : Nat → Nat} {c : Bool} {i k : Nat} (h : PD lnk n B B' c i k) (hn : lnk i k = true → ¬ B' k < B' i) : PD lnk n B B' c i (k + 1) :=
  ⟨fun hc => ⟨(h.1 hc).1, fun i' k' h1 h2 h3 => by
    by_cases he : i' = i ∧ k' = k
    · obtain ⟨rfl, rfl⟩ := he
      exact hn h3
    · exact (h.1 hc).2 i' k' (by omega) h2 h3⟩, h.2⟩
theorem PD.hit {lnk : Nat → Nat → Bool} {n : Nat} {B B' : Nat → Nat} {c : Bool} {i k : Nat} (h : PD lnk n B B' c i k) (hi : i < n) (hlt : B' k < B' i) : PD lnk n B (upd B' i (B' k)) true i (k + 1) :=
  ⟨(fun hc => by cases hc), fun _ => by
    have h1 := sumB_upd hlt n hi
    cases c with
    | false =>
      have h2 := sumB_ext n (h.1 rfl).1
      omega
    | true =>
      have h2 := h.2 rfl
      omega⟩
theorem PD.row {lnk : Nat → Nat → Bool} {n : Nat} {B B' : Nat → Nat} {c : Bool} {i : Nat} (h : PD lnk n B B' c i n) : PD lnk n B B' c (i + 1) 0 :=
  ⟨fun hc => ⟨(h.1 hc).1, fun i' k' h1 h2 h3 => (h.1 hc).2 i' k' (by omega) h2 h3⟩, h.2⟩
end Go.Proofs.Ytaehfildhmljeaa
