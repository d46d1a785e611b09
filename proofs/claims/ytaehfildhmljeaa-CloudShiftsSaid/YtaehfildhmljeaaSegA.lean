/- The rows of a labelling, said row by row; the reference's rounds of labelling. Plain mathematics. A row of numbers put behind the last row. The reference's 'Sees'. The reference's Segments of a valid cloud, the gap in range. Segments of any cloud and any gap, the program's and the reference's. -/
import Derived.Test.YtaehfildhmljeaaSegR
import Derived.Test.YtaehfildhmljeaaRef1
import Derived.Test.YtaehfildhmljeaaSid2
import Derived.Test.YtaehfildhmljeaaSegW
import Derived.Test.YtaehfildhmljeaaRChC
import Derived.Test.YtaehfildhmljeaaAwk
namespace Go.Proofs.Ytaehfildhmljeaa

theorem mod_left {α : Type} {f : α → α} : ∀ (l1 l2 : List α) (i : Nat), i < l1.length → (l1 ++ l2).modify i f = l1.modify i f ++ l2 := by
  intro l1
  induction l1 with
  | nil => intro l2 i h; simp at h
  | cons a l1 ih =>
    intro l2 i h
    cases i with
    | zero => rfl
    | succ i => simp only [List.cons_append, List.modify_succ_cons, List.cons.injEq, true_and]; exact ih l2 i (by simpa using h)
theorem mod_last {α : Type} {f : α → α} (a : α) : ∀ (l : List α) (i : Nat), i = l.length → (l ++ [a]).modify i f = l ++ [f a] := by
  intro l
  induction l with
  | nil => intro i h; subst h; rfl
  | cons b l ih =>
    intro i h
    subst h
    simp only [List.cons_append, List.length_cons, List.modify_succ_cons, List.cons.injEq, true_and]
    exact ih _ rfl

/-- The first k points with the label r. -/
def rowF (L : Nat → Nat) (r : Nat) : Nat → List Nat
  | 0 => []
  | k + 1 => if L k = r then rowF L r k ++ [k] else rowF L r k
/-- The rows of the labels below i, of the first m points. -/
def outG (L : Nat → Nat) (m : Nat) : Nat → List (List Nat)
  | 0 => []
  | i + 1 => if L i = i then outG L m i ++ [rowF L i m] else outG L m i
theorem rowF_low {L : Nat → Nat} {r : Nat} : ∀ k, (∀ j, j < k → L j ≠ r) → rowF L r k = [] := by
  intro k
  induction k with
  | zero => intro _; rfl
  | succ k ih =>
    intro h
    unfold rowF
    rw [if_neg (h k (by omega))]
    exact ih (fun j hj => h j (by omega))
theorem rowF_len (L : Nat → Nat) (r k : Nat) : (rowF L r k).length ≤ k := by
  induction k with
  | zero => exact Nat.le_refl _
  | succ k ih =>
    unfold rowF
    split
    · rw [List.length_append]; simp; omega
    · omega
theorem rowF_pos {L : Nat → Nat} {r : Nat} : ∀ k, r < k → L r = r → 0 < (rowF L r k).length := by
  intro k
  induction k with
  | zero => intro h; omega
  | succ k ih =>
    intro h hr
    unfold rowF
    by_cases he : L k = r
    · rw [if_pos he, List.length_append]; simp
    · rw [if_neg he]
      refine ih ?_ hr
      have : r ≠ k := fun e => he (by rw [← e]; exact hr)
      omega
theorem outG_len (L : Nat → Nat) (m i : Nat) : (outG L m i).length = cnt L i := by
  induction i with
  | zero => rfl
  | succ i ih =>
    unfold outG cnt
    split
    · rw [List.length_append, ih]; rfl
    · rw [ih]; rfl
theorem outG_same {L : Nat → Nat} {m : Nat} : ∀ i, i ≤ L m → outG L (m + 1) i = outG L m i := by
  intro i
  induction i with
  | zero => intro _; rfl
  | succ i ih =>
    intro h
    unfold outG
    rw [ih (by omega), show rowF L i (m + 1) = rowF L i m by rw [rowF, if_neg (by omega)]]
theorem outG_step {L : Nat → Nat} {m : Nat} (h0 : L (L m) = L m) : ∀ i, L m < i → (outG L m i).modify (cnt L (L m)) (· ++ [m]) = outG L (m + 1) i := by
  intro i
  induction i with
  | zero => intro h; omega
  | succ i ih =>
    intro h
    by_cases he : L m = i
    · rw [outG, outG, if_pos (by rw [← he]; exact h0), if_pos (by rw [← he]; exact h0), mod_last _ _ _ (by rw [outG_len, he]), outG_same i (by omega), show rowF L i (m + 1) = rowF L i m ++ [m] by rw [rowF, if_pos he]]
    · have h1 : L m < i := by omega
      have h2 := ih h1
      by_cases hi : L i = i
      · rw [outG, outG, if_pos hi, if_pos hi, mod_left _ _ _ (by rw [outG_len]; exact cnt_lt h0 h1), h2, show rowF L i (m + 1) = rowF L i m by rw [rowF, if_neg (by omega)]]
      · rw [outG, outG, if_neg hi, if_neg hi, h2]
theorem rowsL_outG {L : Nat → Nat} {n : Nat} (hle : ∀ k, k < n → L k ≤ k) (hr : ∀ k, k < n → L (L k) = L k) : ∀ m, m ≤ n → rowsL L m = outG L m m := by
  intro m
  induction m with
  | zero => intro _; rfl
  | succ m ih =>
    intro h
    have hl := hle m (by omega)
    have hrm := hr m (by omega)
    rw [rowsL, ih (by omega)]
    by_cases he : L m = m
    · rw [if_pos he, he, mod_last _ _ _ (by rw [outG_len]), outG, if_pos he, outG_same m (by omega), show rowF L m (m + 1) = rowF L m m ++ [m] by rw [rowF, if_pos he], rowF_low m (fun j hj => by have := hle j (by omega); omega)]
    · rw [if_neg he, outG, if_neg he]
      exact outG_step hrm m (by omega)

/-- The reference's labels on the way. -/
structure RInv (lnk : Nat → Nat → Bool) (n : Nat) (B : Nat → Nat) : Prop where
  le : ∀ i, i < n → B i ≤ i
  con : ∀ i, i < n → Conn lnk n i (B i)
theorem RInv.start (lnk : Nat → Nat → Bool) (n : Nat) : RInv lnk n (fun i => i) := ⟨fun _ _ => Nat.le_refl _, fun i _ => .refl i⟩
theorem RInv.step {lnk : Nat → Nat → Bool} {n i k : Nat} {B : Nat → Nat} (h : RInv lnk n B) (hi : i < n) (hk : k < n) (hl : lnk i k = true) (hlt : B k < B i) : RInv lnk n (upd B i (B k)) := by
  refine ⟨fun j hj => ?_, fun j hj => ?_⟩
  · unfold upd
    split
    · rename_i e; subst e; have := h.le j hj; omega
    · exact h.le j hj
  · unfold upd
    split
    · rename_i e; subst e; exact .trans (.link hi hk hl) (h.con k hk)
    · exact h.con j hj
def sumB (B : Nat → Nat) : Nat → Nat
  | 0 => 0
  | n + 1 => sumB B n + B n
theorem sumB_ext {B B' : Nat → Nat} : ∀ n, (∀ i, i < n → B i = B' i) → sumB B n = sumB B' n := by
  intro n
  induction n with
  | zero => intro _; rfl
  | succ n ih => intro h; unfold sumB; rw [ih (fun i hi => h i (by omega)), h n (by omega)]
theorem sumB_upd {B : Nat → Nat} {i v : Nat} (hv : v < B i) : ∀ n, i < n → sumB (upd B i v) n < sumB B n := by
  intro n
  induction n with
  | zero => intro h; omega
  | succ n ih =>
    intro h
    unfold sumB
    by_cases he : i = n
    · subst he
      have h1 : sumB (upd B i v) i = sumB B i := sumB_ext i (fun j hj => by unfold upd; rw [if_neg (by omega)])
      have h2 : upd B i v i = v := by unfold upd; rw [if_pos rfl]
      omega
    · have h1 := ih (by omega)
      have h2 : upd B i v n = B n := by unfold upd; rw [if_neg (by omega)]
      omega
theorem RInv.lab {lnk : Nat → Nat → Bool} {n : Nat} {B : Nat → Nat} (h : RInv lnk n B) (hs : ∀ i k, lnk i k = lnk k i) (hd : ∀ i k, i < n → k < n → lnk i k = true → ¬ B k < B i) : Lab lnk n B :=
  ⟨h.le, h.con, fun i k hi hk hl => by
    have h1 := hd i k hi hk hl
    have h2 := hd k i hk hi (by rw [hs]; exact hl)
    omega⟩
/-- What a pass has done: up to the pair (i, k). -/
def PD (lnk : Nat → Nat → Bool) (n : Nat) (B B' : Nat → Nat) (c : Bool) (i k : Nat) : Prop :=
  (c = false → (∀ j, j < n → B' j = B j) ∧ ∀ i' k', (i' < i ∨ (i' = i ∧ k' < k)) → k' < n → lnk i' k' = true → ¬ B' k' < B' i') ∧ (c = true → sumB B' n < sumB B n)
theorem PD.start (lnk : Nat → Nat → Bool) (n : Nat) (B : Nat → Nat) : PD lnk n B B false 0 0 :=
  ⟨fun _ => ⟨fun _ _ => rfl, fun i' k' h => by omega⟩, fun h => by cases h⟩
theorem PD.skip {lnk : Nat → Nat → Bool} {n : Nat} {B B' : Nat → Nat} {c : Bool} {i k : Nat} (h : PD lnk n B B' c i k) (hn : lnk i k = true → ¬ B' k < B' i) : PD lnk n B B' c i (k + 1) :=
  ⟨fun hc => ⟨(h.1 hc).1, fun i' k' h1 h2 h3 => by
    by_cases he : i' = i ∧ k' = k
    · obtain ⟨rfl, rfl⟩ := he
      exact hn h3
    · exact (h.1 hc).2 i' k' (by omega) h2 h3⟩, h.2⟩
theorem PD.hit {lnk : Nat → Nat → Bool} {n : Nat} {B B' : Nat → Nat} {c : Bool} {i k : Nat} (h : PD lnk n B B' c i k) (hi : i < n) (hlt : B' k < B' i) : PD lnk n B (upd B' i (B' k)) true i (k + 1) :=
  ⟨(fun hc => by cases hc), fun _ => by
    have h1 := sumB_upd hlt n hi
    cases c with
    | false =>
      have h2 := sumB_ext n (h.1 rfl).1
      omega
    | true =>
      have h2 := h.2 rfl
      omega⟩
theorem PD.row {lnk : Nat → Nat → Bool} {n : Nat} {B B' : Nat → Nat} {c : Bool} {i : Nat} (h : PD lnk n B B' c i n) : PD lnk n B B' c (i + 1) 0 :=
  ⟨fun hc => ⟨(h.1 hc).1, fun i' k' h1 h2 h3 => (h.1 hc).2 i' k' (by omega) h2 h3⟩, h.2⟩
end Go.Proofs.Ytaehfildhmljeaa

namespace Go.Proofs.Ytaehfildhmljeaa
open Go.RowKit Go.Shelf

theorem SegsAt.pushRow {W W' : World} {base : Nat} {v v' x0 : Value} {R : List (List Nat)} {r0 : List Nat} {xs : List Value} (h1 : xs.length = R.length) (h2 : W.ownsRow base 41 1 v R.length xs)
    (h3 : ∀ (a : Nat) x r, xs[a]? = some x → R[a]? = some r → W.ownsRow base 3 1 x r.length (natV r)) (h4 : ∀ (a b : Nat) x y, xs[a]? = some x → xs[b]? = some y → a ≠ b → x.ownBlock = none ∨ x.ownBlock ≠ y.ownBlock)
    (hx0 : W.ownsRow base 3 1 x0 r0.length (natV r0)) (hd : ∀ (a : Nat) x, xs[a]? = some x → x.ownBlock = none ∨ x.ownBlock ≠ x0.ownBlock)
    (ho : W'.ownsRow base 41 1 v' (R.length + 1) (xs ++ [x0])) (hg : W.grownBy W' v.ownBlock) : SegsAt W' base v' (R ++ [r0]) := by
  have get : ∀ (a : Nat) x, (xs ++ [x0])[a]? = some x → (a < xs.length ∧ xs[a]? = some x) ∨ (a = xs.length ∧ x = x0) := fun a x hx => by
    rcases Nat.lt_or_ge a xs.length with h | h
    · rw [List.getElem?_append_left h] at hx; exact Or.inl ⟨h, hx⟩
    · rw [List.getElem?_append_right h] at hx
      have : a - xs.length = 0 := by
        rcases Nat.eq_zero_or_pos (a - xs.length) with h0 | h0
        · exact h0
        · rw [List.getElem?_eq_none (by simp; omega)] at hx; cases hx
      rw [this] at hx
      exact Or.inr ⟨by omega, by simpa using hx.symm⟩
  refine ⟨xs ++ [x0], by simp [h1], by simpa using ho, fun a x r hx hr => ?_, fun a b x y hx hy hab => ?_⟩
  · rcases get a x hx with ⟨ha, hx'⟩ | ⟨ha, rfl⟩
    · rw [List.getElem?_append_left (by omega)] at hr
      have := h3 a x r hx' hr
      exact this.kept hg (own_ne this h2 (by decide))
    · rw [ha, h1, List.getElem?_append_right (Nat.le_refl _)] at hr
      have : r = r0 := by simpa using hr.symm
      subst this
      exact hx0.kept hg (own_ne hx0 h2 (by decide))
  · rcases get a x hx with ⟨ha, hx'⟩ | ⟨ha, rfl⟩
    · rcases get b y hy with ⟨hb, hy'⟩ | ⟨hb, rfl⟩
      · exact h4 a b x y hx' hy' hab
      · exact hd a x hx'
    · rcases get b y hy with ⟨hb, hy'⟩ | ⟨hb, rfl⟩
      · rcases hd b y hy' with h | h
        · cases hx2 : x.ownBlock with
          | none => exact Or.inl rfl
          | some k => exact Or.inr (by rw [h]; simp)
        · exact Or.inr (fun e => h e.symm)
      · omega
end Go.Proofs.Ytaehfildhmljeaa

namespace Go.Proofs.Ytaehfildhmljeaa
open Go.RowKit Go.Shelf

set_option maxRecDepth 100000 in
set_option maxHeartbeats 4000000 in
theorem rsees_any (a1 a2 b1 b2 v : Int) (r : Bool) (w : World) (hr : Hid (seesF (a1, a2) (b1, b2) v = r)) :
    Calls Try.prog 75 #[sp a1 a2, sp b1 b2, .int .i64 v] w fun e w' => e = .returned (.bool r) ∧ Below w.heap.size w w' := by
  have ha := (BoxAt.new w 24 #[.int .i64 a1, .int .i64 a2]).alloc (.cells #[.int .i64 b1, .int .i64 b2] 24)
  have hb := BoxAt.new (w.alloc (.cells #[.int .i64 a1, .int .i64 a2] 24)) 24 #[.int .i64 b1, .int .i64 b2]
  have hB : Below w.heap.size w ((w.alloc (.cells #[.int .i64 a1, .int .i64 a2] 24)).alloc (.cells #[.int .i64 b1, .int .i64 b2] 24)) := ((Below.refl _ w).alloc (Nat.le_refl _) _).alloc (by simp) _
  simp only [World.size_alloc] at hb
  obtain ⟨va, hva⟩ : ∃ s, s = vp (a1, a2) := ⟨_, rfl⟩
  obtain ⟨vb, hvb⟩ : ∃ s, s = vp (b1, b2) := ⟨_, rfl⟩
  have VA : Hid (vp (a1, a2) = va) := hva.symm
  have VB : Hid (vp (b1, b2) = vb) := hvb.symm
  cases va
  · have hz : Hid (r = false) := by show r = false; rw [← hr.out]; unfold seesF; rw [← hva]; rfl
    clear hva hvb
    go_enter Try.func75, Try.ntmps75
    go_wp2_with (go_at_call 62; (with_reducible refine (rvalid_any a1 a2 _ _ VA).mono ?_); rintro e w1 ⟨rfl, hb1⟩; replace hB := below_step hB hb1)
    go_ret
    exact ⟨congrArg (fun z => Ending.returned (.bool z)) hz.out.symm, hB⟩
  cases vb
  · have hz : Hid (r = false) := by show r = false; rw [← hr.out]; unfold seesF; rw [← hva, ← hvb]; rfl
    clear hva hvb
    go_enter Try.func75, Try.ntmps75
    go_wp2_with (first
      | (go_at_call 62; (with_reducible refine (rvalid_any a1 a2 _ _ VA).mono ?_); rintro e w1 ⟨rfl, hb1⟩; obtain ⟨qb, k4, k5, k6, k7⟩ := box2 hb hb1; replace hB := below_step hB hb1)
      | (go_at_call 62; (with_reducible refine (rvalid_any b1 b2 _ _ VB).mono ?_); rintro e w1 ⟨rfl, hb2⟩; replace hB := below_step hB hb2))
    go_ret
    exact ⟨congrArg (fun z => Ending.returned (.bool z)) hz.out.symm, hB⟩
  by_cases v0 : v < 0
  · have hz : Hid (r = false) := by show r = false; rw [← hr.out]; unfold seesF; rw [← hva, ← hvb, decide_eq_false (show ¬ 0 ≤ v by omega)]; rfl
    clear hva hvb
    go_enter Try.func75, Try.ntmps75
    go_wp2_with (first
      | (go_at_call 62; (with_reducible refine (rvalid_any a1 a2 _ _ VA).mono ?_); rintro e w1 ⟨rfl, hb1⟩; obtain ⟨qb, k4, k5, k6, k7⟩ := box2 hb hb1; replace hB := below_step hB hb1)
      | (go_at_call 62; (with_reducible refine (rvalid_any b1 b2 _ _ VB).mono ?_); rintro e w1 ⟨rfl, hb2⟩; replace hB := below_step hB hb2))
    go_ret
    exact ⟨congrArg (fun z => Ending.returned (.bool z)) hz.out.symm, hB⟩
  by_cases v1 : 33554432 < v
  · have hz : Hid (r = false) := by show r = false; rw [← hr.out]; unfold seesF; rw [← hva, ← hvb, decide_eq_false (show ¬ v ≤ 33554432 by omega)]; simp
    clear hva hvb
    go_enter Try.func75, Try.ntmps75
    go_wp2_with (first
      | (go_at_call 62; (with_reducible refine (rvalid_any a1 a2 _ _ VA).mono ?_); rintro e w1 ⟨rfl, hb1⟩; obtain ⟨qb, k4, k5, k6, k7⟩ := box2 hb hb1; replace hB := below_step hB hb1)
      | (go_at_call 62; (with_reducible refine (rvalid_any b1 b2 _ _ VB).mono ?_); rintro e w1 ⟨rfl, hb2⟩; replace hB := below_step hB hb2))
    go_ret
    exact ⟨congrArg (fun z => Ending.returned (.bool z)) hz.out.symm, hB⟩
  · have hvv := mul_bound (a := v) (b := v) (A := 33554432) (B := 33554432) (by omega) (by omega) (by omega) (by omega)
    have q1 : -1125899906842624 ≤ v * v := by omega
    have q2 : v * v ≤ 1125899906842624 := by omega
    clear hvv
    obtain ⟨d, hd⟩ : ∃ d, d = distF (a1, a2) (b1, b2) := ⟨_, rfl⟩
    have hdd : Hid (distF (a1, a2) (b1, b2) = d) := hd.symm
    have hdq : d = dsq (a1, a2) (b1, b2) := by rw [hd]; unfold distF; rw [← hva, ← hvb]; rfl
    have hz : Hid (r = decide (d ≤ v * v)) := by show r = _; rw [← hr.out, hdq]; unfold seesF; rw [← hva, ← hvb, decide_eq_true (show 0 ≤ v by omega), decide_eq_true (show v ≤ 33554432 by omega)]; rfl
    clear hva hvb hd hdq
    go_enter Try.func75, Try.ntmps75
    go_wp2_with (first
      | (go_at_call 62; (with_reducible refine (rvalid_any a1 a2 _ _ VA).mono ?_); rintro e w1 ⟨rfl, hb1⟩; obtain ⟨qa, k0, k1, k2, k3⟩ := box2 ha hb1; obtain ⟨qb, k4, k5, k6, k7⟩ := box2 hb hb1; replace hB := below_step hB hb1)
      | (go_at_call 62; (with_reducible refine (rvalid_any b1 b2 _ _ VB).mono ?_); rintro e w1 ⟨rfl, hb2⟩; obtain ⟨pa, k0, k1, k2, k3⟩ := box2 qa.out hb2; obtain ⟨pb, k4, k5, k6, k7⟩ := box2 qb.out hb2; replace hB := below_step hB hb2)
      | (go_at_call 56; (with_reducible refine (rdist_any a1 a2 b1 b2 d _ hdd).mono ?_); rintro e w2 ⟨rfl, hb3⟩; replace hB := below_step hB hb3))
    go_ret
    exact ⟨congrArg (fun z => Ending.returned (.bool z)) hz.out.symm, hB⟩
end Go.Proofs.Ytaehfildhmljeaa

namespace Go.Proofs.Ytaehfildhmljeaa
open Go.RowKit Go.Shelf

theorem NatAt.ext {w : World} {g n : Nat} {F G : Nat → Nat} (h : NatAt w g n F) (he : ∀ i, i < n → F i = G i) : NatAt w g n G := by
  obtain ⟨cs, h1, h2, h3⟩ := h
  exact ⟨cs, h1, h2, fun i hi => by rw [h3 i hi, he i hi]⟩
def lowB (i j : Nat) : Nat := if j < i then j else 0
theorem lowB_up (i j : Nat) : upd (lowB i) i i j = lowB (i + 1) j := by
  unfold upd lowB
  split
  · rename_i h1; subst h1; rw [if_pos (by omega)]
  · by_cases h2 : j < i
    · rw [if_pos h2, if_pos (by omega)]
    · rw [if_neg h2, if_neg (by omega)]
def numAt (v : Option Value) : Nat := match v with
  | some (.int _ a) => a.toNat
  | _ => 0
def sumW (w : World) (g : Nat) : Nat → Nat
  | 0 => 0
  | n + 1 => sumW w g n + numAt (w.cell? ⟨g, n, none⟩)
theorem NatAt.sum {w : World} {g n : Nat} {B : Nat → Nat} (h : NatAt w g n B) : ∀ m, m ≤ n → sumW w g m = sumB B m := by
  intro m
  induction m with
  | zero => intro _; rfl
  | succ m ih =>
    intro hm
    unfold sumW sumB
    rw [ih (by omega), h.cell (by omega)]
    simp [numAt]
def passM (v : Value) (w : World) (g n : Nat) : Nat := match v with
  | .bool true => sumW w g n + 1
  | _ => 0
theorem clo6 {w : World} {b off n : Nat} {X Y V : Nat → Int} (h : Clo w b off n X Y V) {i k : Nat} (hi : i < n) (hk : k < n) :
    w.cell? ⟨b, off + i * 3, none⟩ = some (.int .i64 (X i)) ∧ w.cell? ⟨b, off + i * 3 + 1, none⟩ = some (.int .i64 (Y i)) ∧ w.cell? ⟨b, off + i * 3 + 2, none⟩ = some (.int .i64 (V i)) ∧
    w.cell? ⟨b, off + k * 3, none⟩ = some (.int .i64 (X k)) ∧ w.cell? ⟨b, off + k * 3 + 1, none⟩ = some (.int .i64 (Y k)) ∧ w.cell? ⟨b, off + k * 3 + 2, none⟩ = some (.int .i64 (V k)) :=
  ⟨(h i hi).1, (h i hi).2.1, (h i hi).2.2, (h k hk).1, (h k hk).2.1, (h k hk).2.2⟩

set_option maxRecDepth 100000 in
set_option maxHeartbeats 16000000 in
theorem rsegments_good (A : Option Addr) (n cap : Nat) (X Y V : Nat → Int) (gap : Int) (hok : chkF n X Y V = 0) (g0 : 0 ≤ gap) (g1 : gap ≤ 33554432) (w : World) (hcl : Cloud w A n X Y V) :
    Calls Try.prog 35 #[.slice A n cap, .int .i64 gap] w (SegPost X Y gap n w) := by
  have hn : n ≤ 1000 := by
    unfold chkF at hok
    split at hok
    · cases hok
    · omega
  have hmk := fun W => run_make_row' (P := Try.prog) 41 3 (.int .i64 0) 8 Try.underlying41 Try.info3 rfl .i64 .i64 n (by omega) (by omega) W
  have HCL := Lib.hid hcl
  have HCK := Lib.hid (fun W (h : Cloud W A n X Y V) => rcheck_any A n cap X Y V W h)
  rw [hok] at HCK
  have n0 : (0 : Int) ≤ (n : Int) := Int.natCast_nonneg _
  clear hcl hok
  have y1 : ¬ gap < 0 := by omega
  have y2 : ¬ 33554432 < gap := by omega
  go_enter Try.func35, Try.ntmps35
  go_upto_region 8 with (go_at_call 23; (with_reducible refine (HCK.out _ HCL.out).mono ?_); rintro e w1 ⟨rfl, hb1⟩)
  have hA := nat_made w1 n
  have hB := below_step hb1 ((Below.refl _ w1).alloc (Nat.le_refl _) (.cells (madeCells #[.int .i64 0] n) 3))
  obtain ⟨g, hg⟩ : ∃ z, z = w1.heap.size := ⟨_, rfl⟩
  rw [← hg] at hA ⊢
  have hwg : w.heap.size ≤ g := by rw [hg]; exact hb1.size
  clear hg hb1 hmk HCK
  generalize w1.alloc (.cells (madeCells #[.int .i64 0] n) 3) = w2 at *
  obtain ⟨j0, hj0, hz0, hz1, hz2⟩ := info_parts Try.info41
  have hI0 := Lib.hid hj0
  have hZ0 := Lib.hid hz0
  have hZ1 := Lib.hid hz1
  have hZ2 := Lib.hid hz2
  obtain ⟨jj0, hj0', hz0', hz1', hz2'⟩ := info_parts Try.info3
  have hI3 := Lib.hid hj0'
  have hY0 := Lib.hid hz0'
  have hY1 := Lib.hid hz1'
  have hY2 := Lib.hid hz2'
  clear hj0 hz0 hz1 hz2 hj0' hz0' hz1' hz2'
  have I : ∃ i : Nat, i ≤ n ∧ (Value.int .i64 0) = .int .i64 i ∧ Hid (NatAt w2 g n (lowB i)) ∧ Hid (Below w.heap.size w w2) :=
    ⟨0, Nat.zero_le _, rfl, Lib.hid (hA.ext (fun i _ => by simp [lowB])), Lib.hid hB⟩
  clear hA hB
  go_loopw [8] (fun iv wr => ∃ i : Nat, i ≤ n ∧ iv = .int .i64 i ∧ Hid (NatAt wr g n (lowB i)) ∧ Hid (Below w.heap.size w wr)) (fun iv _ => n - (intOf iv).toNat)
  case atStart => exact I
  case round =>
    clear I
    obtain ⟨i, hi, rfl, HA, HB⟩ := hrel
    by_cases hlt : i < n
    · have i0 : (0 : Int) ≤ (i : Int) := Int.natCast_nonneg _
      have i1 : (i : Int) < (n : Int) := by omega
      have c4 : wr.cell? ⟨g, i, none⟩ = some (.int .i64 _) := NatAt.cell HA.out hlt
      have c5 : wr.frozen? ⟨g, i, none⟩ = false := NatAt.frozen HA.out i
      have l2 := NatAt.lt HA.out
      go_wp2
      go_roundw
      case rel => exact ⟨i + 1, by omega, by go_num, Lib.hid ((NatAt.set HA.out i i).ext (fun j _ => lowB_up i j)), Lib.hid (HB.out.setCell (p := ⟨g, i, none⟩) hwg _)⟩
      case measure => simp [intOf]; omega
    · obtain rfl : i = n := by omega
      have i1 : ¬ (i : Int) < (i : Int) := by omega
      have HA2 : Hid (NatAt wr g i (fun j => j)) := Lib.hid (HA.out.ext (fun j hj => by unfold lowB; rw [if_pos hj]))
      have I : ∃ (c : Bool) (B : Nat → Nat), (Value.bool true) = .bool c ∧ Hid (NatAt wr g i B) ∧ Hid (RInv (lnkF X Y gap) i B) ∧ Hid (c = false → ∀ i' k', i' < i → k' < i → lnkF X Y gap i' k' = true → ¬ B k' < B i') ∧ Hid (Below w.heap.size w wr) :=
        ⟨true, _, rfl, HA2, Lib.hid (RInv.start _ _), Lib.hid (fun h => by cases h), HB⟩
      clear HA HA2 HB hi hlt
      obtain ⟨n, rfl⟩ : ∃ m, m = i := ⟨_, rfl⟩
      go_wp2
      obtain ⟨wo, rfl⟩ : ∃ x : World, x = wr := ⟨_, rfl⟩
      go_loopw [9] (fun cv wr => ∃ (c : Bool) (B : Nat → Nat), cv = .bool c ∧ Hid (NatAt wr g n B) ∧ Hid (RInv (lnkF X Y gap) n B) ∧ Hid (c = false → ∀ i' k', i' < n → k' < n → lnkF X Y gap i' k' = true → ¬ B k' < B i') ∧ Hid (Below w.heap.size w wr)) (fun cv wr => passM cv wr g n)
      case atStart => exact I
      case round =>
        clear I
        obtain ⟨c, B, rfl, HA, HR, HD, HB⟩ := hrel
        cases c with
        | true =>
          clear HD
          have HS : Hid (sumW wr g n = sumB B n) := Lib.hid (NatAt.sum HA.out n (Nat.le_refl _))
          have I : ∃ (c : Bool) (i : Nat) (B' : Nat → Nat), i ≤ n ∧ (Value.bool false) = .bool c ∧ (Value.int .i64 0) = .int .i64 i ∧ Hid (NatAt wr g n B') ∧ Hid (RInv (lnkF X Y gap) n B') ∧ Hid (PD (lnkF X Y gap) n B B' c i 0) ∧ Hid (Below w.heap.size w wr) :=
            ⟨false, 0, B, Nat.zero_le _, rfl, rfl, HA, HR, Lib.hid (PD.start _ _ _), HB⟩
          clear HA HR HB
          go_wp2
          obtain ⟨wp, rfl⟩ : ∃ x : World, x = wr := ⟨_, rfl⟩
          go_loopw [9, 10] (fun cv iv wr => ∃ (c : Bool) (i : Nat) (B' : Nat → Nat), i ≤ n ∧ cv = .bool c ∧ iv = .int .i64 i ∧ Hid (NatAt wr g n B') ∧ Hid (RInv (lnkF X Y gap) n B') ∧ Hid (PD (lnkF X Y gap) n B B' c i 0) ∧ Hid (Below w.heap.size w wr)) (fun _ iv _ => n - (intOf iv).toNat)
          case atStart => exact I
          case round =>
            clear I
            obtain ⟨c, i, B1, hi, rfl, rfl, HA, HR, HP, HB⟩ := hrel
            by_cases hlt : i < n
            · have i0 : (0 : Int) ≤ (i : Int) := Int.natCast_nonneg _
              have i1 : (i : Int) < (n : Int) := by omega
              have I : ∃ (c' : Bool) (k : Nat) (B' : Nat → Nat), k ≤ n ∧ (Value.bool c) = .bool c' ∧ (Value.int .i64 0) = .int .i64 k ∧ Hid (NatAt wr g n B') ∧ Hid (RInv (lnkF X Y gap) n B') ∧ Hid (PD (lnkF X Y gap) n B B' c' i k) ∧ Hid (Below w.heap.size w wr) :=
                ⟨c, 0, B1, Nat.zero_le _, rfl, rfl, HA, HR, HP, HB⟩
              clear HA HR HP HB
              go_wp2
              obtain ⟨wq, rfl⟩ : ∃ x : World, x = wr := ⟨_, rfl⟩
              go_loopw [9, 11] (fun cv kv wr => ∃ (c' : Bool) (k : Nat) (B' : Nat → Nat), k ≤ n ∧ cv = .bool c' ∧ kv = .int .i64 k ∧ Hid (NatAt wr g n B') ∧ Hid (RInv (lnkF X Y gap) n B') ∧ Hid (PD (lnkF X Y gap) n B B' c' i k) ∧ Hid (Below w.heap.size w wr)) (fun _ kv _ => n - (intOf kv).toNat)
              case atStart => exact I
              case round =>
                clear I
                obtain ⟨c, k, B2, hk, rfl, rfl, HA, HR, HP, HB⟩ := hrel
                by_cases hltk : k < n
                · obtain ⟨b, off, e, hc0⟩ := HCL.out (by omega)
                  subst e
                  have hbl := hc0.lt (by omega)
                  have l1 : b < wr.heap.size := Nat.lt_of_lt_of_le hbl HB.out.size
                  have HC := Lib.hid (hc0.below HB.out hbl)
                  have l2 := NatAt.lt HA.out
                  have k0 : (0 : Int) ≤ (k : Int) := Int.natCast_nonneg _
                  have k1 : (k : Int) < (n : Int) := by omega
                  have c4 : wr.cell? ⟨g, k, none⟩ = some (.int .i64 (B2 k)) := NatAt.cell HA.out hltk
                  have c5 : wr.cell? ⟨g, i, none⟩ = some (.int .i64 (B2 i)) := NatAt.cell HA.out hlt
                  clear hc0 hbl
                  by_cases hc : B2 k < B2 i
                  · have hd : (B2 k : Int) < (B2 i : Int) := by omega
                    have HPQ : Hid (∀ W, Below wr.heap.size wr W → (W.cell? ⟨g, k, none⟩ = some (.int .i64 (B2 k)) ∧ W.cell? ⟨g, i, none⟩ = some (.int .i64 (B2 i)) ∧
                        W.cell? ⟨b, off + i * 3, none⟩ = some (.int .i64 (X i)) ∧ W.cell? ⟨b, off + i * 3 + 1, none⟩ = some (.int .i64 (Y i)) ∧ W.cell? ⟨b, off + i * 3 + 2, none⟩ = some (.int .i64 (V i)) ∧
                        W.cell? ⟨b, off + k * 3, none⟩ = some (.int .i64 (X k)) ∧ W.cell? ⟨b, off + k * 3 + 1, none⟩ = some (.int .i64 (Y k)) ∧ W.cell? ⟨b, off + k * 3 + 2, none⟩ = some (.int .i64 (V k)))) :=
                      Lib.hid (fun W hW => ⟨(NatAt.below HA.out hW).cell hltk, (NatAt.below HA.out hW).cell hlt, clo6 (HC.out.below hW l1) hlt hltk⟩)
                    obtain ⟨p0, p1, p2, p3, p4, p5⟩ := clo6 HC.out hlt hltk
                    obtain ⟨r, hr⟩ : ∃ r, r = lnkF X Y gap i k := ⟨_, rfl⟩
                    have HS2 : Hid (seesF (X i, Y i) (X k, Y k) gap = r) := Lib.hid hr.symm
                    have HRr := Lib.hid hr
                    have HCC := Lib.hid hc
                    have hBx := Below.refl wr.heap.size wr
                    clear hr hc
                    go_upto_region 20 with fail
                    go_cut [75] from 53 to 75 (fun v wz => v = .bool r ∧ Below wr.heap.size wr wz)
                    case first =>
                      replace hBx : Below wr.heap.size wr wr.drew := hBx.drew
                      go_region_held3 (fun W => W.cell? ⟨g, k, none⟩ = some (.int .i64 (B2 k)) ∧ W.cell? ⟨g, i, none⟩ = some (.int .i64 (B2 i)) ∧
                        W.cell? ⟨b, off + i * 3, none⟩ = some (.int .i64 (X i)) ∧ W.cell? ⟨b, off + i * 3 + 1, none⟩ = some (.int .i64 (Y i)) ∧ W.cell? ⟨b, off + i * 3 + 2, none⟩ = some (.int .i64 (V i)) ∧
                        W.cell? ⟨b, off + k * 3, none⟩ = some (.int .i64 (X k)) ∧ W.cell? ⟨b, off + k * 3 + 1, none⟩ = some (.int .i64 (Y k)) ∧ W.cell? ⟨b, off + k * 3 + 2, none⟩ = some (.int .i64 (V k)))
                        (first | exact HPQ.out _ hBx | go_keep)
                        (first
                          | (go_at_call 63; (with_reducible refine (rspot_any _ _ _ _).mono ?_); rintro e wa ⟨rfl, hba⟩; replace hBx := below_step hBx hba)
                          | (go_at_call 75; (with_reducible refine (rsees_any _ _ _ _ _ r _ HS2).mono ?_); rintro e wb ⟨rfl, hbb⟩; replace hBx := below_step hBx hbb))
                      all_goals go_wp2
                      all_goals go_meet
                      all_goals exact ⟨rfl, hBx⟩
                    case rest =>
                      obtain ⟨wz, rfl⟩ : ∃ x : World, x = wc := ⟨_, rfl⟩
                      obtain ⟨rfl, hbz⟩ := hcut
                      have HA3 := Lib.hid (NatAt.below HA.out hbz)
                      have HB3 := Lib.hid (below_step HB.out hbz)
                      clear hbz p0 p1 p2 p3 p4 p5 c4 c5 l2 l1 HPQ HC HA HB hBx
                      cases r with
                      | false =>
                        have HP3 := Lib.hid (PD.skip HP.out (fun h => by rw [← HRr.out] at h; cases h))
                        go_wp2
                        go_roundw
                        case rel => exact ⟨c, k + 1, B2, by omega, rfl, by go_num, HA3, HR, HP3, HB3⟩
                        case measure => simp [intOf]; omega
                      | true =>
                        have HP3 := Lib.hid (PD.hit HP.out hlt HCC.out)
                        have HR3 := Lib.hid (RInv.step HR.out hlt hltk HRr.out.symm HCC.out)
                        have c4 : wz.cell? ⟨g, k, none⟩ = some (.int .i64 (B2 k)) := NatAt.cell HA3.out hltk
                        have c5 : wz.cell? ⟨g, i, none⟩ = some (.int .i64 (B2 i)) := NatAt.cell HA3.out hlt
                        have c6 : wz.frozen? ⟨g, i, none⟩ = false := NatAt.frozen HA3.out i
                        have l2 := NatAt.lt HA3.out
                        go_wp2
                        go_roundw
                        case rel => exact ⟨true, k + 1, _, by omega, rfl, by go_num, Lib.hid (NatAt.set HA3.out i (B2 k)), HR3, HP3, Lib.hid (HB3.out.setCell (p := ⟨g, i, none⟩) hwg _)⟩
                        case measure => simp [intOf]; omega
                  · have HP3 := Lib.hid (PD.skip HP.out (fun _ => hc))
                    obtain ⟨pk, hpk⟩ : ∃ z : Int, z = (B2 k : Int) := ⟨_, rfl⟩
                    obtain ⟨qi, hqi⟩ : ∃ z : Int, z = (B2 i : Int) := ⟨_, rfl⟩
                    have HCC : Hid (¬ pk < qi) := Lib.hid (by omega)
                    rw [← hpk] at c4
                    rw [← hqi] at c5
                    clear hc HC l1 hpk hqi
                    go_upto_region 20 with fail
                    have hd : decide (pk < qi) = false := decide_eq_false HCC.out
                    go_cut [75] from 53 to 75 (fun v wz => v = .bool false ∧ Below wr.heap.size wr wz)
                    case first =>
                      go_quiet (fail)
                      go_wp2
                      go_meet
                      exact ⟨rfl, below_drewN (Below.refl _ wr) _⟩
                    case rest =>
                      obtain ⟨wz, rfl⟩ : ∃ x : World, x = wc := ⟨_, rfl⟩
                      obtain ⟨rfl, hbz⟩ := hcut
                      have HA3 := Lib.hid (NatAt.below HA.out hbz)
                      have HB3 := Lib.hid (below_step HB.out hbz)
                      clear hbz c4 c5 l2 HA HB
                      go_wp2
                      go_roundw
                      case rel => exact ⟨c, k + 1, B2, by omega, rfl, by go_num, HA3, HR, HP3, HB3⟩
                      case measure => simp [intOf]; omega
                · obtain rfl : k = n := by omega
                  have HP3 := Lib.hid (PD.row HP.out)
                  go_wp2
                  go_roundw
                  case rel => exact ⟨c, i + 1, B2, by omega, rfl, by go_num, HA, HR, HP3, HB⟩
                  case measure => simp [intOf]; omega
            · obtain rfl : i = n := by omega
              have i1 : ¬ (i : Int) < (i : Int) := by omega
              have HM : Hid (passM (.bool c) wr g i < passM (.bool true) wp g i) := Lib.hid (by
                cases c with
                | false => show 0 < sumW wp g i + 1; omega
                | true =>
                  show sumW wr g i + 1 < sumW wp g i + 1
                  have h1 := NatAt.sum HA.out i (Nat.le_refl _)
                  have h2 := HS.out
                  have h3 := HP.out.2 rfl
                  omega)
              go_wp2
              go_roundw
              case rel => exact ⟨c, B1, rfl, HA, HR, Lib.hid (fun hc i' k' h1 h2 h3 => (HP.out.1 hc).2 i' k' (Or.inl h1) h2 h3), HB⟩
              case measure => exact HM.out
        | false =>
          obtain ⟨L, rfl⟩ : ∃ m, m = B := ⟨_, rfl⟩
          have HL := Lib.hid (RInv.lab HR.out (lnkF_sym X Y gap) (HD.out rfl))
          obtain ⟨Bs, hBs⟩ : ∃ z, z = wr.heap.size := ⟨_, rfl⟩
          have hgB : g < Bs := by rw [hBs]; exact NatAt.lt HA.out
          have hwB : w.heap.size ≤ Bs := by rw [hBs]; exact HB.out.size
          have I : ∃ (i : Nat) (v : Value), i ≤ n ∧ (Value.slice none 0 0) = v ∧ (Value.int .i64 0) = .int .i64 i ∧ Hid (SegsAt wr Bs v (outG L n i)) ∧ Hid (NatAt wr g n L) ∧ Hid (Below w.heap.size w wr) ∧ Hid (Bs ≤ wr.heap.size) :=
            ⟨0, _, Nat.zero_le _, rfl, rfl, Lib.hid (segs_none _ _), HA, HB, Lib.hid (Nat.le_of_eq hBs)⟩
          clear HA HR HD HB hBs
          go_wp2
          obtain ⟨wp, rfl⟩ : ∃ x : World, x = wr := ⟨_, rfl⟩
          go_loopw [12, 13] (fun sv iv wr => ∃ (i : Nat) (v : Value), i ≤ n ∧ sv = v ∧ iv = .int .i64 i ∧ Hid (SegsAt wr Bs v (outG L n i)) ∧ Hid (NatAt wr g n L) ∧ Hid (Below w.heap.size w wr) ∧ Hid (Bs ≤ wr.heap.size)) (fun _ iv _ => n - (intOf iv).toNat)
          case atStart => exact I
          case round =>
            clear I
            obtain ⟨i, v, hi, rfl, rfl, HS, HA, HB, HZ⟩ := hrel
            by_cases hlt : i < n
            · have i0 : (0 : Int) ≤ (i : Int) := Int.natCast_nonneg _
              have i1 : (i : Int) < (n : Int) := by omega
              obtain ⟨Av, cv, hv⟩ := segs_form HS.out
              subst hv
              obtain ⟨q, hq⟩ : ∃ q, q = (outG L n i).length := ⟨_, rfl⟩
              rw [← hq]
              have HQ := Lib.hid hq
              have hqn : q ≤ n := by
                rw [hq, outG_len]
                have := cnt_le L i
                omega
              clear hq
              obtain ⟨Bi, hBi⟩ : ∃ z, z = wr.heap.size := ⟨_, rfl⟩
              have HBi := Lib.hid hBi
              have I : ∃ (k : Nat) (s : Value), i ≤ k ∧ k ≤ n ∧ (Value.slice none 0 0) = s ∧ (Value.int .i64 i) = .int .i64 k ∧ Hid (wr.ownsRow Bi 3 1 s (rowF L i k).length (natV (rowF L i k))) ∧ Hid (Below Bi wr wr) := by
                refine ⟨i, _, Nat.le_refl _, hi, rfl, rfl, Lib.hid ?_, Lib.hid (Below.refl _ _)⟩
                rw [rowF_low i (fun j hj => by have := HL.out.le j (by omega); omega)]
                exact World.ownsRow_nil _ _ _ _
              clear hBi
              go_wp2
              obtain ⟨wq, rfl⟩ : ∃ x : World, x = wr := ⟨_, rfl⟩
              go_loopw [14, 15] (fun sv kv wr => ∃ (k : Nat) (s : Value), i ≤ k ∧ k ≤ n ∧ sv = s ∧ kv = .int .i64 k ∧ Hid (wr.ownsRow Bi 3 1 s (rowF L i k).length (natV (rowF L i k))) ∧ Hid (Below Bi wq wr)) (fun _ kv _ => n - (intOf kv).toNat)
              case atStart => exact I
              case round =>
                clear I
                obtain ⟨k, s, hik, hk, rfl, rfl, HO, HBB⟩ := hrel
                have HA2 : Hid (NatAt wr g n L) := Lib.hid (NatAt.below HA.out (by have := HBB.out; rw [HBi.out] at this; exact this))
                by_cases hltk : k < n
                · have k0 : (0 : Int) ≤ (k : Int) := Int.natCast_nonneg _
                  have k1 : (k : Int) < (n : Int) := by omega
                  have c4 : wr.cell? ⟨g, k, none⟩ = some (.int .i64 (L k)) := NatAt.cell HA2.out hltk
                  have l2 := NatAt.lt HA2.out
                  obtain ⟨As, cs, hsf⟩ := row_form HO.out
                  subst hsf
                  by_cases hc : L k = i
                  · have hle := rowF_len L i k
                    have HRow : Hid (rowF L i (k + 1) = rowF L i k ++ [k]) := Lib.hid (by rw [rowF, if_pos hc])
                    rw [hc] at c4
                    have hBw : Bi ≤ wr.heap.size := by have := HBB.out.size; rw [HBi.out]; exact this
                    obtain ⟨ls, hls⟩ : ∃ z, z = (rowF L i k).length := ⟨_, rfl⟩
                    rw [← hls] at hle ⊢
                    have HO2 : Hid (wr.ownsRow Bi 3 1 (.slice As ls cs) ls (natV (rowF L i k))) := Lib.hid (by rw [hls]; exact HO.out)
                    have HLS := Lib.hid hls
                    clear HO hc hls
                    go_wp2_with (at_builtin; refine wpList_append_lies _ rfl _ _ 41 rfl Bi 3 jj0 (.int .i64 0) 1 8 Try.underlying41 hI3.out hY0.out hY1.out hY2.out rfl (by decide) (.slice As ls cs) ls (natV (rowF L i k)) rfl (HO2.out.alloc _) ⟨wr.heap.size, 0, none⟩ 1 1 [.int .i64 (k : Int)] rfl rfl (World.news_of_block (cs := #[.int .i64 (k : Int)]) (t := 3) (fr := (0, 0)) (heap_alloc_new wr _)) (by simp [Value.oneCell']) (by decide) (by unfold maxLen; omega) (by omega) (by simp; omega) _ rfl ?_; intro gg cap1 w7 hown7 hgrow hat hlt7)
                    have HO7 : Hid (w7.ownsRow Bi 3 1 (.slice (some ⟨gg, 0, none⟩) (ls + 1) cap1) (rowF L i (k + 1)).length (natV (rowF L i (k + 1)))) := Lib.hid (by
                      rw [HRow.out, ← natV_snoc, List.length_append, ← HLS.out]
                      exact hown7)
                    have HB7 : Hid (Below Bi wq w7) := Lib.hid ((HBB.out.alloc hBw _).grown hgrow (by simp; omega) (fun k e => (HO2.out.lt k e).1))
                    clear hgrow hown7 hat hlt7 c4
                    go_roundw
                    case rel => exact ⟨k + 1, _, by omega, by omega, rfl, by go_num, HO7, HB7⟩
                    case measure => simp [intOf]; omega
                  · have HRow : Hid (rowF L i (k + 1) = rowF L i k) := Lib.hid (by rw [rowF, if_neg hc])
                    obtain ⟨pk, hpk⟩ : ∃ z : Int, z = (L k : Int) := ⟨_, rfl⟩
                    have hne : (pk == (i : Int)) = false := by
                      rw [beq_eq_false_iff_ne]
                      omega
                    rw [← hpk] at c4
                    clear hc hpk
                    have HO7 : Hid (wr.ownsRow Bi 3 1 (.slice As (rowF L i k).length cs) (rowF L i (k + 1)).length (natV (rowF L i (k + 1)))) := Lib.hid (by rw [HRow.out]; exact HO.out)
                    go_wp2
                    go_roundw
                    case rel => exact ⟨k + 1, _, by omega, by omega, rfl, by go_num, HO7, HBB⟩
                    case measure => simp [intOf]; omega
                · obtain rfl : k = n := by omega
                  have k1 : ¬ (k : Int) < (k : Int) := by omega
                  obtain ⟨As, cs, hsf⟩ := row_form HO.out
                  subst hsf
                  have hle := rowF_len L i k
                  have hBW : Below wq.heap.size wq wr := by have := HBB.out; rw [HBi.out] at this; exact this
                  have HS2 := Lib.hid (SegsAt.below HS.out hBW)
                  have HB2 : Hid (Below w.heap.size w wr) := Lib.hid (below_step HB.out hBW)
                  have hZB : Bs ≤ wr.heap.size := Nat.le_trans HZ.out hBW.size
                  by_cases hr : L i = i
                  · have hpos := rowF_pos (L := L) (r := i) k hlt hr
                    have HOut : Hid (outG L k (i + 1) = outG L k i ++ [rowF L i k]) := Lib.hid (by rw [outG, if_pos hr])
                    obtain ⟨ls, hls⟩ : ∃ z, z = (rowF L i k).length := ⟨_, rfl⟩
                    rw [← hls] at hle hpos ⊢
                    have HO2 : Hid (wr.ownsRow Bi 3 1 (.slice As ls cs) ls (natV (rowF L i k))) := Lib.hid (by rw [hls]; exact HO.out)
                    have HLS := Lib.hid hls
                    obtain ⟨xs0, s1, s2, s3, s4⟩ := HS.out
                    have HLow : Hid (∀ (a : Nat) x, xs0[a]? = some x → ∀ b, x.ownBlock = some b → b < Bi) := Lib.hid (fun a x hx b hb => by
                      have ha : a < (outG L k i).length := by rw [← s1]; exact (List.getElem?_eq_some_iff.1 hx).1
                      have := ((s3 a x _ hx (List.getElem?_eq_getElem ha)).lt b hb).2
                      rw [HBi.out]; exact this)
                    have keep : ∀ {e size u m ys}, wq.ownsRow Bs e size u m ys → wr.ownsRow Bs e size u m ys := fun {e size u m ys} ho => ho.kept (grown_of_below hBW) (Classical.em _)
                    have S1 := Lib.hid s1
                    have S2 := Lib.hid (keep s2)
                    have S3 : Hid (∀ (a : Nat) x r, xs0[a]? = some x → (outG L k i)[a]? = some r → wr.ownsRow Bs 3 1 x r.length (natV r)) := Lib.hid (fun a x r hx hr => keep (s3 a x r hx hr))
                    have S4 := Lib.hid s4
                    have hBB : Bs ≤ Bi := by rw [HBi.out]; exact HZ.out
                    clear s1 s2 s3 s4 HO hr hls keep HS HA
                    have q0 : (0 : Int) < (ls : Int) := by omega
                    go_wp2_with (at_builtin; refine wpList_append_lies _ rfl _ _ 50 rfl Bs 41 j0 (.slice none 0 0) 1 24 Try.underlying50 hI0.out hZ0.out hZ1.out hZ2.out rfl (by decide) (.slice Av q cv) q xs0 rfl (by have := S2.out; rw [← HQ.out] at this; exact this.alloc _) ⟨wr.heap.size, 0, none⟩ 1 1 [.slice As ls cs] rfl rfl (World.news_of_block (cs := #[.slice As ls cs]) (t := 41) (fr := (0, 0)) (heap_alloc_new wr _)) (by simp [Value.oneCell']) (by decide) (by unfold maxLen; omega) (by omega) (by simp; omega) _ rfl ?_; intro gg cap1 w7 hown7 hgrow hat hlt7)
                    have hlo' : ∀ k, (Value.slice Av q cv).ownBlock = some k → Bs ≤ k := fun k e => (S2.out.lt k (by rw [← HQ.out]; exact e)).1
                    rw [HQ.out] at hown7
                    have HS7 : Hid (SegsAt w7 Bs (.slice (some ⟨gg, 0, none⟩) (q + 1) cap1) (outG L k (i + 1))) := Lib.hid (by
                      rw [HOut.out, HQ.out]
                      exact SegsAt.pushRow (v := .slice Av (outG L k i).length cv) (x0 := .slice As ls cs) S1.out (S2.out.alloc (.cells #[.slice As ls cs] 41)) (fun a x r hx hr => (S3.out a x r hx hr).alloc _) S4.out
                        (by rw [← HLS.out]; exact (HO2.out.mono hBB).alloc _)
                        (fun a x hx => by
                          cases hb : x.ownBlock with
                          | none => exact Or.inl rfl
                          | some b =>
                            refine Or.inr fun he => ?_
                            have h1 := HLow.out a x hx b hb
                            have h2 := (HO2.out.lt b he.symm).1
                            omega) hown7 (by rw [← HQ.out]; exact hgrow))
                    have HA7 : Hid (NatAt w7 g k L) := Lib.hid (nat_row (HA2.out.alloc (.cells #[.slice As ls cs] 41)) hgrow hlo' hgB)
                    have HB7 : Hid (Below w.heap.size w w7) := Lib.hid ((HB2.out.alloc (by omega) (.cells #[.slice As ls cs] 41)).grown hgrow (by simp; omega) (fun k e => by have := hlo' k e; omega))
                    have HZ7 : Hid (Bs ≤ w7.heap.size) := Lib.hid (by have := hgrow.size; simp at this; omega)
                    clear hgrow hown7 hat hlt7
                    go_roundw
                    case rel => exact ⟨i + 1, _, by omega, rfl, by go_num, HS7, HA7, HB7, HZ7⟩
                    case measure => simp [intOf]; omega
                  · have HOut : Hid (outG L k (i + 1) = outG L k i) := Lib.hid (by rw [outG, if_neg hr])
                    have h0 : rowF L i k = [] := rowF_low k (fun j hj e => hr (by have := lab_root HL.out hj; rw [e] at this; exact this))
                    rw [h0]
                    have HS7 : Hid (SegsAt wr Bs (.slice Av q cv) (outG L k (i + 1))) := Lib.hid (by rw [HOut.out, HQ.out]; exact HS2.out)
                    go_wp2
                    go_roundw
                    case rel => exact ⟨i + 1, _, by omega, rfl, by go_num, HS7, HA2, HB2, Lib.hid hZB⟩
                    case measure => simp [intOf]; omega
            · obtain rfl : i = n := by omega
              have i1 : ¬ (i : Int) < (i : Int) := by omega
              have HE : Hid (rowsL L i = outG L i i) := Lib.hid (rowsL_outG (n := i) HL.out.le (fun k hk => lab_root HL.out hk) i (Nat.le_refl _))
              obtain ⟨Av, cv, hv⟩ := segs_form HS.out
              subst hv
              go_wp2
              exact bodyPost_ret (v := .tuple #[.slice Av (outG L i i).length cv, .int .i64 0]) (by simp [results, Try.results35, go_sem]) rfl ⟨L, _, HL.out, rfl, by rw [HE.out]; exact segs_mono HS.out hwB, HB.out⟩
end Go.Proofs.Ytaehfildhmljeaa

namespace Go.Proofs.Ytaehfildhmljeaa
open Go.RowKit Go.Shelf

/-- What error Segments returns. -/
def segE (n : Nat) (X Y V : Nat → Int) (gap : Int) : Int := if chkF n X Y V ≠ 0 then chkF n X Y V else if 0 ≤ gap ∧ gap ≤ 33554432 then 0 else 2
def SegAll (n : Nat) (X Y V : Nat → Int) (gap : Int) (w : World) (e : Ending) (w' : World) : Prop :=
  ∃ R v, e = .returned (.tuple #[v, .int .i64 (segE n X Y V gap)]) ∧ True ∧ Grps w' v R ∧ (segE n X Y V gap = 0 → ∃ L, Lab (lnkF X Y gap) n L ∧ R = rowsL L n) ∧ (segE n X Y V gap ≠ 0 → R = []) ∧ Below w.heap.size w w'
theorem SegAll.nil {n : Nat} {X Y V : Nat → Int} {gap z : Int} {w w' : World} (h : segE n X Y V gap = z) (hz : z ≠ 0) (hb : Below w.heap.size w w') : SegAll n X Y V gap w (.returned (.tuple #[.slice none 0 0, .int .i64 z])) w' :=
  ⟨[], _, by rw [h], trivial, ⟨w'.heap.size, segs_none _ _⟩, fun e => absurd (h.symm.trans e) hz, fun _ => rfl, hb⟩

set_option maxHeartbeats 4000000 in
theorem segments_any (A : Option Addr) (n cap : Nat) (X Y V : Nat → Int) (gap : Int) (hc : n ≤ cap) (w : World) (hcl : Cloud w A n X Y V) :
    Calls Try.prog 34 #[.slice A n cap, .int .i64 gap] w (SegAll n X Y V gap w) := by
  have HK := Lib.hid (check_any A n cap X Y V w hcl)
  by_cases hok : chkF n X Y V = 0
  · by_cases h : 0 ≤ gap ∧ gap ≤ 33554432
    · refine (segments_good A n cap X Y V gap hok h.1 h.2 hc w hcl).mono ?_
      rintro e w' ⟨L, v, h1, rfl, h3, h4⟩
      have he : segE n X Y V gap = 0 := by unfold segE; rw [hok, if_neg (by simp), if_pos h]
      exact ⟨rowsL L n, v, by rw [he], trivial, ⟨w.heap.size, h3⟩, fun _ => ⟨L, h1, rfl⟩, fun hh => absurd he hh, h4⟩
    · have HE : Hid (segE n X Y V gap = 2) := Lib.hid (by unfold segE; rw [hok, if_neg (by simp), if_neg h])
      rw [hok] at HK
      by_cases h0 : gap < 0
      · clear hok h hcl
        go_enter Try.func34, Try.ntmps34
        go_wp2_with (go_at_call 22; (with_reducible refine HK.out.mono ?_); rintro e w1 ⟨rfl, hb1⟩)
        exact bodyPost_ret (v := .tuple #[.slice none 0 0, .int .i64 2]) (by simp [results, Try.results34, go_sem]) rfl (SegAll.nil HE.out (by decide) hb1)
      · have h1 : 33554432 < gap := by omega
        clear hok h hcl
        go_enter Try.func34, Try.ntmps34
        go_wp2_with (go_at_call 22; (with_reducible refine HK.out.mono ?_); rintro e w1 ⟨rfl, hb1⟩)
        exact bodyPost_ret (v := .tuple #[.slice none 0 0, .int .i64 2]) (by simp [results, Try.results34, go_sem]) rfl (SegAll.nil HE.out (by decide) hb1)
  · have HE : Hid (segE n X Y V gap = chkF n X Y V) := Lib.hid (by unfold segE; rw [if_pos hok])
    obtain ⟨z, hz⟩ : ∃ z, z = chkF n X Y V := ⟨_, rfl⟩
    rw [← hz] at HK HE hok
    have HZ := Lib.hid hok
    clear hcl hz
    go_enter Try.func34, Try.ntmps34
    go_wp2_with (go_at_call 22; (with_reducible refine HK.out.mono ?_); rintro e w1 ⟨rfl, hb1⟩)
    exact bodyPost_ret (v := .tuple #[.slice none 0 0, .int .i64 z]) (by simp [results, Try.results34, go_sem]) rfl (SegAll.nil HE.out HZ.out hb1)

set_option maxHeartbeats 4000000 in
theorem rsegments_any (A : Option Addr) (n cap : Nat) (X Y V : Nat → Int) (gap : Int) (w : World) (hcl : Cloud w A n X Y V) :
    Calls Try.prog 35 #[.slice A n cap, .int .i64 gap] w (SegAll n X Y V gap w) := by
  have HK := Lib.hid (rcheck_any A n cap X Y V w hcl)
  by_cases hok : chkF n X Y V = 0
  · by_cases h : 0 ≤ gap ∧ gap ≤ 33554432
    · refine (rsegments_good A n cap X Y V gap hok h.1 h.2 w hcl).mono ?_
      rintro e w' ⟨L, v, h1, rfl, h3, h4⟩
      have he : segE n X Y V gap = 0 := by unfold segE; rw [hok, if_neg (by simp), if_pos h]
      exact ⟨rowsL L n, v, by rw [he], trivial, ⟨w.heap.size, h3⟩, fun _ => ⟨L, h1, rfl⟩, fun hh => absurd he hh, h4⟩
    · have HE : Hid (segE n X Y V gap = 2) := Lib.hid (by unfold segE; rw [hok, if_neg (by simp), if_neg h])
      rw [hok] at HK
      by_cases h0 : gap < 0
      · clear hok h hcl
        go_enter Try.func35, Try.ntmps35
        go_wp2_with (go_at_call 23; (with_reducible refine HK.out.mono ?_); rintro e w1 ⟨rfl, hb1⟩)
        exact bodyPost_ret (v := .tuple #[.slice none 0 0, .int .i64 2]) (by simp [results, Try.results35, go_sem]) rfl (SegAll.nil HE.out (by decide) hb1)
      · have h1 : 33554432 < gap := by omega
        clear hok h hcl
        go_enter Try.func35, Try.ntmps35
        go_wp2_with (go_at_call 23; (with_reducible refine HK.out.mono ?_); rintro e w1 ⟨rfl, hb1⟩)
        exact bodyPost_ret (v := .tuple #[.slice none 0 0, .int .i64 2]) (by simp [results, Try.results35, go_sem]) rfl (SegAll.nil HE.out (by decide) hb1)
  · have HE : Hid (segE n X Y V gap = chkF n X Y V) := Lib.hid (by unfold segE; rw [if_pos hok])
    obtain ⟨z, hz⟩ : ∃ z, z = chkF n X Y V := ⟨_, rfl⟩
    rw [← hz] at HK HE hok
    have HZ := Lib.hid hok
    clear hcl hz
    go_enter Try.func35, Try.ntmps35
    go_wp2_with (go_at_call 23; (with_reducible refine HK.out.mono ?_); rintro e w1 ⟨rfl, hb1⟩)
    exact bodyPost_ret (v := .tuple #[.slice none 0 0, .int .i64 z]) (by simp [results, Try.results35, go_sem]) rfl (SegAll.nil HE.out HZ.out hb1)

theorem lab_rows {lnk : Nat → Nat → Bool} {n : Nat} {L L' : Nat → Nat} (h : Lab lnk n L) (h' : Lab lnk n L') : rowsL L n = rowsL L' n :=
  rowsL_ext (fun _ hk => h.uniq h' hk) h.le
/-- Both have the same rows. -/
theorem segs_same {n : Nat} {X Y V : Nat → Int} {gap : Int} {R R' : List (List Nat)} (h1 : segE n X Y V gap = 0 → ∃ L, Lab (lnkF X Y gap) n L ∧ R = rowsL L n) (h2 : segE n X Y V gap ≠ 0 → R = [])
    (h3 : segE n X Y V gap = 0 → ∃ L, Lab (lnkF X Y gap) n L ∧ R' = rowsL L n) (h4 : segE n X Y V gap ≠ 0 → R' = []) : R = R' := by
  by_cases h : segE n X Y V gap = 0
  · obtain ⟨L, a, rfl⟩ := h1 h
    obtain ⟨L', a', rfl⟩ := h3 h
    exact lab_rows a a'
  · rw [h2 h, h4 h]
theorem segs_bd {n : Nat} {X Y V : Nat → Int} {gap : Int} {R : List (List Nat)} (hn : n ≤ 1000000) (h1 : segE n X Y V gap = 0 → ∃ L, Lab (lnkF X Y gap) n L ∧ R = rowsL L n) (h2 : segE n X Y V gap ≠ 0 → R = []) :
    R.length ≤ 1000000 ∧ ∀ k (h : k < R.length), R[k].length ≤ 1000000 := by
  by_cases h : segE n X Y V gap = 0
  · obtain ⟨L, a, rfl⟩ := h1 h
    refine ⟨?_, fun k hk => ?_⟩
    · rw [rowsL_len]
      exact Nat.le_trans (cnt_le L n) hn
    · exact Nat.le_trans (rowsL_bd L n k _ (List.getElem?_eq_getElem hk)) hn
  · rw [h2 h]
    exact ⟨Nat.zero_le _, fun k hk => by simp at hk⟩
end Go.Proofs.Ytaehfildhmljeaa
