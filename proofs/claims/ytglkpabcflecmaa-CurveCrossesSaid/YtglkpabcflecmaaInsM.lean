/- A spot that two corridors hold keeps them together: plain mathematics for the law CurveInside. -/
import Derived.Test.YtglkpabcflecmaaCoD
import Derived.Test.YtglkpabcflecmaaNear
import Derived.Test.YtglkpabcflecmaaHold
namespace Go.Proofs.Ytglkpabcflecmaa

theorem srch_le {p : Nat → Bool} {m : Nat} : ∀ (f i j : Nat), j - i ≤ f → i ≤ m → (∀ k, m ≤ k → k < j → p k = true) → srch p i j ≤ m := by
  intro f
  induction f with
  | zero => intro i j h1 h2 _; rw [srch_end (by omega)]; exact h2
  | succ f ih =>
    intro i j h1 h2 h3
    by_cases h : i < j
    · cases hp : p ((i + j) / 2) with
      | true => rw [srch_yes h hp]; exact ih i _ (by omega) h2 (fun k k1 k2 => h3 k k1 (by omega))
      | false =>
        have hm : (i + j) / 2 < m := by
          rcases Nat.lt_or_ge ((i + j) / 2) m with h4 | h4
          · exact h4
          · rw [h3 _ h4 (by omega)] at hp; cases hp
        rw [srch_no h hp]
        exact ih _ j (by omega) (by omega) h3
    · rw [srch_end (by omega)]; exact h2
theorem cauchy' {u v x y L R : Int} (hL : 0 ≤ L) (hR : 0 ≤ R) (h1 : u * u + v * v ≤ L * L) (h2 : x * x + y * y ≤ R * R) : -(L * R) ≤ u * x + v * y ∧ u * x + v * y ≤ L * R := by
  refine abs_of_sq (Int.mul_nonneg hL hR) ?_
  have e1 : (u * x + v * y) * (u * x + v * y) + (u * y - v * x) * (u * y - v * x) = (u * u + v * v) * (x * x + y * y) := by grind
  have e2 := sq_nonneg' (u * y - v * x)
  have e0 : 0 ≤ u * u + v * v := by have := sq_nonneg' u; have := sq_nonneg' v; omega
  have e3 : (u * u + v * v) * (x * x + y * y) ≤ (u * u + v * v) * (R * R) := Int.mul_le_mul_of_nonneg_left h2 e0
  have e4 : (u * u + v * v) * (R * R) ≤ L * L * (R * R) := Int.mul_le_mul_of_nonneg_right h1 (sq_nonneg' R)
  have e5 : L * L * (R * R) = L * R * (L * R) := by grind
  omega
theorem mul_between {t lo hi l f : Int} (hl : 0 ≤ l) (h1 : lo * l ≤ f) (h2 : f ≤ hi * l) : l * min (t * lo) (t * hi) ≤ f * t ∧ f * t ≤ l * max (t * lo) (t * hi) := by
  have m1 := Int.mul_le_mul_of_nonneg_left (Int.min_le_left (t * lo) (t * hi)) hl
  have m2 := Int.mul_le_mul_of_nonneg_left (Int.min_le_right (t * lo) (t * hi)) hl
  have m3 := Int.mul_le_mul_of_nonneg_left (Int.le_max_left (t * lo) (t * hi)) hl
  have m4 := Int.mul_le_mul_of_nonneg_left (Int.le_max_right (t * lo) (t * hi)) hl
  have e1 : lo * l * t = l * (t * lo) := by grind
  have e2 : hi * l * t = l * (t * hi) := by grind
  rcases Int.le_total 0 t with h | h
  · have a1 := Int.mul_le_mul_of_nonneg_right h1 h
    have a2 := Int.mul_le_mul_of_nonneg_right h2 h
    omega
  · have a1 := Int.mul_le_mul_of_nonpos_right h1 h
    have a2 := Int.mul_le_mul_of_nonpos_right h2 h
    omega

namespace Cor
/-- How far a spot is along an axis, times the length. -/
def ft (A : Cor) (a b : Int) (i : Nat) : Int := A.ax i * (a - A.x) + A.ay i * (b - A.y)
/-- The part of the corridor holds the spot. -/
def Has (A : Cor) (a b : Int) : Prop := ∀ i, i < 2 → A.lo i * A.l ≤ A.ft a b i ∧ A.ft a b i ≤ A.hi i * A.l
theorem has_sep {A B : Cor} (_hA : A.Ok) (hB : B.Ok) {a b : Int} (h1 : A.Has a b) (h2 : B.Has a b) {i : Nat} (hi : i < 2) : sepI A B i = false := by
  obtain ⟨a1, a2⟩ := h1 i hi
  obtain ⟨b1, b2⟩ := h2 0 (by omega)
  obtain ⟨c1, c2⟩ := h2 1 (by omega)
  have key : A.ft a b i * (B.l * B.l) = base A B (A.ax i) (A.ay i) * B.l + B.ft a b 0 * tn (A.ax i) (A.ay i) B 0 + B.ft a b 1 * tn (A.ax i) (A.ay i) B 1 := by
    have hs := hB.sq
    have x0 : B.ax 0 = B.p := rfl
    have y0 : B.ay 0 = B.q := rfl
    have x1 : B.ax 1 = -B.q := rfl
    have y1 : B.ay 1 = B.p := rfl
    unfold ft base tn
    rw [x0, y0, x1, y1]
    generalize A.ax i = u
    generalize A.ay i = v
    grind
  have l0 : 0 ≤ B.l := by have := hB.l0; omega
  obtain ⟨d1, d2⟩ := mul_between (t := tn (A.ax i) (A.ay i) B 0) l0 b1 b2
  obtain ⟨e1, e2⟩ := mul_between (t := tn (A.ax i) (A.ay i) B 1) l0 c1 c2
  have hh : highK A B (A.ax i) (A.ay i) 2 = base A B (A.ax i) (A.ay i) + max (tn (A.ax i) (A.ay i) B 0 * B.lo 0) (tn (A.ax i) (A.ay i) B 0 * B.hi 0) + max (tn (A.ax i) (A.ay i) B 1 * B.lo 1) (tn (A.ax i) (A.ay i) B 1 * B.hi 1) := rfl
  have hl : lowK A B (A.ax i) (A.ay i) 2 = base A B (A.ax i) (A.ay i) + min (tn (A.ax i) (A.ay i) B 0 * B.lo 0) (tn (A.ax i) (A.ay i) B 0 * B.hi 0) + min (tn (A.ax i) (A.ay i) B 1 * B.lo 1) (tn (A.ax i) (A.ay i) B 1 * B.hi 1) := rfl
  have f1 := Int.mul_le_mul_of_nonneg_right a1 (Int.mul_nonneg l0 l0)
  have f2 := Int.mul_le_mul_of_nonneg_right a2 (Int.mul_nonneg l0 l0)
  have g1 : B.l * (A.lo i * (A.l * B.l)) ≤ B.l * highK A B (A.ax i) (A.ay i) 2 := by
    rw [hh, Int.mul_add, Int.mul_add]
    have q1 : B.l * (A.lo i * (A.l * B.l)) = A.lo i * A.l * (B.l * B.l) := by grind
    have q2 : B.l * base A B (A.ax i) (A.ay i) = base A B (A.ax i) (A.ay i) * B.l := Int.mul_comm _ _
    omega
  have g2 : B.l * lowK A B (A.ax i) (A.ay i) 2 ≤ B.l * (A.hi i * (A.l * B.l)) := by
    rw [hl, Int.mul_add, Int.mul_add]
    have q1 : B.l * (A.hi i * (A.l * B.l)) = A.hi i * A.l * (B.l * B.l) := by grind
    have q2 : B.l * base A B (A.ax i) (A.ay i) = base A B (A.ax i) (A.ay i) * B.l := Int.mul_comm _ _
    omega
  have l1 : 0 < B.l := by have := hB.l0; omega
  have k1 := Int.le_of_mul_le_mul_left g1 l1
  have k2 := Int.le_of_mul_le_mul_left g2 l1
  unfold sepI
  rw [decide_eq_false (by omega), decide_eq_false (by omega)]
  rfl
theorem has_near {A : Cor} (hA : A.Ok) {a b : Int} (h : A.Has a b) : (a - A.x) * (a - A.x) + (b - A.y) * (b - A.y) ≤ (A.l + A.h) * (A.l + A.h) := by
  obtain ⟨b1, b2⟩ := h 0 (by omega)
  obtain ⟨c1, c2⟩ := h 1 (by omega)
  have l0 := hA.l0
  have h0 := hA.h0
  have e1 : 0 ≤ A.lo 0 * A.l := Int.mul_nonneg hA.a0 (by omega)
  have e2 : A.hi 0 * A.l ≤ A.l * A.l := Int.mul_le_mul_of_nonneg_right hA.b1 (by omega)
  have e3 : A.lo 1 * A.l = -(A.h * A.l) := Int.neg_mul _ _
  have e4 : A.hi 1 * A.l = A.h * A.l := rfl
  have s1 : A.ft a b 0 * A.ft a b 0 ≤ A.l * A.l * (A.l * A.l) := Int.mul_le_mul (by omega) (by omega) (by omega) (sq_nonneg' _)
  have s2 : A.ft a b 1 * A.ft a b 1 ≤ A.h * A.l * (A.h * A.l) := by
    have := mul_bd (t := A.ft a b 1) (c := A.ft a b 1) (M := A.h * A.l) (K := A.h * A.l) (by omega) (by omega) (by omega) (by omega)
    exact this.2
  have e : A.ft a b 0 * A.ft a b 0 + A.ft a b 1 * A.ft a b 1 = A.l * A.l * ((a - A.x) * (a - A.x) + (b - A.y) * (b - A.y)) := by
    rw [← hA.sq]
    show (A.p * (a - A.x) + A.q * (b - A.y)) * (A.p * (a - A.x) + A.q * (b - A.y)) + (-A.q * (a - A.x) + A.p * (b - A.y)) * (-A.q * (a - A.x) + A.p * (b - A.y)) = _
    grind
  have f : A.l * A.l * (A.l * A.l) + A.h * A.l * (A.h * A.l) = A.l * A.l * (A.l * A.l + A.h * A.h) := by grind
  have k : (a - A.x) * (a - A.x) + (b - A.y) * (b - A.y) ≤ A.l * A.l + A.h * A.h := Int.le_of_mul_le_mul_left (a := A.l * A.l) (by omega) (Int.mul_pos (by omega) (by omega))
  have z := Int.mul_nonneg (show 0 ≤ A.l by omega) h0
  have g : (A.l + A.h) * (A.l + A.h) = A.l * A.l + A.h * A.h + A.l * A.h + A.l * A.h := by grind
  omega
theorem has_far {A B : Cor} (hA : A.Ok) (hB : B.Ok) {a b : Int} (h1 : A.Has a b) (h2 : B.Has a b) : farB A B = false := by
  have n1 := has_near hA h1
  have n2 := has_near hB h2
  have l0 := hA.l0
  have h0 := hA.h0
  have l1 := hB.l0
  have h1' := hB.h0
  obtain ⟨c1, c2⟩ := cauchy' (show 0 ≤ A.l + A.h by omega) (show 0 ≤ B.l + B.h by omega) n1 n2
  unfold farB
  refine decide_eq_false ?_
  have e : d2 A B = (a - A.x) * (a - A.x) + (b - A.y) * (b - A.y) + ((a - B.x) * (a - B.x) + (b - B.y) * (b - B.y)) - 2 * ((a - A.x) * (a - B.x) + (b - A.y) * (b - B.y)) := by unfold d2; grind
  have f : reach A B * reach A B = (A.l + A.h) * (A.l + A.h) + (B.l + B.h) * (B.l + B.h) + 2 * ((A.l + A.h) * (B.l + B.h)) := by unfold reach; grind
  omega
theorem has_meet {A B : Cor} (hA : A.Ok) (hB : B.Ok) {a b : Int} (h1 : A.Has a b) (h2 : B.Has a b) : meetB A B = true := by
  unfold meetB sepB
  rw [has_far hA hB h1 h2, has_sep hA hB h1 h2 (show 0 < 2 by omega), has_sep hA hB h1 h2 (show 1 < 2 by omega), has_sep hB hA h2 h1 (show 0 < 2 by omega), has_sep hB hA h2 h1 (show 1 < 2 by omega)]
  rfl
theorem cut_has {A : Cor} {a b s t : Int} (h1 : s * A.l ≤ A.ft a b 0) (h2 : A.ft a b 0 ≤ t * A.l) (h3 : A.lo 1 * A.l ≤ A.ft a b 1) (h4 : A.ft a b 1 ≤ A.hi 1 * A.l) : (A.cut s t).Has a b := by
  intro i hi
  have : i = 0 ∨ i = 1 := by omega
  rcases this with rfl | rfl
  · exact ⟨h1, h2⟩
  · exact ⟨h3, h4⟩
/-- The foot of a spot that both hold lies within what they have in common. -/
theorem foot_common {A B : Cor} (hA : A.Ok) (hB : B.Ok) {a b : Int} (g1 : 0 ≤ A.ft a b 0) (g2 : A.ft a b 0 ≤ A.l * A.l) (g3 : A.lo 1 * A.l ≤ A.ft a b 1) (g4 : A.ft a b 1 ≤ A.hi 1 * A.l) (h2 : B.Has a b) :
    cFrom A B ≤ A.s + A.ft a b 0 / A.l ∧ A.s + A.ft a b 0 / A.l ≤ cTo A B := by
  have l0 := hA.l0
  have hn := n_eq hA
  have d1 := Int.mul_ediv_add_emod (A.ft a b 0) A.l
  have d2 := Int.emod_nonneg (A.ft a b 0) (show A.l ≠ 0 by omega)
  have d3 := Int.emod_lt_of_pos (A.ft a b 0) (show 0 < A.l by omega)
  have d4 : 0 ≤ A.ft a b 0 / A.l := Int.ediv_nonneg g1 (by omega)
  have d5 : A.ft a b 0 / A.l ≤ A.l := by
    have := Int.ediv_le_ediv (show 0 < A.l by omega) g2
    rwa [Int.mul_ediv_cancel _ (by omega)] at this
  generalize A.ft a b 0 / A.l = x at *
  have e1 : fromN A B ≤ x.toNat + 1 := by
    refine srch_le _ 0 A.n (Nat.le_refl _) (by omega) (fun k k1 k2 => ?_)
    have kl : (k : Int) ≤ A.l := by omega
    have kx : x + 1 ≤ (k : Int) := by omega
    have m := Int.mul_le_mul_of_nonneg_right kx (show 0 ≤ A.l by omega)
    have m2 : (x + 1) * A.l = A.l * x + A.l := by grind
    exact has_meet (hA.cut (Int.le_refl _) (by omega) (by omega) kl) hB (cut_has (by omega) (by omega) g3 g4) h2
  have e2 : cutN A B ≤ (A.l - x).toNat := by
    refine srch_le _ 0 A.n (Nat.le_refl _) (by omega) (fun k k1 k2 => ?_)
    have kl : (k : Int) ≤ A.l := by omega
    have kx : A.l - (k : Int) ≤ x := by omega
    have m := Int.mul_le_mul_of_nonneg_right kx (show 0 ≤ A.l by omega)
    have m2 : x * A.l = A.l * x := Int.mul_comm _ _
    exact has_meet (hA.cut (s := A.l - (k : Int)) (t := A.l) (by omega) (by omega) (by omega) (Int.le_refl _)) hB (cut_has (by omega) (by omega) g3 g4) h2
  unfold cFrom cTo
  omega
end Cor

/-- What 'holds' says of a piece, for its corridor. -/
theorem held_has {c : Crv} {p q h : Int} {i : Nat} (hh : holdB c p q h i = true) :
    0 ≤ (corAt c h i).ft p q 0 ∧ (corAt c h i).ft p q 0 ≤ (corAt c h i).l * (corAt c h i).l ∧ (corAt c h i).lo 1 * (corAt c h i).l ≤ (corAt c h i).ft p q 1 ∧ (corAt c h i).ft p q 1 ≤ (corAt c h i).hi 1 * (corAt c h i).l := by
  unfold holdB distI at hh
  simp only [Bool.and_eq_true, decide_eq_true_eq] at hh
  obtain ⟨⟨h1, h2⟩, h3⟩ := hh
  have e1 : (corAt c h i).ft p q 0 = footI c p q i := rfl
  have e2 : (corAt c h i).ft p q 1 = sideI c p q i := by
    show -c.wy i * (p - c.X i) + c.wx i * (q - c.Y i) = c.wx i * (q - c.Y i) - c.wy i * (p - c.X i)
    rw [Int.neg_mul]; omega
  have e3 : (corAt c h i).lo 1 * (corAt c h i).l = -(h * c.len i) := Int.neg_mul _ _
  have e4 : (corAt c h i).hi 1 * (corAt c h i).l = h * c.len i := rfl
  rw [e1, e2, e3, e4]
  exact ⟨h1, h2, by omega, by omega⟩
theorem one_len {c d : Crv} (ha hb : Int) (nc : c.n = 2) (nd : d.n = 2) : (crsF c d ha hb).length ≤ 1 := by
  unfold crsF
  split
  · have := outerL_len (corAt c ha) (corAt d hb) (d.n - 1) (c.n - 1)
    rw [nc, nd] at this
    unfold crossL
    rw [nc, nd]
    omega
  · simp
theorem near_held {c : Crv} (g : Good c) (nc : c.n = 2) {p q h : Int} (hh : holdF c p q h = true) : nearF c p q h = [c.st 0 + footI c p q 0 / c.len 0] ∧ holdB c p q h 0 = true ∧ 0 ≤ h ∧ h ≤ 4000 := by
  unfold holdF at hh
  split at hh
  · rename_i hc
    obtain ⟨_, ⟨o1, o2⟩, h0, h1⟩ := hc
    have hb : holdB c p q h 0 = true := by
      rw [nc] at hh
      simpa [holdL] using hh
    obtain ⟨l0, l1, l2⟩ := g.len (i := 0) (by omega)
    have hb0 := hb
    unfold holdB at hb
    simp only [Bool.and_eq_true, decide_eq_true_eq] at hb
    obtain ⟨⟨h2, h3⟩, h4⟩ := hb
    have hl := Int.mul_nonneg h0 (show 0 ≤ c.len 0 by omega)
    have n1 : nearB c p q h 0 = true := by
      unfold nearB besideB
      have m1 : -h * c.len 0 = -(h * c.len 0) := Int.neg_mul _ _
      have m2 : (c.len 0 + h) * c.len 0 = c.len 0 * c.len 0 + h * c.len 0 := Int.add_mul _ _ _
      rw [decide_eq_true (by omega), decide_eq_true (by omega), decide_eq_true h4]
      rfl
    refine ⟨?_, hb0, h0, h1⟩
    unfold nearF
    rw [if_pos ⟨of_good g, ⟨o1, o2⟩, h0, by omega⟩, nc]
    show [] ++ (if nearB c p q h 0 then [offI c p q 0] else []) = _
    rw [if_pos n1]
    unfold offI
    have d4 : 0 ≤ footI c p q 0 / c.len 0 := Int.ediv_nonneg h2 (by omega)
    have d5 : footI c p q 0 / c.len 0 ≤ c.len 0 := by
      have := Int.ediv_le_ediv (show 0 < c.len 0 by omega) h3
      rwa [Int.mul_ediv_cancel _ (by omega)] at this
    rw [Int.max_eq_left d4, Int.min_eq_left d5]
    rfl
  · cases hh
/-- **A spot that both hold: one cross, and its feet lie within it.** -/
theorem inside_math {c d : Crv} (gc : Good c) (gd : Good d) (nc : c.n = 2) (nd : d.n = 2) {ha hb p q : Int} (h1 : holdF c p q ha = true) (h2 : holdF d p q hb = true) :
    ∃ Q x y, crsF c d ha hb = [Q] ∧ nearF c p q ha = [x] ∧ nearF d p q hb = [y] ∧ (Q.fa ≤ x ∧ x ≤ Q.ta) ∧ Q.fb ≤ y ∧ y ≤ Q.tb := by
  obtain ⟨e1, b1, a0, a1⟩ := near_held gc nc h1
  obtain ⟨e2, b2, c0, c1⟩ := near_held gd nd h2
  have oA := corAt_ok gc a0 a1 (i := 0) (by omega)
  have oB := corAt_ok gd c0 c1 (i := 0) (by omega)
  obtain ⟨f1, f2, f3, f4⟩ := held_has b1
  obtain ⟨g1, g2, g3, g4⟩ := held_has b2
  have hA : (corAt c ha 0).Has p q := Cor.cut_has (A := corAt c ha 0) (s := 0) (t := (corAt c ha 0).l) (by omega) f2 f3 f4
  have hB : (corAt d hb 0).Has p q := Cor.cut_has (A := corAt d hb 0) (s := 0) (t := (corAt d hb 0).l) (by omega) g2 g3 g4
  have k1 := Cor.foot_common oA oB f1 f2 f3 f4 hB
  have k2 := Cor.foot_common oB oA g1 g2 g3 g4 hA
  refine ⟨crossQ (corAt c ha 0) (corAt d hb 0), _, _, ?_, e1, e2, k1, k2⟩
  unfold crsF
  rw [if_pos ⟨of_good gc, of_good gd, ⟨a0, a1⟩, c0, c1⟩]
  unfold crossL
  rw [nc, nd]
  show [] ++ ([] ++ crossOf (corAt c ha 0) (corAt d hb 0)) = _
  rw [crossOf_yes (Cor.has_meet oA oB hA hB)]
  rfl
end Go.Proofs.Ytglkpabcflecmaa
