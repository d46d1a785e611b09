/- Plain mathematics of corridors that come together: exchanged, wider, and which offsets; for the law CurveCrosses. -/
import Derived.Test.YtglkpabcflecmaaInsM
namespace Go.Proofs.Ytglkpabcflecmaa
namespace Cor
theorem meet_sym (A B : Cor) : meetB A B = meetB B A := by
  unfold meetB
  rw [far_sym A B]
  cases farB B A <;> cases sepB A B <;> cases sepB B A <;> rfl

/-- One corridor within another one over the same piece. -/
structure Sub (A C : Cor) : Prop where
  x : C.x = A.x
  y : C.y = A.y
  p : C.p = A.p
  q : C.q = A.q
  l : C.l = A.l
  s : C.s = A.s
  h : A.h ≤ C.h
  a : C.a ≤ A.a
  b : A.b ≤ C.b
  ab : A.a ≤ A.b
  h0 : 0 ≤ A.h
  l0 : 0 ≤ A.l
theorem mm_mono {t lo hi lo' hi' : Int} (h1 : lo' ≤ lo) (h2 : lo ≤ hi) (h3 : hi ≤ hi') : max (t * lo) (t * hi) ≤ max (t * lo') (t * hi') ∧ min (t * lo') (t * hi') ≤ min (t * lo) (t * hi) := by
  rcases Int.le_total 0 t with h | h
  · have a1 := Int.mul_le_mul_of_nonneg_left h1 h
    have a2 := Int.mul_le_mul_of_nonneg_left h2 h
    have a3 := Int.mul_le_mul_of_nonneg_left h3 h
    omega
  · have a1 := Int.mul_le_mul_of_nonpos_left h h1
    have a2 := Int.mul_le_mul_of_nonpos_left h h2
    have a3 := Int.mul_le_mul_of_nonpos_left h h3
    omega
theorem Sub.lohi {A C : Cor} (h : Sub A C) (i : Nat) : C.lo i ≤ A.lo i ∧ A.lo i ≤ A.hi i ∧ A.hi i ≤ C.hi i := by
  obtain ⟨_, _, _, _, _, _, h1, h2, h3, h4, h5, _⟩ := h
  unfold lo hi
  split <;> omega
theorem Sub.axes {A C : Cor} (h : Sub A C) (i : Nat) : C.ax i = A.ax i ∧ C.ay i = A.ay i := by
  unfold ax ay
  rw [h.p, h.q]
  exact ⟨rfl, rfl⟩
theorem Sub.tn {A C : Cor} (h : Sub A C) (u v : Int) (j : Nat) : Cor.tn u v C j = Cor.tn u v A j := by
  unfold Cor.tn
  rw [(h.axes j).1, (h.axes j).2]
theorem Sub.mnmx {A C : Cor} (h : Sub A C) (u v : Int) (j : Nat) : mx u v A j ≤ mx u v C j ∧ mn u v C j ≤ mn u v A j := by
  unfold mx mn
  rw [h.tn u v j]
  obtain ⟨h1, h2, h3⟩ := h.lohi j
  exact mm_mono h1 h2 h3
theorem Sub.high {A C B D : Cor} (h1 : Sub A C) (h2 : Sub B D) (u v : Int) : highK A B u v 2 ≤ highK C D u v 2 ∧ lowK C D u v 2 ≤ lowK A B u v 2 := by
  have m0 := h2.mnmx u v 0
  have m1 := h2.mnmx u v 1
  have e : base C D u v = base A B u v := by unfold base; rw [h1.x, h1.y, h2.x, h2.y, h2.l]
  simp only [highK, lowK]
  omega
theorem Sub.sepI {A C B D : Cor} (h1 : Sub A C) (h2 : Sub B D) (i : Nat) (h : Cor.sepI A B i = false) : Cor.sepI C D i = false := by
  unfold Cor.sepI at *
  rw [(h1.axes i).1, (h1.axes i).2, h1.l, h2.l]
  obtain ⟨a1, a2⟩ := h1.high h2 (A.ax i) (A.ay i)
  obtain ⟨b1, b2, b3⟩ := h1.lohi i
  have ll : 0 ≤ A.l * B.l := Int.mul_nonneg h1.l0 h2.l0
  have c1 := Int.mul_le_mul_of_nonneg_right b1 ll
  have c2 := Int.mul_le_mul_of_nonneg_right b3 ll
  simp only [Bool.or_eq_false_iff, decide_eq_false_iff_not] at *
  omega
/-- **Wider corridors meet, if narrower ones do.** -/
theorem Sub.meet {A C B D : Cor} (h1 : Sub A C) (h2 : Sub B D) (h : meetB A B = true) : meetB C D = true := by
  unfold meetB sepB at *
  simp only [Bool.and_eq_true, Bool.not_eq_true', Bool.or_eq_false_iff] at *
  obtain ⟨f, ⟨s0, s1⟩, t0, t1⟩ := h
  refine ⟨?_, ⟨h1.sepI h2 0 s0, h1.sepI h2 1 s1⟩, h2.sepI h1 0 t0, h2.sepI h1 1 t1⟩
  unfold farB at *
  simp only [decide_eq_false_iff_not] at *
  have e : d2 C D = d2 A B := by unfold d2; rw [h1.x, h1.y, h2.x, h2.y]
  have r : reach A B ≤ reach C D := by
    have := h1.h
    have := h2.h
    unfold reach
    rw [h1.l, h2.l]
    omega
  have r0 : 0 ≤ reach A B := by
    have := h1.h0
    have := h2.h0
    have := h1.l0
    have := h2.l0
    unfold reach
    omega
  have m := Int.mul_le_mul r r r0 (by omega)
  omega
theorem Sub.cut {A C : Cor} (h : Sub A C) {s t s' t' : Int} (h1 : s' ≤ s) (h2 : s ≤ t) (h3 : t ≤ t') : Sub (A.cut s t) (C.cut s' t') :=
  ⟨h.x, h.y, h.p, h.q, h.l, h.s, h.h, h1, h3, h2, h.h0, h.l0⟩
theorem Sub.refl {A : Cor} (hA : A.Ok) (h : A.a ≤ A.b) : Sub A A := ⟨rfl, rfl, rfl, rfl, rfl, rfl, Int.le_refl _, Int.le_refl _, Int.le_refl _, h, hA.h0, by have := hA.l0; omega⟩
end Cor

theorem srch_hit {p : Nat → Bool} : ∀ (f i j : Nat), j - i ≤ f → i ≤ j → srch p i j < j → p (srch p i j) = true := by
  intro f
  induction f with
  | zero => intro i j h1 h2 h3; rw [srch_end (by omega)] at h3; omega
  | succ f ih =>
    intro i j h1 h2 h3
    by_cases h : i < j
    · cases hp : p ((i + j) / 2) with
      | true =>
        rw [srch_yes h hp] at h3 ⊢
        have hb := (srch_bd p f i ((i + j) / 2) (by omega) (by omega)).2
        rcases Nat.lt_or_ge (srch p i ((i + j) / 2)) ((i + j) / 2) with h4 | h4
        · exact ih i _ (by omega) (by omega) h4
        · rw [show srch p i ((i + j) / 2) = (i + j) / 2 by omega]; exact hp
      | false =>
        rw [srch_no h hp] at h3 ⊢
        exact ih _ j (by omega) (by omega) h3
    · rw [srch_end (by omega)] at h3; omega
theorem srch_pred {p : Nat → Bool} : ∀ (f i j : Nat), j - i ≤ f → i ≤ j → i < srch p i j → p (srch p i j - 1) = false := by
  intro f
  induction f with
  | zero => intro i j h1 h2 h3; rw [srch_end (by omega)] at h3; omega
  | succ f ih =>
    intro i j h1 h2 h3
    by_cases h : i < j
    · cases hp : p ((i + j) / 2) with
      | true =>
        rw [srch_yes h hp] at h3 ⊢
        exact ih i _ (by omega) (by omega) h3
      | false =>
        rw [srch_no h hp] at h3 ⊢
        have hb := (srch_bd p f ((i + j) / 2 + 1) j (by omega) (by omega)).1
        rcases Nat.lt_or_ge ((i + j) / 2 + 1) (srch p ((i + j) / 2 + 1) j) with h4 | h4
        · exact ih _ j (by omega) (by omega) h4
        · rw [show srch p ((i + j) / 2 + 1) j - 1 = (i + j) / 2 by omega]; exact hp
    · rw [srch_end (by omega)] at h3; omega
/-- A search that is easier finds no later. -/
theorem srch_mono {p p' : Nat → Bool} {n : Nat} (h1 : ∀ k m, k ≤ m → m < n → p k = true → p m = true) (h2 : ∀ k, k < n → p k = true → p' k = true) : srch p' 0 n ≤ srch p 0 n := by
  refine srch_le n 0 n (by omega) (by omega) (fun k k1 k2 => h2 k k2 ?_)
  exact h1 _ k k1 k2 (srch_hit n 0 n (by omega) (by omega) (by omega))

namespace Cor
theorem Sub.from_to {A C B D : Cor} (hA : A.Ok) (h1 : Sub A C) (h2 : Sub B D) : cFrom C D ≤ cFrom A B ∧ cTo A B ≤ cTo C D := by
  have en : C.n = A.n := by unfold n; rw [h1.l]
  have hn := n_eq hA
  have hB : Sub B B := ⟨rfl, rfl, rfl, rfl, rfl, rfl, Int.le_refl _, Int.le_refl _, Int.le_refl _, h2.ab, h2.h0, h2.l0⟩
  have hAA : ∀ {s t s' t' : Int}, s' ≤ s → s ≤ t → t ≤ t' → Sub (A.cut s t) (A.cut s' t') := fun a b c => ⟨rfl, rfl, rfl, rfl, rfl, rfl, Int.le_refl _, a, c, b, h1.h0, h1.l0⟩
  have f : fromN C D ≤ fromN A B := by
    unfold fromN
    rw [en]
    refine srch_mono (fun k m k1 k2 k3 => ?_) (fun k k1 k2 => ?_)
    · exact Sub.meet (hAA (Int.le_refl 0) (by omega) (by omega)) hB k3
    · exact Sub.meet (h1.cut (Int.le_refl 0) (by omega) (Int.le_refl _)) h2 k2
  have g : cutN C D ≤ cutN A B := by
    unfold cutN
    rw [en, h1.l]
    refine srch_mono (fun k m k1 k2 k3 => ?_) (fun k k1 k2 => ?_)
    · exact Sub.meet (hAA (by omega) (by omega) (Int.le_refl _)) hB k3
    · exact Sub.meet (h1.cut (Int.le_refl _) (by omega) (Int.le_refl _)) h2 k2
  unfold cFrom cTo
  rw [h1.s, h1.l]
  omega
end Cor
end Go.Proofs.Ytglkpabcflecmaa
namespace Go.Proofs.Ytglkpabcflecmaa
/-- Two walls on either side of a way, and the way between: not all three. -/
theorem wall_comb {c d u1 v1 u2 v2 P0 P1 h y0 y1 z0 z1 : Int} (k1 : 0 < u1 * c + v1 * d) (k2 : u2 * c + v2 * d < 0)
    (a1 : u1 * P0 + v1 * P1 + h * (v1 * c - u1 * d) < u1 * y0 + v1 * y1) (a2 : u2 * P0 + v2 * P1 + h * (v2 * c - u2 * d) < u2 * y0 + v2 * y1)
    (b1 : u1 * P0 + v1 * P1 - h * (v1 * c - u1 * d) < u1 * z0 + v1 * z1) (b2 : u2 * P0 + v2 * P1 - h * (v2 * c - u2 * d) < u2 * z0 + v2 * z1)
    (hy : c * y1 - d * y0 ≤ c * P1 - d * P0 + h * (c * c + d * d)) (hz : c * P1 - d * P0 ≤ c * z1 - d * z0 + h * (c * c + d * d)) : False := by
  have m1 := Int.mul_pos (show 0 < -(u2 * c + v2 * d) by omega) (show 0 < u1 * y0 + v1 * y1 - (u1 * P0 + v1 * P1 + h * (v1 * c - u1 * d)) by omega)
  have m2 := Int.mul_pos k1 (show 0 < u2 * y0 + v2 * y1 - (u2 * P0 + v2 * P1 + h * (v2 * c - u2 * d)) by omega)
  have m3 := Int.mul_pos (show 0 < -(u2 * c + v2 * d) by omega) (show 0 < u1 * z0 + v1 * z1 - (u1 * P0 + v1 * P1 - h * (v1 * c - u1 * d)) by omega)
  have m4 := Int.mul_pos k1 (show 0 < u2 * z0 + v2 * z1 - (u2 * P0 + v2 * P1 - h * (v2 * c - u2 * d)) by omega)
  have e1 : -(u2 * c + v2 * d) * (u1 * y0 + v1 * y1 - (u1 * P0 + v1 * P1 + h * (v1 * c - u1 * d))) + (u1 * c + v1 * d) * (u2 * y0 + v2 * y1 - (u2 * P0 + v2 * P1 + h * (v2 * c - u2 * d))) = (u1 * v2 - v1 * u2) * (c * y1 - d * y0 - (c * P1 - d * P0 + h * (c * c + d * d))) := by grind
  have e2 : -(u2 * c + v2 * d) * (u1 * z0 + v1 * z1 - (u1 * P0 + v1 * P1 - h * (v1 * c - u1 * d))) + (u1 * c + v1 * d) * (u2 * z0 + v2 * z1 - (u2 * P0 + v2 * P1 - h * (v2 * c - u2 * d))) = (u1 * v2 - v1 * u2) * (c * z1 - d * z0 + h * (c * c + d * d) - (c * P1 - d * P0)) := by grind
  rcases Int.le_total 0 (u1 * v2 - v1 * u2) with g | g
  · have := Int.mul_nonneg g (show 0 ≤ -(c * y1 - d * y0 - (c * P1 - d * P0 + h * (c * c + d * d))) by omega)
    rw [Int.mul_neg] at this
    omega
  · have := Int.mul_nonneg (show 0 ≤ -(u1 * v2 - v1 * u2) by omega) (show 0 ≤ c * z1 - d * z0 + h * (c * c + d * d) - (c * P1 - d * P0) by omega)
    rw [Int.neg_mul] at this
    omega

namespace Cor
/-- Where a place of A's way lies along the axes of B, times both lengths. -/
def pl0 (A B : Cor) (x : Int) : Int := base B A B.p B.q + x * tn A.p A.q B 0
def pl1 (A B : Cor) (x : Int) : Int := base B A (-B.q) B.p + x * tn A.p A.q B 1
/-- All of B lies behind a wall across the way of A at x, of the direction (u, v) in B. -/
def Out (A B : Cor) (x u v : Int) : Prop := ∀ w0 w1, B.lo 0 ≤ w0 → w0 ≤ B.hi 0 → B.lo 1 ≤ w1 → w1 ≤ B.hi 1 →
  u * pl0 A B x + v * pl1 A B x + A.h * (v * tn A.p A.q B 0 - u * tn A.p A.q B 1) < u * (w0 * (A.l * B.l)) + v * (w1 * (A.l * B.l)) ∧
  u * pl0 A B x + v * pl1 A B x - A.h * (v * tn A.p A.q B 0 - u * tn A.p A.q B 1) < u * (w0 * (A.l * B.l)) + v * (w1 * (A.l * B.l))
theorem tn_eqs (A B : Cor) : tn A.p A.q B 0 = A.p * B.p + A.q * B.q ∧ tn A.p A.q B 1 = A.p * -B.q + A.q * B.p ∧ tn (-A.q) A.p B 0 = -tn A.p A.q B 1 ∧ tn (-A.q) A.p B 1 = tn A.p A.q B 0 ∧ tn B.p B.q A 0 = tn A.p A.q B 0 ∧ tn B.p B.q A 1 = -tn A.p A.q B 1 ∧ tn (-B.q) B.p A 0 = tn A.p A.q B 1 ∧ tn (-B.q) B.p A 1 = tn A.p A.q B 0 := by
  have x0 : ∀ C : Cor, C.ax 0 = C.p := fun _ => rfl
  have y0 : ∀ C : Cor, C.ay 0 = C.q := fun _ => rfl
  have x1 : ∀ C : Cor, C.ax 1 = -C.q := fun _ => rfl
  have y1 : ∀ C : Cor, C.ay 1 = C.p := fun _ => rfl
  unfold tn
  simp only [x0, y0, x1, y1]
  refine ⟨trivial, trivial, ?_, ?_, ?_, ?_, ?_, ?_⟩ <;> grind
theorem tn_sq {A B : Cor} (hA : A.Ok) (hB : B.Ok) : tn A.p A.q B 0 * tn A.p A.q B 0 + tn A.p A.q B 1 * tn A.p A.q B 1 = A.l * B.l * (A.l * B.l) := by
  obtain ⟨e1, e2, _⟩ := tn_eqs A B
  rw [e1, e2]
  have h1 := hA.sq
  have h2 := hB.sq
  have : (A.p * B.p + A.q * B.q) * (A.p * B.p + A.q * B.q) + (A.p * -B.q + A.q * B.p) * (A.p * -B.q + A.q * B.p) = (A.p * A.p + A.q * A.q) * (B.p * B.p + B.q * B.q) := by grind
  rw [this, h1, h2]
  grind
/-- The way along A, seen along its own vector, and along its normal. -/
theorem pl_along {A B : Cor} (hA : A.Ok) (hB : B.Ok) (x : Int) : tn A.p A.q B 0 * pl0 A B x + tn A.p A.q B 1 * pl1 A B x = A.l * B.l * (x * (A.l * B.l) - base A B A.p A.q) := by
  have hs := tn_sq hA hB
  have e : tn A.p A.q B 0 * pl0 A B x + tn A.p A.q B 1 * pl1 A B x = tn A.p A.q B 0 * base B A B.p B.q + tn A.p A.q B 1 * base B A (-B.q) B.p + x * (tn A.p A.q B 0 * tn A.p A.q B 0 + tn A.p A.q B 1 * tn A.p A.q B 1) := by unfold pl0 pl1; grind
  rw [e, hs]
  obtain ⟨e1, e2, _⟩ := tn_eqs A B
  rw [e1, e2]
  have h2 := hB.sq
  have f : (A.p * B.p + A.q * B.q) * base B A B.p B.q + (A.p * -B.q + A.q * B.p) * base B A (-B.q) B.p = (A.p * (A.x - B.x) + A.q * (A.y - B.y)) * A.l * (B.p * B.p + B.q * B.q) := by unfold base; grind
  rw [f, h2]
  unfold base
  grind
theorem pl_across {A B : Cor} (hB : B.Ok) (x : Int) : tn A.p A.q B 0 * pl1 A B x - tn A.p A.q B 1 * pl0 A B x = -(A.l * B.l * base A B (-A.q) A.p) := by
  have e : tn A.p A.q B 0 * pl1 A B x - tn A.p A.q B 1 * pl0 A B x = tn A.p A.q B 0 * base B A (-B.q) B.p - tn A.p A.q B 1 * base B A B.p B.q := by unfold pl0 pl1; grind
  rw [e]
  obtain ⟨e1, e2, _⟩ := tn_eqs A B
  rw [e1, e2]
  have h2 := hB.sq
  have f : (A.p * B.p + A.q * B.q) * base B A (-B.q) B.p - (A.p * -B.q + A.q * B.p) * base B A B.p B.q = ((-A.q) * (A.x - B.x) + A.p * (A.y - B.y)) * A.l * (B.p * B.p + B.q * B.q) := by unfold base; grind
  rw [f, h2]
  unfold base
  grind
theorem Out.mono {A B : Cor} {x y u v : Int} (h : Out A B x u v) (hx : (u * tn A.p A.q B 0 + v * tn A.p A.q B 1) * y ≤ (u * tn A.p A.q B 0 + v * tn A.p A.q B 1) * x) : Out A B y u v := by
  intro w0 w1 a1 a2 a3 a4
  obtain ⟨h1, h2⟩ := h w0 w1 a1 a2 a3 a4
  have e : ∀ z, u * pl0 A B z + v * pl1 A B z = u * base B A B.p B.q + v * base B A (-B.q) B.p + (u * tn A.p A.q B 0 + v * tn A.p A.q B 1) * z := fun z => by unfold pl0 pl1; grind
  rw [e] at h1 h2 ⊢
  omega
/-- What the normal of A says where both meet: some place of B is not beyond either border. -/
theorem normal {A B : Cor} (hA : A.Ok) (hB : B.Ok) (hb : B.a ≤ B.b) (h : sepI A B 1 = false) (x : Int) :
    (∃ w0 w1, (B.lo 0 ≤ w0 ∧ w0 ≤ B.hi 0 ∧ B.lo 1 ≤ w1 ∧ w1 ≤ B.hi 1) ∧ tn A.p A.q B 0 * (w1 * (A.l * B.l)) - tn A.p A.q B 1 * (w0 * (A.l * B.l)) ≤ tn A.p A.q B 0 * pl1 A B x - tn A.p A.q B 1 * pl0 A B x + A.h * (tn A.p A.q B 0 * tn A.p A.q B 0 + tn A.p A.q B 1 * tn A.p A.q B 1)) ∧
    (∃ w0 w1, (B.lo 0 ≤ w0 ∧ w0 ≤ B.hi 0 ∧ B.lo 1 ≤ w1 ∧ w1 ≤ B.hi 1) ∧ tn A.p A.q B 0 * pl1 A B x - tn A.p A.q B 1 * pl0 A B x ≤ tn A.p A.q B 0 * (w1 * (A.l * B.l)) - tn A.p A.q B 1 * (w0 * (A.l * B.l)) + A.h * (tn A.p A.q B 0 * tn A.p A.q B 0 + tn A.p A.q B 1 * tn A.p A.q B 1)) := by
  have hl := hA.l0
  have hm := hB.l0
  have ll : 0 ≤ A.l * B.l := Int.mul_nonneg (by omega) (by omega)
  rw [pl_across hB, tn_sq hA hB]
  obtain ⟨_, _, t0, t1, _⟩ := tn_eqs A B
  have h0 := hB.h0
  have l01 : B.lo 0 ≤ B.hi 0 := hb
  have l11 : B.lo 1 ≤ B.hi 1 := by show -B.h ≤ B.h; omega
  unfold sepI at h
  simp only [Bool.or_eq_false_iff, decide_eq_false_iff_not] at h
  obtain ⟨g1, g2⟩ := h
  have ex : A.ax 1 = -A.q := rfl
  have ey : A.ay 1 = A.p := rfl
  have el : A.lo 1 = -A.h := rfl
  have eh : A.hi 1 = A.h := rfl
  rw [ex, ey] at g1 g2
  rw [el] at g1
  rw [eh] at g2
  simp only [highK, lowK, mn, mx] at g1 g2
  rw [t0, t1] at g1 g2
  generalize tn A.p A.q B 0 = c at *
  generalize tn A.p A.q B 1 = d at *
  generalize base A B (-A.q) A.p = bs at *
  generalize A.l * B.l = L at *
  have pick : ∀ (t a b : Int), (∃ w, (w = a ∨ w = b) ∧ t * w = min (t * a) (t * b)) ∧ ∃ w, (w = a ∨ w = b) ∧ t * w = max (t * a) (t * b) := fun t a b => by
    rcases Int.le_total (t * a) (t * b) with k | k
    · exact ⟨⟨a, Or.inl rfl, by omega⟩, b, Or.inr rfl, by omega⟩
    · exact ⟨⟨b, Or.inr rfl, by omega⟩, a, Or.inl rfl, by omega⟩
  obtain ⟨⟨p0, q0, r0⟩, s0, v0, z0⟩ := pick (-d) (B.lo 0) (B.hi 0)
  obtain ⟨⟨p1, q1, r1⟩, s1, v1, z1⟩ := pick c (B.lo 1) (B.hi 1)
  rw [← r0, ← r1] at g2
  rw [← z0, ← z1] at g1
  constructor
  · refine ⟨p0, p1, ?_, ?_⟩
    · omega
    · have m := Int.mul_le_mul_of_nonneg_right (show bs + -d * p0 + c * p1 ≤ A.h * L by omega) ll
      have e1 : (bs + -d * p0 + c * p1) * L = L * bs + (c * (p1 * L) - d * (p0 * L)) := by grind
      have e2 : A.h * L * L = A.h * (L * L) := by grind
      omega
  · refine ⟨s0, s1, ?_, ?_⟩
    · omega
    · have m := Int.mul_le_mul_of_nonneg_right (show -A.h * L ≤ bs + -d * s0 + c * s1 by omega) ll
      have e1 : (bs + -d * s0 + c * s1) * L = L * bs + (c * (s1 * L) - d * (s0 * L)) := by grind
      have e2 : -A.h * L * L = -(A.h * (L * L)) := by grind
      omega
/-- **There is no way on which one wall stands ahead of another one.** -/
theorem clash {A B : Cor} (hA : A.Ok) (hB : B.Ok) (hb : B.a ≤ B.b) (h : sepI A B 1 = false) {x y u1 v1 u2 v2 : Int} (hxy : y ≤ x) (k1 : 0 < u1 * tn A.p A.q B 0 + v1 * tn A.p A.q B 1) (k2 : u2 * tn A.p A.q B 0 + v2 * tn A.p A.q B 1 < 0) (o1 : Out A B x u1 v1) (o2 : Out A B y u2 v2) : False := by
  have o3 : Out A B x u2 v2 := o2.mono (Int.mul_le_mul_of_nonpos_left (by omega) hxy)
  obtain ⟨⟨y0, y1, ⟨i1, i2, i3, i4⟩, hy⟩, z0, z1, ⟨j1, j2, j3, j4⟩, hz⟩ := normal hA hB hb h x
  exact wall_comb k1 k2 (o1 y0 y1 i1 i2 i3 i4).1 (o3 y0 y1 i1 i2 i3 i4).1 (o1 z0 z1 j1 j2 j3 j4).2 (o3 z0 z1 j1 j2 j3 j4).2 hy hz
end Cor
end Go.Proofs.Ytglkpabcflecmaa
namespace Go.Proofs.Ytglkpabcflecmaa
namespace Cor
theorem side_left {bs e f h lo hi x l : Int} (x0 : 0 ≤ x) (x1 : x ≤ l) (g1 : ¬ bs + max (e * 0) (e * l) + max (f * -h) (f * h) < lo) (g2 : ¬ hi < bs + min (e * 0) (e * l) + min (f * -h) (f * h))
    (g : bs + max (e * 0) (e * x) + max (f * -h) (f * h) < lo ∨ hi < bs + min (e * 0) (e * x) + min (f * -h) (f * h)) :
    (0 < e ∧ bs + x * e + f * h < lo ∧ bs + x * e + f * -h < lo) ∨ (e < 0 ∧ hi < bs + x * e + f * h ∧ hi < bs + x * e + f * -h) := by
  rw [Int.mul_comm x e]
  have z : e * 0 = 0 := Int.mul_zero e
  rcases Int.lt_trichotomy e 0 with k | k | k
  · have a1 := Int.mul_le_mul_of_nonpos_left (show e ≤ 0 by omega) x0
    have a2 := Int.mul_le_mul_of_nonpos_left (show e ≤ 0 by omega) x1
    omega
  · subst k
    rw [Int.zero_mul] at *
    omega
  · have a1 := Int.mul_le_mul_of_nonneg_left x0 (show 0 ≤ e by omega)
    have a2 := Int.mul_le_mul_of_nonneg_left x1 (show 0 ≤ e by omega)
    omega
theorem side_right {bs e f h lo hi x l : Int} (x0 : 0 ≤ x) (x1 : x ≤ l) (g1 : ¬ bs + max (e * 0) (e * l) + max (f * -h) (f * h) < lo) (g2 : ¬ hi < bs + min (e * 0) (e * l) + min (f * -h) (f * h))
    (g : bs + max (e * x) (e * l) + max (f * -h) (f * h) < lo ∨ hi < bs + min (e * x) (e * l) + min (f * -h) (f * h)) :
    (e < 0 ∧ bs + x * e + f * h < lo ∧ bs + x * e + f * -h < lo) ∨ (0 < e ∧ hi < bs + x * e + f * h ∧ hi < bs + x * e + f * -h) := by
  rw [Int.mul_comm x e]
  have z : e * 0 = 0 := Int.mul_zero e
  rcases Int.lt_trichotomy e 0 with k | k | k
  · have a1 := Int.mul_le_mul_of_nonpos_left (show e ≤ 0 by omega) x0
    have a2 := Int.mul_le_mul_of_nonpos_left (show e ≤ 0 by omega) x1
    omega
  · subst k
    simp only [Int.zero_mul] at *
    omega
  · have a1 := Int.mul_le_mul_of_nonneg_left x0 (show 0 ≤ e by omega)
    have a2 := Int.mul_le_mul_of_nonneg_left x1 (show 0 ≤ e by omega)
    omega
theorem mul_in {t lo hi w : Int} (h1 : lo ≤ w) (h2 : w ≤ hi) : min (t * lo) (t * hi) ≤ t * w ∧ t * w ≤ max (t * lo) (t * hi) := by
  have := mm_mono (t := t) h1 (Int.le_refl w) h2
  omega
/-- What 'meets' says, one by one. -/
theorem meet_iff (A B : Cor) : meetB A B = true ↔ farB A B = false ∧ (sepI A B 0 = false ∧ sepI A B 1 = false) ∧ sepI B A 0 = false ∧ sepI B A 1 = false := by
  unfold meetB sepB
  simp only [Bool.and_eq_true, Bool.not_eq_true', Bool.or_eq_false_iff]
/-- What the axis i of B says of the part from s to t of A. -/
theorem sep_cut (A B : Cor) (s t : Int) (i : Nat) : sepI B (A.cut s t) i = true ↔
    base B A (B.ax i) (B.ay i) + max (tn (B.ax i) (B.ay i) A 0 * s) (tn (B.ax i) (B.ay i) A 0 * t) + max (tn (B.ax i) (B.ay i) A 1 * -A.h) (tn (B.ax i) (B.ay i) A 1 * A.h) < B.lo i * (B.l * A.l) ∨
    B.hi i * (B.l * A.l) < base B A (B.ax i) (B.ay i) + min (tn (B.ax i) (B.ay i) A 0 * s) (tn (B.ax i) (B.ay i) A 0 * t) + min (tn (B.ax i) (B.ay i) A 1 * -A.h) (tn (B.ax i) (B.ay i) A 1 * A.h) := by
  unfold sepI
  simp only [Bool.or_eq_true, decide_eq_true_eq]
  exact Iff.rfl
theorem out_low0 {A B : Cor} {x : Int} (h1 : base B A (B.ax 0) (B.ay 0) + x * tn (B.ax 0) (B.ay 0) A 0 + tn (B.ax 0) (B.ay 0) A 1 * A.h < B.lo 0 * (B.l * A.l)) (h2 : base B A (B.ax 0) (B.ay 0) + x * tn (B.ax 0) (B.ay 0) A 0 + tn (B.ax 0) (B.ay 0) A 1 * -A.h < B.lo 0 * (B.l * A.l)) (ll : 0 ≤ A.l * B.l) : Out A B x 1 0 := by
  obtain ⟨_, _, _, _, t0, t1, _, _⟩ := tn_eqs A B
  have ex : B.ax 0 = B.p := rfl
  have ey : B.ay 0 = B.q := rfl
  rw [ex, ey, t0, t1, Int.mul_comm B.l] at h1 h2
  intro w0 w1 a1 a2 a3 a4
  have m := Int.mul_le_mul_of_nonneg_right a1 ll
  unfold pl0
  generalize base B A B.p B.q + x * tn A.p A.q B 0 = z at *
  generalize pl1 A B x = z1
  generalize tn A.p A.q B 1 = d at *
  generalize tn A.p A.q B 0 = c
  have e1 : A.h * (0 * c - 1 * d) = -d * A.h := by grind
  have e2 : -d * -A.h = -(-d * A.h) := by grind
  rw [e1]
  rw [e2] at h2
  omega
theorem out_high0 {A B : Cor} {x : Int} (h1 : B.hi 0 * (B.l * A.l) < base B A (B.ax 0) (B.ay 0) + x * tn (B.ax 0) (B.ay 0) A 0 + tn (B.ax 0) (B.ay 0) A 1 * A.h) (h2 : B.hi 0 * (B.l * A.l) < base B A (B.ax 0) (B.ay 0) + x * tn (B.ax 0) (B.ay 0) A 0 + tn (B.ax 0) (B.ay 0) A 1 * -A.h) (ll : 0 ≤ A.l * B.l) : Out A B x (-1) 0 := by
  obtain ⟨_, _, _, _, t0, t1, _, _⟩ := tn_eqs A B
  have ex : B.ax 0 = B.p := rfl
  have ey : B.ay 0 = B.q := rfl
  rw [ex, ey, t0, t1, Int.mul_comm B.l] at h1 h2
  intro w0 w1 a1 a2 a3 a4
  have m := Int.mul_le_mul_of_nonneg_right a2 ll
  unfold pl0
  generalize base B A B.p B.q + x * tn A.p A.q B 0 = z at *
  generalize pl1 A B x = z1
  generalize tn A.p A.q B 1 = d at *
  generalize tn A.p A.q B 0 = c
  have e1 : A.h * (0 * c - -1 * d) = -(-d * A.h) := by grind
  have e2 : -d * -A.h = -(-d * A.h) := by grind
  rw [e1]
  rw [e2] at h2
  omega
theorem out_low1 {A B : Cor} {x : Int} (h1 : base B A (B.ax 1) (B.ay 1) + x * tn (B.ax 1) (B.ay 1) A 0 + tn (B.ax 1) (B.ay 1) A 1 * A.h < B.lo 1 * (B.l * A.l)) (h2 : base B A (B.ax 1) (B.ay 1) + x * tn (B.ax 1) (B.ay 1) A 0 + tn (B.ax 1) (B.ay 1) A 1 * -A.h < B.lo 1 * (B.l * A.l)) (ll : 0 ≤ A.l * B.l) : Out A B x 0 1 := by
  obtain ⟨_, _, _, _, _, _, t0, t1⟩ := tn_eqs A B
  have ex : B.ax 1 = -B.q := rfl
  have ey : B.ay 1 = B.p := rfl
  rw [ex, ey, t0, t1, Int.mul_comm B.l] at h1 h2
  intro w0 w1 a1 a2 a3 a4
  have m := Int.mul_le_mul_of_nonneg_right a3 ll
  unfold pl1
  generalize base B A (-B.q) B.p + x * tn A.p A.q B 1 = z at *
  generalize pl0 A B x = z1
  generalize tn A.p A.q B 1 = d at *
  generalize tn A.p A.q B 0 = c at *
  have e1 : A.h * (1 * c - 0 * d) = c * A.h := by grind
  have e2 : c * -A.h = -(c * A.h) := by grind
  rw [e1]
  rw [e2] at h2
  omega
theorem out_high1 {A B : Cor} {x : Int} (h1 : B.hi 1 * (B.l * A.l) < base B A (B.ax 1) (B.ay 1) + x * tn (B.ax 1) (B.ay 1) A 0 + tn (B.ax 1) (B.ay 1) A 1 * A.h) (h2 : B.hi 1 * (B.l * A.l) < base B A (B.ax 1) (B.ay 1) + x * tn (B.ax 1) (B.ay 1) A 0 + tn (B.ax 1) (B.ay 1) A 1 * -A.h) (ll : 0 ≤ A.l * B.l) : Out A B x 0 (-1) := by
  obtain ⟨_, _, _, _, _, _, t0, t1⟩ := tn_eqs A B
  have ex : B.ax 1 = -B.q := rfl
  have ey : B.ay 1 = B.p := rfl
  rw [ex, ey, t0, t1, Int.mul_comm B.l] at h1 h2
  intro w0 w1 a1 a2 a3 a4
  have m := Int.mul_le_mul_of_nonneg_right a4 ll
  unfold pl1
  generalize base B A (-B.q) B.p + x * tn A.p A.q B 1 = z at *
  generalize pl0 A B x = z1
  generalize tn A.p A.q B 1 = d at *
  generalize tn A.p A.q B 0 = c at *
  have e1 : A.h * (-1 * c - 0 * d) = -(c * A.h) := by grind
  have e2 : c * -A.h = -(c * A.h) := by grind
  rw [e1]
  rw [e2] at h2
  omega
theorem out_ahead {A B : Cor} (hA : A.Ok) (hB : B.Ok) {x : Int} (h : x * (A.l * B.l) < lowK A B A.p A.q 2) : Out A B x (tn A.p A.q B 0) (tn A.p A.q B 1) := by
  intro w0 w1 a1 a2 a3 a4
  have hl := hA.l0
  have hm := hB.l0
  have ll : 0 < A.l * B.l := Int.mul_pos (by omega) (by omega)
  have al := pl_along hA hB x
  have m0 := (mul_in (t := tn A.p A.q B 0) a1 a2).1
  have m1 := (mul_in (t := tn A.p A.q B 1) a3 a4).1
  have h' : x * (A.l * B.l) < base A B A.p A.q + min (tn A.p A.q B 0 * B.lo 0) (tn A.p A.q B 0 * B.hi 0) + min (tn A.p A.q B 1 * B.lo 1) (tn A.p A.q B 1 * B.hi 1) := h
  generalize A.l * B.l = L at *
  generalize tn A.p A.q B 1 = d at *
  generalize tn A.p A.q B 0 = c at *
  have e1 : d * c - c * d = 0 := by rw [Int.mul_comm d c]; omega
  rw [e1, al, Int.mul_zero]
  have k := Int.mul_lt_mul_of_pos_left (show x * L - base A B A.p A.q < c * w0 + d * w1 by omega) ll
  have e2 : L * (c * w0 + d * w1) = c * (w0 * L) + d * (w1 * L) := by grind
  omega
theorem out_behind {A B : Cor} (hA : A.Ok) (hB : B.Ok) {x : Int} (h : highK A B A.p A.q 2 < x * (A.l * B.l)) : Out A B x (-tn A.p A.q B 0) (-tn A.p A.q B 1) := by
  intro w0 w1 a1 a2 a3 a4
  have hl := hA.l0
  have hm := hB.l0
  have ll : 0 < A.l * B.l := Int.mul_pos (by omega) (by omega)
  have al := pl_along hA hB x
  have m0 := (mul_in (t := tn A.p A.q B 0) a1 a2).2
  have m1 := (mul_in (t := tn A.p A.q B 1) a3 a4).2
  have h' : base A B A.p A.q + max (tn A.p A.q B 0 * B.lo 0) (tn A.p A.q B 0 * B.hi 0) + max (tn A.p A.q B 1 * B.lo 1) (tn A.p A.q B 1 * B.hi 1) < x * (A.l * B.l) := h
  generalize A.l * B.l = L at *
  generalize tn A.p A.q B 1 = d at *
  generalize tn A.p A.q B 0 = c at *
  have e1 : A.h * (-d * c - -c * d) = 0 := by grind
  have e3 : -c * pl0 A B x + -d * pl1 A B x = -(c * pl0 A B x + d * pl1 A B x) := by grind
  rw [e1, e3, al]
  have k := Int.mul_lt_mul_of_pos_left (show c * w0 + d * w1 < x * L - base A B A.p A.q by omega) ll
  have e2 : L * (c * w0 + d * w1) = c * (w0 * L) + d * (w1 * L) := by grind
  have e4 : -c * (w0 * L) + -d * (w1 * L) = -(c * (w0 * L) + d * (w1 * L)) := by grind
  omega
theorem tn_pos {A B : Cor} (hA : A.Ok) (hB : B.Ok) : 0 < tn A.p A.q B 0 * tn A.p A.q B 0 + tn A.p A.q B 1 * tn A.p A.q B 1 := by
  rw [tn_sq hA hB]
  have hl := hA.l0
  have hm := hB.l0
  have ll : 0 < A.l * B.l := Int.mul_pos (by omega) (by omega)
  exact Int.mul_pos ll ll
theorem wall_left {A B : Cor} (hA : A.Ok) (hB : B.Ok) (ha : A.a = 0) (hb : A.b = A.l) (hm : meetB A B = true) {x : Int} (x0 : 0 ≤ x) (x1 : x ≤ A.l) (hn : (A.cut 0 x).meetB B = false) : ∃ u v, 0 < u * tn A.p A.q B 0 + v * tn A.p A.q B 1 ∧ Out A B x u v := by
  have hl := hA.l0
  have hlB := hB.l0
  have ll : 0 ≤ A.l * B.l := Int.mul_nonneg (by omega) (by omega)
  obtain ⟨f, ⟨s0, s1⟩, r0, r1⟩ := (meet_iff A B).1 hm
  have hcut : A = A.cut 0 A.l := by rw [← ha, ← hb]; rfl
  have hne : ¬ (sepI (A.cut 0 x) B 0 = false ∧ sepI B (A.cut 0 x) 0 = false ∧ sepI B (A.cut 0 x) 1 = false) := fun k => by
    have := (meet_iff (A.cut 0 x) B).2 ⟨f, ⟨k.1, s1⟩, k.2⟩
    rw [this] at hn
    cases hn
  obtain ⟨_, _, _, _, t0, _, t2, _⟩ := tn_eqs A B
  by_cases c1 : sepI (A.cut 0 x) B 0 = false
  · by_cases c2 : sepI B (A.cut 0 x) 0 = false
    · have c3 : sepI B (A.cut 0 x) 1 = true := by
        cases h : sepI B (A.cut 0 x) 1
        · exact absurd ⟨c1, c2, h⟩ hne
        · rfl
      have nn : ¬ sepI B (A.cut 0 A.l) 1 = true := by rw [← hcut, r1]; simp
      rw [sep_cut] at nn
      have g := (sep_cut A B 0 x 1).1 c3
      rcases side_left x0 x1 (fun k => nn (Or.inl k)) (fun k => nn (Or.inr k)) g with ⟨k, p1, p2⟩ | ⟨k, p1, p2⟩
      · rw [show B.ax 1 = -B.q from rfl, show B.ay 1 = B.p from rfl, t2] at k
        exact ⟨0, 1, by omega, out_low1 p1 p2 ll⟩
      · rw [show B.ax 1 = -B.q from rfl, show B.ay 1 = B.p from rfl, t2] at k
        exact ⟨0, -1, by omega, out_high1 p1 p2 ll⟩
    · have c3 : sepI B (A.cut 0 x) 0 = true := by simpa using c2
      have nn : ¬ sepI B (A.cut 0 A.l) 0 = true := by rw [← hcut, r0]; simp
      rw [sep_cut] at nn
      have g := (sep_cut A B 0 x 0).1 c3
      rcases side_left x0 x1 (fun k => nn (Or.inl k)) (fun k => nn (Or.inr k)) g with ⟨k, p1, p2⟩ | ⟨k, p1, p2⟩
      · rw [show B.ax 0 = B.p from rfl, show B.ay 0 = B.q from rfl, t0] at k
        exact ⟨1, 0, by omega, out_low0 p1 p2 ll⟩
      · rw [show B.ax 0 = B.p from rfl, show B.ay 0 = B.q from rfl, t0] at k
        exact ⟨-1, 0, by omega, out_high0 p1 p2 ll⟩
  · refine ⟨_, _, tn_pos hA hB, out_ahead hA hB ?_⟩
    have c1' : sepI (A.cut 0 x) B 0 = true := by simpa using c1
    unfold sepI at c1' s0
    simp only [Bool.or_eq_true, Bool.or_eq_false_iff, decide_eq_true_eq, decide_eq_false_iff_not] at c1' s0
    rcases c1' with g | g
    · have e : A.lo 0 = (A.cut 0 x).lo 0 := ha
      exact absurd (by rw [e]; exact g) s0.1
    · exact g
theorem wall_right {A B : Cor} (hA : A.Ok) (hB : B.Ok) (ha : A.a = 0) (hb : A.b = A.l) (hm : meetB A B = true) {x : Int} (x0 : 0 ≤ x) (x1 : x ≤ A.l) (hn : (A.cut x A.l).meetB B = false) : ∃ u v, u * tn A.p A.q B 0 + v * tn A.p A.q B 1 < 0 ∧ Out A B x u v := by
  have hl := hA.l0
  have hlB := hB.l0
  have ll : 0 ≤ A.l * B.l := Int.mul_nonneg (by omega) (by omega)
  obtain ⟨f, ⟨s0, s1⟩, r0, r1⟩ := (meet_iff A B).1 hm
  have hcut : A = A.cut 0 A.l := by rw [← ha, ← hb]; rfl
  have hne : ¬ (sepI (A.cut x A.l) B 0 = false ∧ sepI B (A.cut x A.l) 0 = false ∧ sepI B (A.cut x A.l) 1 = false) := fun k => by
    have := (meet_iff (A.cut x A.l) B).2 ⟨f, ⟨k.1, s1⟩, k.2⟩
    rw [this] at hn
    cases hn
  obtain ⟨_, _, _, _, t0, _, t2, _⟩ := tn_eqs A B
  by_cases c1 : sepI (A.cut x A.l) B 0 = false
  · by_cases c2 : sepI B (A.cut x A.l) 0 = false
    · have c3 : sepI B (A.cut x A.l) 1 = true := by
        cases h : sepI B (A.cut x A.l) 1
        · exact absurd ⟨c1, c2, h⟩ hne
        · rfl
      have nn : ¬ sepI B (A.cut 0 A.l) 1 = true := by rw [← hcut, r1]; simp
      rw [sep_cut] at nn
      have g := (sep_cut A B x A.l 1).1 c3
      rcases side_right x0 x1 (fun k => nn (Or.inl k)) (fun k => nn (Or.inr k)) g with ⟨k, p1, p2⟩ | ⟨k, p1, p2⟩
      · rw [show B.ax 1 = -B.q from rfl, show B.ay 1 = B.p from rfl, t2] at k
        exact ⟨0, 1, by omega, out_low1 p1 p2 ll⟩
      · rw [show B.ax 1 = -B.q from rfl, show B.ay 1 = B.p from rfl, t2] at k
        exact ⟨0, -1, by omega, out_high1 p1 p2 ll⟩
    · have c3 : sepI B (A.cut x A.l) 0 = true := by simpa using c2
      have nn : ¬ sepI B (A.cut 0 A.l) 0 = true := by rw [← hcut, r0]; simp
      rw [sep_cut] at nn
      have g := (sep_cut A B x A.l 0).1 c3
      rcases side_right x0 x1 (fun k => nn (Or.inl k)) (fun k => nn (Or.inr k)) g with ⟨k, p1, p2⟩ | ⟨k, p1, p2⟩
      · rw [show B.ax 0 = B.p from rfl, show B.ay 0 = B.q from rfl, t0] at k
        exact ⟨1, 0, by omega, out_low0 p1 p2 ll⟩
      · rw [show B.ax 0 = B.p from rfl, show B.ay 0 = B.q from rfl, t0] at k
        exact ⟨-1, 0, by omega, out_high0 p1 p2 ll⟩
  · have tp := tn_pos hA hB
    refine ⟨-tn A.p A.q B 0, -tn A.p A.q B 1, by rw [Int.neg_mul, Int.neg_mul]; omega, out_behind hA hB ?_⟩
    have c1' : sepI (A.cut x A.l) B 0 = true := by simpa using c1
    unfold sepI at c1' s0
    simp only [Bool.or_eq_true, Bool.or_eq_false_iff, decide_eq_true_eq, decide_eq_false_iff_not] at c1' s0
    rcases c1' with g | g
    · exact g
    · have e : A.hi 0 = (A.cut x A.l).hi 0 := hb
      exact absurd (by rw [e]; exact g) s0.2
/-- **Where both meet, what they have in common has a way in it.** -/
theorem from_cut {A B : Cor} (hA : A.Ok) (hB : B.Ok) (ha : A.a = 0) (hb : A.b = A.l) (hb' : B.a ≤ B.b) (hm : meetB A B = true) : (fromN A B : Int) + (cutN A B : Int) ≤ A.l + 1 := by
  have hl := hA.l0
  have hn := n_eq hA
  have f1 := fromN_le A B
  have f2 := cutN_le A B
  rcases Int.lt_or_le (A.l + 1) ((fromN A B : Int) + (cutN A B : Int)) with h | h
  · exfalso
    have p1 : (A.cut 0 ((fromN A B - 1 : Nat) : Int)).meetB B = false := srch_pred (p := fun k => (A.cut 0 (k : Int)).meetB B) A.n 0 A.n (by omega) (by omega) (by show 0 < fromN A B; omega)
    have p2 : (A.cut (A.l - ((cutN A B - 1 : Nat) : Int)) A.l).meetB B = false := srch_pred (p := fun k => (A.cut (A.l - (k : Int)) A.l).meetB B) A.n 0 A.n (by omega) (by omega) (by show 0 < cutN A B; omega)
    obtain ⟨u1, v1, k1, o1⟩ := wall_left hA hB ha hb hm (x := ((fromN A B - 1 : Nat) : Int)) (by omega) (by omega) p1
    obtain ⟨u2, v2, k2, o2⟩ := wall_right hA hB ha hb hm (x := A.l - ((cutN A B - 1 : Nat) : Int)) (by omega) (by omega) p2
    obtain ⟨_, ⟨_, s1⟩, _⟩ := (meet_iff A B).1 hm
    exact clash hA hB hb' s1 (by omega) k1 k2 o1 o2
  · exact h
end Cor
end Go.Proofs.Ytglkpabcflecmaa
namespace Go.Proofs.Ytglkpabcflecmaa
/-- How many of the first ones hold. -/
def rowN (p : Nat → Bool) : Nat → Nat
  | 0 => 0
  | k + 1 => rowN p k + if p k = true then 1 else 0
def gridN (p : Nat → Nat → Bool) (m : Nat) : Nat → Nat
  | 0 => 0
  | i + 1 => gridN p m i + rowN (p i) m
theorem innerL_cnt (A : Cor) (G : Nat → Cor) (j : Nat) : (innerL A G j).length = rowN (fun k => A.meetB (G k)) j := by
  induction j with
  | zero => rfl
  | succ j ih =>
    unfold innerL rowN crossOf
    rw [List.length_append, ih]
    split <;> rfl
theorem outerL_cnt (F G : Nat → Cor) (m i : Nat) : (outerL F G m i).length = gridN (fun i k => (F i).meetB (G k)) m i := by
  induction i with
  | zero => rfl
  | succ i ih =>
    unfold outerL gridN
    rw [List.length_append, ih, innerL_cnt]
theorem gridN_col (p : Nat → Nat → Bool) (m i : Nat) : gridN p (m + 1) i = gridN p m i + rowN (fun k => p k m) i := by
  induction i with
  | zero => rfl
  | succ i ih =>
    unfold gridN
    rw [ih]
    show gridN p m i + rowN (fun k => p k m) i + (rowN (p i) m + if p i m = true then 1 else 0) = gridN p m i + rowN (p i) m + (rowN (fun k => p k m) i + if p i m = true then 1 else 0)
    omega
theorem gridN_swap (p : Nat → Nat → Bool) (m i : Nat) : gridN p m i = gridN (fun a b => p b a) i m := by
  induction m with
  | zero =>
    show gridN p 0 i = 0
    induction i with
    | zero => rfl
    | succ i ih => unfold gridN; rw [ih]; rfl
  | succ m ih => rw [gridN_col, ih]; rfl
theorem rowN_mono {p q : Nat → Bool} {m : Nat} (h : ∀ k, k < m → p k = true → q k = true) : rowN p m ≤ rowN q m := by
  induction m with
  | zero => exact Nat.le_refl _
  | succ m ih =>
    have h1 := ih (fun k hk => h k (by omega))
    have h2 := h m (by omega)
    unfold rowN
    by_cases h3 : p m = true
    · rw [if_pos h3, if_pos (h2 h3)]; omega
    · rw [if_neg h3]; omega
theorem gridN_mono {p q : Nat → Nat → Bool} {m i : Nat} (h : ∀ a b, a < i → b < m → p a b = true → q a b = true) : gridN p m i ≤ gridN q m i := by
  induction i with
  | zero => exact Nat.le_refl _
  | succ i ih =>
    have h1 := ih (fun a b ha => h a b (by omega))
    have h2 := rowN_mono (p := p i) (q := q i) (m := m) (fun k hk => h i k (by omega) hk)
    unfold gridN
    omega
theorem innerL_mem {A : Cor} {G : Nat → Cor} {j : Nat} {Q : Quad} : Q ∈ innerL A G j ↔ ∃ k, k < j ∧ A.meetB (G k) = true ∧ Q = crossQ A (G k) := by
  induction j with
  | zero => unfold innerL; simp
  | succ j ih =>
    unfold innerL
    rw [List.mem_append, ih]
    constructor
    · rintro (⟨k, h1, h2, h3⟩ | h)
      · exact ⟨k, by omega, h2, h3⟩
      · unfold crossOf at h
        split at h
        · rename_i hm
          exact ⟨j, by omega, hm, by simpa using h⟩
        · simp at h
    · rintro ⟨k, h1, h2, h3⟩
      rcases Nat.lt_or_ge k j with h | h
      · exact Or.inl ⟨k, h, h2, h3⟩
      · obtain rfl : k = j := by omega
        rw [crossOf_yes h2]
        exact Or.inr (by simpa using h3)
theorem outerL_mem {F G : Nat → Cor} {m n : Nat} {Q : Quad} : Q ∈ outerL F G m n ↔ ∃ i k, i < n ∧ k < m ∧ (F i).meetB (G k) = true ∧ Q = crossQ (F i) (G k) := by
  induction n with
  | zero => unfold outerL; simp
  | succ n ih =>
    unfold outerL
    rw [List.mem_append, ih, innerL_mem]
    constructor
    · rintro (⟨i, k, h1, h2, h3, h4⟩ | ⟨k, h1, h2, h3⟩)
      · exact ⟨i, k, by omega, h2, h3, h4⟩
      · exact ⟨n, k, by omega, h1, h2, h3⟩
    · rintro ⟨i, k, h1, h2, h3, h4⟩
      rcases Nat.lt_or_ge i n with h | h
      · exact Or.inl ⟨i, k, h, h2, h3, h4⟩
      · obtain rfl : i = n := by omega
        exact Or.inr ⟨k, h2, h3, h4⟩
end Go.Proofs.Ytglkpabcflecmaa
namespace Go.Proofs.Ytglkpabcflecmaa
theorem corAt_sub {c : Crv} (g : Good c) {h h' : Int} (h0 : 0 ≤ h) (hh : h ≤ h') {i : Nat} (hi : i + 1 < c.n) : Cor.Sub (corAt c h i) (corAt c h' i) := by
  have := (g.len hi).2.1
  exact ⟨rfl, rfl, rfl, rfl, rfl, rfl, hh, Int.le_refl _, Int.le_refl _, by dsimp only [corAt]; omega, h0, by dsimp only [corAt]; omega⟩
/-- Exchanged. -/
def Quad.swap (Q : Quad) : Quad := ⟨Q.fb, Q.tb, Q.fa, Q.ta⟩
/-- **Exchanged and wider corridors.** -/
theorem crosses_math {c d : Crv} (gc : Good c) (gd : Good d) {ha hb more : Int} (a0 : 0 ≤ ha) (a1 : ha ≤ 2000) (b0 : 0 ≤ hb) (b1 : hb ≤ 2000) (m0 : 0 ≤ more) (m1 : more ≤ 2000) :
    (crsF d c hb ha).length = (crsF c d ha hb).length ∧ (crsF c d ha hb).length ≤ (crsF c d (ha + more) (hb + more)).length ∧
    ∀ Q, Q ∈ crsF c d ha hb → Q.swap ∈ crsF d c hb ha ∧ (∃ R, R ∈ crsF c d (ha + more) (hb + more) ∧ R.fa ≤ Q.fa ∧ Q.ta ≤ R.ta ∧ R.fb ≤ Q.fb ∧ Q.tb ≤ R.tb) ∧ 0 ≤ Q.fa ∧ Q.fa < Q.ta ∧ Q.ta ≤ lenF c ∧ Q.tb ≤ lenF d := by
  have e1 : crsF c d ha hb = crossL c d ha hb := by unfold crsF; rw [if_pos ⟨of_good gc, of_good gd, ⟨a0, by omega⟩, b0, by omega⟩]
  have e2 : crsF d c hb ha = crossL d c hb ha := by unfold crsF; rw [if_pos ⟨of_good gd, of_good gc, ⟨b0, by omega⟩, a0, by omega⟩]
  have e3 : crsF c d (ha + more) (hb + more) = crossL c d (ha + more) (hb + more) := by unfold crsF; rw [if_pos ⟨of_good gc, of_good gd, ⟨by omega, by omega⟩, by omega, by omega⟩]
  rw [e1, e2, e3]
  unfold crossL
  have wide : ∀ i k, i < c.n - 1 → k < d.n - 1 → (corAt c ha i).meetB (corAt d hb k) = true → (corAt c (ha + more) i).meetB (corAt d (hb + more) k) = true := fun i k hi hk h => Cor.Sub.meet (corAt_sub gc a0 (by omega) (by omega)) (corAt_sub gd b0 (by omega) (by omega)) h
  refine ⟨?_, ?_, fun Q hQ => ?_⟩
  · rw [outerL_cnt, outerL_cnt, gridN_swap]
    congr 1
    funext i k
    exact Cor.meet_sym _ _
  · rw [outerL_cnt, outerL_cnt]
    exact gridN_mono wide
  · obtain ⟨i, k, hi, hk, hm, rfl⟩ := outerL_mem.1 hQ
    have oA := corAt_ok gc a0 (h := ha) (by omega) (i := i) (by omega)
    have oB := corAt_ok gd b0 (h := hb) (by omega) (i := k) (by omega)
    have la := (gc.len (i := i) (by omega)).2.1
    have lb := (gd.len (i := k) (by omega)).2.1
    have sa := corAt_sub gc a0 (show ha ≤ ha + more by omega) (i := i) (by omega)
    have sb := corAt_sub gd b0 (show hb ≤ hb + more by omega) (i := k) (by omega)
    have w1 := sa.from_to oA sb
    have w2 := sb.from_to oB sa
    refine ⟨outerL_mem.2 ⟨k, i, hk, hi, (Cor.meet_sym _ _).trans hm, rfl⟩, ⟨_, outerL_mem.2 ⟨i, k, hi, hk, wide i k hi hk hm, rfl⟩, w1.1, w1.2, w2.1, w2.2⟩, ?_⟩
    have fc := Cor.from_cut oA oB rfl rfl (by dsimp only [corAt]; omega) hm
    have f1 := Cor.fromN_le (corAt c ha i) (corAt d hb k)
    have f2 := Cor.cutN_le (corAt c ha i) (corAt d hb k)
    have n1 := Cor.n_eq oA
    have el : (corAt c ha i).l = c.len i := rfl
    have el2 : (corAt d hb k).l = d.len k := rfl
    have st1 : c.st (i + 1) = c.st i + c.len i := rfl
    have st2 : d.st (k + 1) = d.st k + d.len k := rfl
    have t1 := Crv.st_mono (c := c) (show i + 1 ≤ c.n - 1 by omega)
    have t2 := Crv.st_mono (c := d) (show k + 1 ≤ d.n - 1 by omega)
    have t3 := Crv.st_mono (c := c) (show 0 ≤ i by omega)
    have t4 : c.st 0 = 0 := rfl
    have z1 : lenF c = c.st (c.n - 1) := by unfold lenF; rw [if_pos (of_good gc)]
    have z2 : lenF d = d.st (d.n - 1) := by unfold lenF; rw [if_pos (of_good gd)]
    rw [z1, z2]
    show 0 ≤ c.st i + max 0 (((corAt c ha i).fromN (corAt d hb k) : Int) - 1) ∧ c.st i + max 0 (((corAt c ha i).fromN (corAt d hb k) : Int) - 1) < c.st i + min (c.len i) (c.len i - ((corAt c ha i).cutN (corAt d hb k) : Int) + 1) ∧ c.st i + min (c.len i) (c.len i - ((corAt c ha i).cutN (corAt d hb k) : Int) + 1) ≤ _ ∧ d.st k + min (d.len k) _ ≤ _
    omega
end Go.Proofs.Ytglkpabcflecmaa
