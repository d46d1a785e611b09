/- Plain mathematics of successive places of a curve, and of what is near them. -/
import Derived.Test.YtglkpabcflecmaaNMath
import Derived.Test.YtglkpabcflecmaaLngW
namespace Go.Proofs.Ytglkpabcflecmaa

theorem abs_le_of_sq {a b l : Int} (hl : 0 ≤ l) (h : l * l = a * a + b * b) : -l ≤ a ∧ a ≤ l := by
  have hb : 0 ≤ b * b := by
    rcases Int.le_total 0 b with h0 | h0
    · exact Int.mul_nonneg h0 h0
    · have := Int.mul_nonneg (Int.neg_nonneg_of_nonpos h0) (Int.neg_nonneg_of_nonpos h0)
      rwa [Int.neg_mul_neg] at this
  constructor
  · apply Classical.byContradiction
    intro hc
    have h1 : l + 1 ≤ -a := by omega
    have h2 := Int.mul_le_mul h1 h1 (by omega) (by omega)
    rw [Int.neg_mul_neg] at h2
    have h3 : (l + 1) * (l + 1) = l * l + 2 * l + 1 := by grind
    omega
  · apply Classical.byContradiction
    intro hc
    have h1 : l + 1 ≤ a := by omega
    have h2 := Int.mul_le_mul h1 h1 (by omega) (by omega)
    have h3 : (l + 1) * (l + 1) = l * l + 2 * l + 1 := by grind
    omega

theorem floor_step {w l t : Int} (hl : 0 < l) (h1 : -l ≤ w) (h2 : w ≤ l) : -1 ≤ w * (t + 1) / l - w * t / l ∧ w * (t + 1) / l - w * t / l ≤ 1 := by
  have e : w * (t + 1) = w * t + w := by grind
  rw [e]
  generalize w * t = z
  have a1 := Int.mul_ediv_add_emod z l
  have a2 := Int.emod_nonneg z (show l ≠ 0 by omega)
  have a3 := Int.emod_lt_of_pos z hl
  have b1 := Int.mul_ediv_add_emod (z + w) l
  have b2 := Int.emod_nonneg (z + w) (show l ≠ 0 by omega)
  have b3 := Int.emod_lt_of_pos (z + w) hl
  generalize z / l = u at *
  generalize (z + w) / l = v at *
  have c1 : l * (v - u) < l * 2 := by
    have : l * (v - u) = l * v - l * u := Int.mul_sub _ _ _
    omega
  have c2 : l * (-2) < l * (v - u) := by
    have : l * (v - u) = l * v - l * u := Int.mul_sub _ _ _
    omega
  have d1 := Int.lt_of_mul_lt_mul_left c1 (by omega)
  have d2 := Int.lt_of_mul_lt_mul_left c2 (by omega)
  omega

theorem mul_rem {w l r : Int} (hl : 0 < l) (h1 : -l ≤ w) (h2 : w ≤ l) (r0 : 0 ≤ r) (r1 : r < l) : -(l * l) < w * r ∧ w * r < l * l := by
  have a1 := Int.mul_le_mul_of_nonneg_right h2 r0
  have a2 := Int.mul_le_mul_of_nonneg_right h1 r0
  have a3 := Int.mul_lt_mul_of_pos_left r1 hl
  have a4 : -l * r = -(l * r) := Int.neg_mul _ _
  omega

/-- The foot of the place of an offset, and its distance. -/
theorem foot_near {p q l t : Int} (hl : 0 < l) (hs : l * l = p * p + q * q) :
    (-(2 * l) < p * (p * t / l) + q * (q * t / l) - l * t ∧ p * (p * t / l) + q * (q * t / l) - l * t < 2 * l) ∧ -(2 * l) < p * (q * t / l) - q * (p * t / l) ∧ p * (q * t / l) - q * (p * t / l) < 2 * l := by
  obtain ⟨p1, p2⟩ := abs_le_of_sq (a := p) (b := q) (Int.le_of_lt hl) hs
  obtain ⟨q1, q2⟩ := abs_le_of_sq (a := q) (b := p) (Int.le_of_lt hl) (by omega)
  have a1 := Int.mul_ediv_add_emod (p * t) l
  have a2 := Int.emod_nonneg (p * t) (show l ≠ 0 by omega)
  have a3 := Int.emod_lt_of_pos (p * t) hl
  have b1 := Int.mul_ediv_add_emod (q * t) l
  have b2 := Int.emod_nonneg (q * t) (show l ≠ 0 by omega)
  have b3 := Int.emod_lt_of_pos (q * t) hl
  generalize p * t / l = a at *
  generalize q * t / l = b at *
  generalize p * t % l = r at *
  generalize q * t % l = u at *
  obtain ⟨m1, m2⟩ := mul_rem hl p1 p2 a2 a3
  obtain ⟨m3, m4⟩ := mul_rem hl q1 q2 b2 b3
  obtain ⟨m5, m6⟩ := mul_rem hl p1 p2 b2 b3
  obtain ⟨m7, m8⟩ := mul_rem hl q1 q2 a2 a3
  have e1 : l * (p * a + q * b - l * t) = -(p * r) - q * u := by
    have h1 : p * (l * a + r) = p * (p * t) := by rw [a1]
    have h2 : q * (l * b + u) = q * (q * t) := by rw [b1]
    have h3 : l * l * t = (p * p + q * q) * t := by rw [hs]
    grind
  have e2 : l * (p * b - q * a) = q * r - p * u := by
    have h1 : q * (l * a + r) = q * (p * t) := by rw [a1]
    have h2 : p * (l * b + u) = p * (q * t) := by rw [b1]
    grind
  refine ⟨⟨?_, ?_⟩, ?_, ?_⟩
  · apply Int.lt_of_mul_lt_mul_left (a := l) _ (by omega)
    have : l * (-(2 * l)) = -(2 * (l * l)) := by grind
    omega
  · apply Int.lt_of_mul_lt_mul_left (a := l) _ (by omega)
    have : l * (2 * l) = 2 * (l * l) := by grind
    omega
  · apply Int.lt_of_mul_lt_mul_left (a := l) _ (by omega)
    have : l * (-(2 * l)) = -(2 * (l * l)) := by grind
    omega
  · apply Int.lt_of_mul_lt_mul_left (a := l) _ (by omega)
    have : l * (2 * l) = 2 * (l * l) := by grind
    omega

/-- Where two successive offsets lie. -/
theorem steps_at {c : Crv} (hg : Good c) {s : Int} (h0 : 0 ≤ s) (h1 : s < c.st (c.n - 1)) :
    ∃ j t, j + 1 < c.n ∧ 0 ≤ t ∧ t < c.len j ∧ s = c.st j + t ∧ (InPiece c s j ∧ atX c s j = c.X j + c.wx j * t / c.len j ∧ atY c s j = c.Y j + c.wy j * t / c.len j) ∧
      ∃ k, InPiece c (s + 1) k ∧ atX c (s + 1) k = c.X j + c.wx j * (t + 1) / c.len j ∧ atY c (s + 1) k = c.Y j + c.wy j * (t + 1) / c.len j := by
  have hn := hg.lo
  have hj := pieceJ_in hn s
  generalize pieceJ c s = j at hj
  have hjl := hj.lt
  have hst : c.st (j + 1) = c.st j + c.len j := rfl
  have hl := (hg.len (i := j) (by omega)).2.1
  have hlo : c.st j ≤ s := by
    rcases Nat.eq_zero_or_pos j with h | h
    · subst h; exact h0
    · exact hj.ge h
  have hhi : s < c.st (j + 1) := by
    by_cases h : j + 1 < c.n - 1
    · exact hj.up h
    · have e : j + 1 = c.n - 1 := by omega
      rw [e]; exact h1
  have e0 : clampT s (c.st j) (c.len j) = s - c.st j := by unfold clampT; rw [if_neg (by omega), if_neg (by omega)]
  refine ⟨j, s - c.st j, by omega, by omega, by omega, by omega, ⟨hj, by unfold atX; rw [e0], by unfold atY; rw [e0]⟩, ?_⟩
  by_cases hlast : s + 1 < c.st (j + 1) ∨ ¬ j + 1 < c.n - 1
  · refine ⟨j, ⟨hjl, fun _ => by omega, fun h => by rcases hlast with h2 | h2; exact h2; exact absurd h h2⟩, ?_, ?_⟩
    all_goals
      have e1 : clampT (s + 1) (c.st j) (c.len j) = s - c.st j + 1 := by unfold clampT; rw [if_neg (by omega), if_neg (by omega)]; omega
    · unfold atX; rw [e1]
    · unfold atY; rw [e1]
  · have hk : j + 1 < c.n - 1 := by omega
    have hs1 : s + 1 = c.st (j + 1) := by omega
    have e1 : s - c.st j + 1 = c.len j := by omega
    obtain ⟨_, a2, a3⟩ := at_start hg hk
    refine ⟨j + 1, ?_, ?_, ?_⟩
    · rw [hs1]; exact in_start hg hk
    · rw [hs1, a2, e1, Int.mul_ediv_cancel _ (by omega)]; show _ = c.X j + (c.X (j + 1) - c.X j); omega
    · rw [hs1, a3, e1, Int.mul_ediv_cancel _ (by omega)]; show _ = c.Y j + (c.Y (j + 1) - c.Y j); omega

theorem nearL_mem {c : Crv} {p q r : Int} {j k : Nat} (hj : j < k) (h : nearB c p q r j = true) : offI c p q j ∈ nearL c p q r k := by
  induction k with
  | zero => omega
  | succ k ih =>
    unfold nearL
    rcases Nat.lt_or_ge j k with h1 | h1
    · exact List.mem_append_left _ (ih h1)
    · obtain rfl : j = k := by omega
      rw [if_pos h]; simp

/-- What is near the place of an offset. -/
theorem steps_near {c : Crv} (hg : Good c) {j : Nat} {t r s : Int} (hj : j + 1 < c.n) (t0 : 0 ≤ t) (t1 : t < c.len j) (hs : s = c.st j + t) (r0 : 2 ≤ r) :
    ∃ z, z ∈ nearL c (c.X j + c.wx j * t / c.len j) (c.Y j + c.wy j * t / c.len j) r (c.n - 1) ∧ s - 2 ≤ z ∧ z ≤ s + 2 := by
  obtain ⟨hl, l1, l2⟩ := hg.len hj
  obtain ⟨⟨f1, f2⟩, d1, d2⟩ := foot_near (p := c.wx j) (q := c.wy j) (l := c.len j) (t := t) (by omega) hl
  have eF : footI c (c.X j + c.wx j * t / c.len j) (c.Y j + c.wy j * t / c.len j) j = c.wx j * (c.wx j * t / c.len j) + c.wy j * (c.wy j * t / c.len j) := by
    unfold footI
    rw [show c.X j + c.wx j * t / c.len j - c.X j = c.wx j * t / c.len j by omega, show c.Y j + c.wy j * t / c.len j - c.Y j = c.wy j * t / c.len j by omega]
  have eD : sideI c (c.X j + c.wx j * t / c.len j) (c.Y j + c.wy j * t / c.len j) j = c.wx j * (c.wy j * t / c.len j) - c.wy j * (c.wx j * t / c.len j) := by
    unfold sideI
    rw [show c.X j + c.wx j * t / c.len j - c.X j = c.wx j * t / c.len j by omega, show c.Y j + c.wy j * t / c.len j - c.Y j = c.wy j * t / c.len j by omega]
  rw [← eF] at f1 f2
  rw [← eD] at d1 d2
  generalize c.X j + c.wx j * t / c.len j = a at *
  generalize c.Y j + c.wy j * t / c.len j = b at *
  have hr1 : 2 * c.len j ≤ r * c.len j := Int.mul_le_mul_of_nonneg_right r0 (by omega)
  have ht1 : 0 ≤ c.len j * t := Int.mul_nonneg (by omega) t0
  have ht2 : c.len j * t ≤ c.len j * (c.len j - 1) := Int.mul_le_mul_of_nonneg_left (by omega) (by omega)
  have e3 : c.len j * (c.len j - 1) = c.len j * c.len j - c.len j := by grind
  have e4 : -r * c.len j = -(r * c.len j) := Int.neg_mul _ _
  have e5 : (c.len j + r) * c.len j = c.len j * c.len j + r * c.len j := Int.add_mul _ _ _
  have hB : nearB c a b r j = true := by
    have hm : max (sideI c a b j) (-sideI c a b j) ≤ r * c.len j := by omega
    unfold nearB besideB distI
    simp [hm, show -r * c.len j ≤ footI c a b j by omega, show footI c a b j ≤ (c.len j + r) * c.len j by omega]
  refine ⟨_, nearL_mem (by omega) hB, ?_⟩
  have u1 : t - 2 ≤ footI c a b j / c.len j := by
    apply Int.le_ediv_of_mul_le (by omega)
    have : (t - 2) * c.len j = c.len j * t - 2 * c.len j := by grind
    omega
  have u2 : footI c a b j / c.len j < t + 2 := by
    apply Int.ediv_lt_of_lt_mul (by omega)
    have : (t + 2) * c.len j = c.len j * t + 2 * c.len j := by grind
    omega
  unfold offI
  omega
end Go.Proofs.Ytglkpabcflecmaa
