/- Two segments in the plane: crossing, ends, boxes. Plain mathematics. It names no program. -/
namespace Go.Proofs.Ytaehfildhmljeaa
theorem comb_bd {u v : Int} (a b : Int) (hu : 0 ≤ u) (hv : 0 ≤ v) : (u + v) * min a b ≤ u * a + v * b ∧ u * a + v * b ≤ (u + v) * max a b := by
  have h1 := Int.mul_le_mul_of_nonneg_left (show min a b ≤ a by omega) hu
  have h2 := Int.mul_le_mul_of_nonneg_left (show min a b ≤ b by omega) hv
  have h3 := Int.mul_le_mul_of_nonneg_left (show a ≤ max a b by omega) hu
  have h4 := Int.mul_le_mul_of_nonneg_left (show b ≤ max a b by omega) hv
  rw [Int.add_mul, Int.add_mul]
  omega
theorem comb {u v x a b : Int} (hu : 0 ≤ u) (hv : 0 ≤ v) (hD : 0 < u + v) (h : (u + v) * x = u * a + v * b) : min a b ≤ x ∧ x ≤ max a b := by
  obtain ⟨h1, h2⟩ := comb_bd a b hu hv
  exact ⟨Int.le_of_mul_le_mul_left (by omega) hD, Int.le_of_mul_le_mul_left (by omega) hD⟩
/-- Two combinations of one value: the intervals meet. -/
theorem comb_two {u v u' v' a b c d : Int} (hu : 0 ≤ u) (hv : 0 ≤ v) (hu' : 0 ≤ u') (hv' : 0 ≤ v') (hD : 0 < u + v) (e : u + v = u' + v') (h : u * a + v * b = u' * c + v' * d) :
    min c d ≤ max a b ∧ min a b ≤ max c d := by
  obtain ⟨h1, h2⟩ := comb_bd a b hu hv
  obtain ⟨h3, h4⟩ := comb_bd c d hu' hv'
  rw [← e] at h3 h4
  exact ⟨Int.le_of_mul_le_mul_left (by omega) hD, Int.le_of_mul_le_mul_left (by omega) hD⟩

section
variable (a1 a2 b1 b2 c1 c2 d1 d2 : Int)
def cr (a1 a2 b1 b2 c1 c2 : Int) : Int := (b1 - a1) * (c2 - a2) - (b2 - a2) * (c1 - a1)
theorem cr_diff : cr a1 a2 b1 b2 c1 c2 - cr a1 a2 b1 b2 d1 d2 = cr c1 c2 d1 d2 b1 b2 - cr c1 c2 d1 d2 a1 a2 := by unfold cr; grind
theorem cr_x : cr a1 a2 b1 b2 c1 c2 * d1 - cr a1 a2 b1 b2 d1 d2 * c1 = cr c1 c2 d1 d2 b1 b2 * a1 - cr c1 c2 d1 d2 a1 a2 * b1 := by unfold cr; grind
theorem cr_y : cr a1 a2 b1 b2 c1 c2 * d2 - cr a1 a2 b1 b2 d1 d2 * c2 = cr c1 c2 d1 d2 b1 b2 * a2 - cr c1 c2 d1 d2 a1 a2 * b2 := by unfold cr; grind
end
def bt (a b c : Int) : Prop := min a b ≤ c ∧ c ≤ max a b
def ov (a b c d : Int) : Prop := min c d ≤ max a b ∧ min a b ≤ max c d

/-- Proper crossing: the boxes meet. -/
theorem cross_ov {a1 a2 b1 b2 c1 c2 d1 d2 : Int} (h1 : cr a1 a2 b1 b2 c1 c2 * cr a1 a2 b1 b2 d1 d2 < 0) (h2 : cr c1 c2 d1 d2 a1 a2 * cr c1 c2 d1 d2 b1 b2 < 0) : ov a1 b1 c1 d1 ∧ ov a2 b2 c2 d2 := by
  have e := cr_diff a1 a2 b1 b2 c1 c2 d1 d2
  have ex := cr_x a1 a2 b1 b2 c1 c2 d1 d2
  have ey := cr_y a1 a2 b1 b2 c1 c2 d1 d2
  generalize cr a1 a2 b1 b2 c1 c2 = P at *
  generalize cr a1 a2 b1 b2 d1 d2 = Q at *
  generalize cr c1 c2 d1 d2 a1 a2 = R at *
  generalize cr c1 c2 d1 d2 b1 b2 = S at *
  have sg : ∀ x y : Int, x * y < 0 → (0 < x ∧ y < 0) ∨ (x < 0 ∧ 0 < y) := by
    intro x y h
    rcases Int.lt_trichotomy x 0 with hx | hx | hx
    · right; refine ⟨hx, ?_⟩
      rcases Int.lt_or_le 0 y with hy | hy
      · exact hy
      · have := Int.mul_nonneg_of_nonpos_of_nonpos (show x ≤ 0 by omega) hy; omega
    · subst hx; simp at h
    · left; refine ⟨hx, ?_⟩
      rcases Int.lt_or_le y 0 with hy | hy
      · exact hy
      · have := Int.mul_nonneg (show 0 ≤ x by omega) hy; omega
  rcases sg P Q h1 with ⟨p, q⟩ | ⟨p, q⟩
  · have hs : 0 < S ∧ R < 0 := by rcases sg R S h2 with ⟨r, s⟩ | ⟨r, s⟩ <;> omega
    exact ⟨comb_two (u := S) (v := -R) (u' := -Q) (v' := P) (by omega) (by omega) (by omega) (by omega) (by omega) (by omega) (by simp only [Int.neg_mul]; omega), comb_two (u := S) (v := -R) (u' := -Q) (v' := P) (by omega) (by omega) (by omega) (by omega) (by omega) (by omega) (by simp only [Int.neg_mul]; omega)⟩
  · have hs : S < 0 ∧ 0 < R := by rcases sg R S h2 with ⟨r, s⟩ | ⟨r, s⟩ <;> omega
    exact ⟨comb_two (u := -S) (v := R) (u' := Q) (v' := -P) (by omega) (by omega) (by omega) (by omega) (by omega) (by omega) (by simp only [Int.neg_mul]; omega), comb_two (u := -S) (v := R) (u' := Q) (v' := -P) (by omega) (by omega) (by omega) (by omega) (by omega) (by omega) (by simp only [Int.neg_mul]; omega)⟩

theorem sq_pos {x : Int} (h : x ≠ 0) : 0 < x * x := by
  rcases Int.lt_trichotomy x 0 with h' | h' | h'
  · have := Int.mul_pos (show 0 < -x by omega) (show 0 < -x by omega); rwa [Int.neg_mul_neg] at this
  · exact absurd h' h
  · exact Int.mul_pos h' h'

/-- c on the line ab, within its box: a and b aren't strictly on one side of cd. -/
theorem on_sides {a1 a2 b1 b2 c1 c2 d1 d2 : Int} (hP : cr a1 a2 b1 b2 c1 c2 = 0) (hx : bt a1 b1 c1) (hy : bt a2 b2 c2) : cr c1 c2 d1 d2 a1 a2 * cr c1 c2 d1 d2 b1 b2 ≤ 0 := by
  have e := cr_diff a1 a2 b1 b2 c1 c2 d1 d2
  have ex := cr_x a1 a2 b1 b2 c1 c2 d1 d2
  have ey := cr_y a1 a2 b1 b2 c1 c2 d1 d2
  rw [hP] at e ex ey
  by_cases hab : a1 = b1 ∧ a2 = b2
  · obtain ⟨rfl, rfl⟩ := hab
    have : c1 = a1 := by unfold bt at hx; omega
    have : c2 = a2 := by unfold bt at hy; omega
    subst_vars
    unfold cr; simp
  · generalize cr a1 a2 b1 b2 d1 d2 = Q at *
    generalize cr c1 c2 d1 d2 a1 a2 = R at *
    generalize cr c1 c2 d1 d2 b1 b2 = S at *
    have hQ : Q = R - S := by omega
    subst hQ
    -- D (c - a) = -R (b - a), D (c - b) = S (a - b), D = S - R
    have key : ∀ a b c : Int, bt a b c → a ≠ b → 0 * 0 - (R - S) * c = S * a - R * b → R * S ≤ 0 := by
      intro a b c hb hne h
      have h1 : (S - R) * (c - a) = R * (a - b) := by
        have e1 : (S - R) * (c - a) = -((R - S) * c) - S * a + R * a := by grind
        have e2 : R * (a - b) = R * a - R * b := by grind
        omega
      have h2 : (S - R) * (c - b) = S * (a - b) := by
        have e1 : (S - R) * (c - b) = -((R - S) * c) - S * b + R * b := by grind
        have e2 : S * (a - b) = S * a - S * b := by grind
        omega
      -- multiply: (S-R)^2 (c-a)(c-b) = R S (a-b)^2
      have h3 : R * S * ((a - b) * (a - b)) = (S - R) * (S - R) * ((c - a) * (c - b)) := by
        have : R * S * ((a - b) * (a - b)) = (R * (a - b)) * (S * (a - b)) := by grind
        rw [this, ← h1, ← h2]; grind
      have h4 : (c - a) * (c - b) ≤ 0 := by
        unfold bt at hb
        rcases Int.le_total a b with h | h
        · have := Int.mul_nonneg (show 0 ≤ c - a by omega) (show 0 ≤ b - c by omega)
          have e1 : (c - a) * (b - c) = -((c - a) * (c - b)) := by grind
          omega
        · have := Int.mul_nonneg (show 0 ≤ a - c by omega) (show 0 ≤ c - b by omega)
          have e1 : (a - c) * (c - b) = -((c - a) * (c - b)) := by grind
          omega
      have h5 : 0 ≤ (S - R) * (S - R) := by
        rcases Int.le_total 0 (S - R) with h | h
        · exact Int.mul_nonneg h h
        · exact Int.mul_nonneg_of_nonpos_of_nonpos h h
      have h6 := Int.mul_nonneg h5 (show 0 ≤ -((c - a) * (c - b)) by omega)
      have h7 := sq_pos (show a - b ≠ 0 by omega)
      rcases Int.lt_or_le 0 (R * S) with h8 | h8
      · have := Int.mul_pos h8 h7
        rw [Int.mul_neg] at h6
        omega
      · exact h8
    by_cases h1 : a1 = b1
    · exact key a2 b2 c2 hy (fun h => hab ⟨h1, h⟩) (by omega)
    · exact key a1 b1 c1 hx h1 (by omega)

/-- c on the line ab, a and b not strictly on one side of cd, the boxes meet: an end lies on the other segment. -/
theorem on_exists {a1 a2 b1 b2 c1 c2 d1 d2 : Int} (hP : cr a1 a2 b1 b2 c1 c2 = 0) (hRS : cr c1 c2 d1 d2 a1 a2 * cr c1 c2 d1 d2 b1 b2 ≤ 0) (ox : ov a1 b1 c1 d1) (oy : ov a2 b2 c2 d2) :
    (bt a1 b1 c1 ∧ bt a2 b2 c2) ∨ (cr a1 a2 b1 b2 d1 d2 = 0 ∧ bt a1 b1 d1 ∧ bt a2 b2 d2) ∨ (cr c1 c2 d1 d2 a1 a2 = 0 ∧ bt c1 d1 a1 ∧ bt c2 d2 a2) ∨ (cr c1 c2 d1 d2 b1 b2 = 0 ∧ bt c1 d1 b1 ∧ bt c2 d2 b2) := by
  have e := cr_diff a1 a2 b1 b2 c1 c2 d1 d2
  have ex := cr_x a1 a2 b1 b2 c1 c2 d1 d2
  have ey := cr_y a1 a2 b1 b2 c1 c2 d1 d2
  rw [hP] at e ex ey
  by_cases hab : a1 = b1 ∧ a2 = b2
  · obtain ⟨rfl, rfl⟩ := hab
    have hR : cr c1 c2 d1 d2 a1 a2 = 0 := by
      rcases Int.lt_or_le 0 (cr c1 c2 d1 d2 a1 a2 * cr c1 c2 d1 d2 a1 a2) with h | h
      · omega
      · exact Classical.byContradiction fun hn => by have := sq_pos hn; omega
    exact .inr (.inr (.inl ⟨hR, by unfold ov at ox; unfold bt; omega, by unfold ov at oy; unfold bt; omega⟩))
  · by_cases hQ : cr a1 a2 b1 b2 d1 d2 = 0
    · rw [hQ] at e ex ey
      have hS : cr c1 c2 d1 d2 b1 b2 = 0 ∧ cr c1 c2 d1 d2 a1 a2 = 0 := by
        generalize cr c1 c2 d1 d2 a1 a2 = R at *
        generalize cr c1 c2 d1 d2 b1 b2 = S at *
        obtain rfl : S = R := by omega
        have k1 : S * (a1 - b1) = 0 := by rw [Int.mul_sub]; omega
        have k2 : S * (a2 - b2) = 0 := by rw [Int.mul_sub]; omega
        rcases Int.mul_eq_zero.1 k1 with h | h
        · exact ⟨h, h⟩
        · rcases Int.mul_eq_zero.1 k2 with h' | h'
          · exact ⟨h', h'⟩
          · exact absurd ⟨by omega, by omega⟩ hab
      obtain ⟨hS, hR⟩ := hS
      -- all on one line
      have lineY : ∀ p1 p2 q1 q2 r1 r2 : Int, cr p1 p2 q1 q2 r1 r2 = 0 → p1 ≠ q1 → bt p1 q1 r1 → bt p2 q2 r2 := by
        intro p1 p2 q1 q2 r1 r2 h hne hb
        unfold cr at h
        have k : (q1 - p1) * r2 = (q1 - r1) * p2 + (r1 - p1) * q2 := by grind
        unfold bt at hb
        rcases Int.lt_or_le p1 q1 with h' | h'
        · exact comb (u := q1 - r1) (v := r1 - p1) (by omega) (by omega) (by omega) (by rw [← k]; grind)
        · have k' : (p1 - q1) * r2 = (r1 - q1) * p2 + (p1 - r1) * q2 := by grind
          exact comb (u := r1 - q1) (v := p1 - r1) (by omega) (by omega) (by omega) (by rw [← k']; grind)
      by_cases h1 : a1 = b1
      · subst h1
        have hne : a2 ≠ b2 := fun h => hab ⟨rfl, h⟩
        have vert : ∀ x y : Int, cr a1 a2 a1 b2 x y = 0 → x = a1 := by
          intro x y h
          unfold cr at h
          have k : (b2 - a2) * (x - a1) = 0 := by rw [Int.sub_self, Int.zero_mul] at h; omega
          rcases Int.mul_eq_zero.1 k with h' | h' <;> omega
        have hc := vert c1 c2 hP
        have hd := vert d1 d2 hQ
        subst hc
        subst hd
        by_cases t1 : bt a2 b2 c2
        · exact .inl ⟨by unfold bt; omega, t1⟩
        · by_cases t2 : bt a2 b2 d2
          · exact .inr (.inl ⟨hQ, by unfold bt; omega, t2⟩)
          · exact .inr (.inr (.inl ⟨hR, by unfold bt; omega, by unfold bt at *; unfold ov at oy; omega⟩))
      · by_cases t1 : bt a1 b1 c1
        · exact .inl ⟨t1, lineY _ _ _ _ _ _ hP h1 t1⟩
        · by_cases t2 : bt a1 b1 d1
          · exact .inr (.inl ⟨hQ, t2, lineY _ _ _ _ _ _ hQ h1 t2⟩)
          · have t3 : bt c1 d1 a1 := by unfold bt at *; unfold ov at ox; omega
            have hne : c1 ≠ d1 := by unfold bt at *; unfold ov at ox; omega
            exact .inr (.inr (.inl ⟨hR, t3, lineY _ _ _ _ _ _ hR hne t3⟩))
    · left
      generalize cr a1 a2 b1 b2 d1 d2 = Q at *
      generalize cr c1 c2 d1 d2 a1 a2 = R at *
      generalize cr c1 c2 d1 d2 b1 b2 = S at *
      obtain rfl : Q = R - S := by omega
      have sgs : (0 ≤ S ∧ R ≤ 0) ∨ (S ≤ 0 ∧ 0 ≤ R) := by
        rcases Int.lt_trichotomy S 0 with h | h | h
        · right
          refine ⟨by omega, ?_⟩
          rcases Int.lt_or_le R 0 with h' | h'
          · have := Int.mul_pos (show 0 < -R by omega) (show 0 < -S by omega); rw [Int.neg_mul_neg] at this; omega
          · exact h'
        · subst h; rcases Int.le_total R 0 with h' | h'
          · exact .inl ⟨by omega, h'⟩
          · exact .inr ⟨by omega, h'⟩
        · left
          refine ⟨by omega, ?_⟩
          rcases Int.lt_or_le 0 R with h' | h'
          · have := Int.mul_pos h' h; omega
          · exact h'
      have fin : ∀ a b c : Int, 0 * 0 - (R - S) * c = S * a - R * b → bt a b c := by
        intro a b c h
        rcases sgs with ⟨h1, h2⟩ | ⟨h1, h2⟩
        · exact comb (u := S) (v := -R) h1 (by omega) (by omega) (by
            have k1 : (S + -R) * c = -((R - S) * c) := by grind
            rw [k1, Int.neg_mul]; omega)
        · exact comb (u := -S) (v := R) (by omega) h2 (by omega) (by
            have k1 : (-S + R) * c = (R - S) * c := by grind
            rw [k1, Int.neg_mul]; omega)
      exact ⟨fin a1 b1 c1 (by omega), fin a2 b2 c2 (by omega)⟩
theorem cr_neg (p1 p2 q1 q2 r1 r2 : Int) : cr q1 q2 p1 p2 r1 r2 = - cr p1 p2 q1 q2 r1 r2 := by unfold cr; grind
theorem ov_swap {a b c d : Int} (h : ov a b c d) : ov a b d c := by unfold ov at *; omega
theorem ov_turn {a b c d : Int} (h : ov a b c d) : ov c d a b := by unfold ov at *; omega
theorem bt_swap {a b c : Int} (h : bt a b c) : bt b a c := by unfold bt at *; omega
theorem ov_of_bt {a b c d : Int} (h : bt a b c) : ov a b c d := by unfold ov bt at *; omega

/-- **Two segments have a common point exactly if they cross, or an end of one lies on the other.** -/
theorem blocks_iff (a1 a2 b1 b2 c1 c2 d1 d2 : Int) :
    (ov a1 b1 c1 d1 ∧ ov a2 b2 c2 d2 ∧ cr a1 a2 b1 b2 c1 c2 * cr a1 a2 b1 b2 d1 d2 ≤ 0 ∧ cr c1 c2 d1 d2 a1 a2 * cr c1 c2 d1 d2 b1 b2 ≤ 0) ↔
    ((cr a1 a2 b1 b2 c1 c2 * cr a1 a2 b1 b2 d1 d2 < 0 ∧ cr c1 c2 d1 d2 a1 a2 * cr c1 c2 d1 d2 b1 b2 < 0) ∨ (cr a1 a2 b1 b2 c1 c2 = 0 ∧ bt a1 b1 c1 ∧ bt a2 b2 c2) ∨ (cr a1 a2 b1 b2 d1 d2 = 0 ∧ bt a1 b1 d1 ∧ bt a2 b2 d2) ∨
      (cr c1 c2 d1 d2 a1 a2 = 0 ∧ bt c1 d1 a1 ∧ bt c2 d2 a2) ∨ (cr c1 c2 d1 d2 b1 b2 = 0 ∧ bt c1 d1 b1 ∧ bt c2 d2 b2)) := by
  have n1 := cr_neg c1 c2 d1 d2 a1 a2
  have n2 := cr_neg c1 c2 d1 d2 b1 b2
  have n3 := cr_neg a1 a2 b1 b2 c1 c2
  have n4 := cr_neg a1 a2 b1 b2 d1 d2
  constructor
  · rintro ⟨ox, oy, h1, h2⟩
    by_cases hP : cr a1 a2 b1 b2 c1 c2 = 0
    · rcases on_exists hP h2 ox oy with h | h | h | h
      · exact .inr (.inl ⟨hP, h⟩)
      · exact .inr (.inr (.inl h))
      · exact .inr (.inr (.inr (.inl h)))
      · exact .inr (.inr (.inr (.inr h)))
    · by_cases hQ : cr a1 a2 b1 b2 d1 d2 = 0
      · rcases on_exists (c1 := d1) (c2 := d2) (d1 := c1) (d2 := c2) hQ (by rw [n1, n2, Int.neg_mul_neg]; exact h2) (ov_swap ox) (ov_swap oy) with h | h | h | h
        · exact .inr (.inr (.inl ⟨hQ, h⟩))
        · exact .inr (.inl h)
        · exact .inr (.inr (.inr (.inl ⟨by have := h.1; omega, bt_swap h.2.1, bt_swap h.2.2⟩)))
        · exact .inr (.inr (.inr (.inr ⟨by have := h.1; omega, bt_swap h.2.1, bt_swap h.2.2⟩)))
      · by_cases hR : cr c1 c2 d1 d2 a1 a2 = 0
        · rcases on_exists (a1 := c1) (a2 := c2) (b1 := d1) (b2 := d2) (c1 := a1) (c2 := a2) (d1 := b1) (d2 := b2) hR h1 (ov_turn ox) (ov_turn oy) with h | h | h | h
          · exact .inr (.inr (.inr (.inl ⟨hR, h⟩)))
          · exact .inr (.inr (.inr (.inr h)))
          · exact .inr (.inl h)
          · exact .inr (.inr (.inl h))
        · by_cases hS : cr c1 c2 d1 d2 b1 b2 = 0
          · rcases on_exists (a1 := c1) (a2 := c2) (b1 := d1) (b2 := d2) (c1 := b1) (c2 := b2) (d1 := a1) (d2 := a2) hS (by rw [n3, n4, Int.neg_mul_neg]; exact h1) (ov_swap (ov_turn ox)) (ov_swap (ov_turn oy)) with h | h | h | h
            · exact .inr (.inr (.inr (.inr ⟨hS, h⟩)))
            · exact .inr (.inr (.inr (.inl h)))
            · exact .inr (.inl ⟨by have := h.1; omega, bt_swap h.2.1, bt_swap h.2.2⟩)
            · exact .inr (.inr (.inl ⟨by have := h.1; omega, bt_swap h.2.1, bt_swap h.2.2⟩))
          · left
            refine ⟨?_, ?_⟩
            · rcases Int.lt_or_eq_of_le h1 with h | h
              · exact h
              · rcases Int.mul_eq_zero.1 h with h' | h'
                · exact absurd h' hP
                · exact absurd h' hQ
            · rcases Int.lt_or_eq_of_le h2 with h | h
              · exact h
              · rcases Int.mul_eq_zero.1 h with h' | h'
                · exact absurd h' hR
                · exact absurd h' hS
  · rintro (⟨h1, h2⟩ | ⟨h, hx, hy⟩ | ⟨h, hx, hy⟩ | ⟨h, hx, hy⟩ | ⟨h, hx, hy⟩)
    · obtain ⟨ox, oy⟩ := cross_ov h1 h2
      exact ⟨ox, oy, by omega, by omega⟩
    · exact ⟨ov_of_bt hx, ov_of_bt hy, by rw [h]; simp, on_sides h hx hy⟩
    · refine ⟨ov_swap (ov_of_bt hx), ov_swap (ov_of_bt hy), by rw [h]; simp, ?_⟩
      have := on_sides (d1 := c1) (d2 := c2) h hx hy
      rwa [n1, n2, Int.neg_mul_neg] at this
    · exact ⟨ov_turn (ov_of_bt hx), ov_turn (ov_of_bt hy), on_sides h hx hy, by rw [h]; simp⟩
    · refine ⟨ov_turn (ov_swap (ov_of_bt hx)), ov_turn (ov_swap (ov_of_bt hy)), ?_, by rw [h]; simp⟩
      have := on_sides (d1 := a1) (d2 := a2) h hx hy
      rwa [n3, n4, Int.neg_mul_neg] at this
end Go.Proofs.Ytaehfildhmljeaa
