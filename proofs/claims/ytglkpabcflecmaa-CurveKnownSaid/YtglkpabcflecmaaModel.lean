/- Plain mathematics of curves: the root rounded down, pieces, the first error. It names no program. -/
/- The document's curve in plain functions: n points (X i, Y i), their pieces, the first error. It names no program. -/
namespace Go.Proofs.Ytglkpabcflecmaa

/-- The root of n, rounded down. -/
def isq : Nat → Nat
  | 0 => 0
  | n + 1 => if (isq n + 1) * (isq n + 1) ≤ n + 1 then isq n + 1 else isq n

theorem isq_spec (n : Nat) : isq n * isq n ≤ n ∧ n < (isq n + 1) * (isq n + 1) := by
  induction n with
  | zero => simp [isq]
  | succ n ih =>
    obtain ⟨h1, h2⟩ := ih
    unfold isq
    split
    · rename_i h
      refine ⟨h, ?_⟩
      have e : (isq n + 1 + 1) * (isq n + 1 + 1) = (isq n + 1) * (isq n + 1) + 2 * (isq n + 1) + 1 := by grind
      omega
    · exact ⟨by omega, by omega⟩

theorem isq_uniq {n r : Nat} (h1 : r * r ≤ n) (h2 : n < (r + 1) * (r + 1)) : isq n = r := by
  obtain ⟨a, b⟩ := isq_spec n
  rcases Nat.lt_trichotomy (isq n) r with h | h | h
  · have := Nat.mul_le_mul (show isq n + 1 ≤ r by omega) (show isq n + 1 ≤ r by omega)
    omega
  · exact h
  · have := Nat.mul_le_mul (show r + 1 ≤ isq n by omega) (show r + 1 ≤ isq n by omega)
    omega

theorem isq_le {n m : Nat} (h : n < m * m) : isq n < m := by
  obtain ⟨a, b⟩ := isq_spec n
  rcases Nat.lt_or_ge (isq n) m with h' | h'
  · exact h'
  · have := Nat.mul_le_mul h' h'
    omega

/-- The same over Int. -/
def isqI (n : Int) : Int := (isq n.toNat : Int)
theorem isqI_nonneg (n : Int) : 0 ≤ isqI n := by unfold isqI; omega
theorem isqI_spec (n : Int) (h : 0 ≤ n) : isqI n * isqI n ≤ n ∧ n < (isqI n + 1) * (isqI n + 1) := by
  obtain ⟨a, b⟩ := isq_spec n.toNat
  unfold isqI
  have a' : ((isq n.toNat * isq n.toNat : Nat) : Int) ≤ n := by omega
  have b' : n < (((isq n.toNat + 1) * (isq n.toNat + 1) : Nat) : Int) := by omega
  push_cast at a' b'
  exact ⟨a', b'⟩
theorem isqI_uniq {n r : Int} (hr : 0 ≤ r) (h1 : r * r ≤ n) (h2 : n < (r + 1) * (r + 1)) : isqI n = r := by
  obtain ⟨k, rfl⟩ := Int.eq_ofNat_of_zero_le hr
  obtain ⟨m, rfl⟩ := Int.eq_ofNat_of_zero_le (show 0 ≤ n by have := Int.mul_nonneg hr hr; omega)
  unfold isqI
  rw [Int.toNat_natCast]
  have h1' : ((k * k : Nat) : Int) ≤ m := by push_cast; exact h1
  have h2' : (m : Int) < (((k + 1) * (k + 1) : Nat) : Int) := by push_cast; exact h2
  rw [isq_uniq (n := m) (r := k) (by omega) (by omega)]
theorem isqI_lt {n m : Int} (h0 : 0 ≤ n) (hm : 0 ≤ m) (h : n < m * m) : isqI n < m := by
  obtain ⟨k, rfl⟩ := Int.eq_ofNat_of_zero_le h0
  obtain ⟨j, rfl⟩ := Int.eq_ofNat_of_zero_le hm
  unfold isqI
  rw [Int.toNat_natCast]
  have h' : (k : Int) < ((j * j : Nat) : Int) := by push_cast; exact h
  have := isq_le (n := k) (m := j) (by omega)
  omega

/-- NEWTON's STEP: where the next guess is not below the root that we have, this is the root; else the next is still not below it. -/
theorem newton_end {n r : Int} (hr : 0 < r) (hge : n < (r + 1) * (r + 1)) (h : r ≤ (r + n / r) / 2) : isqI n = r := by
  have h1 : r ≤ n / r := by omega
  have h2 : r * (n / r) ≤ n := Int.mul_ediv_self_le (by omega)
  have h3 : r * r ≤ r * (n / r) := Int.mul_le_mul_of_nonneg_left h1 (by omega)
  exact isqI_uniq (by omega) (by omega) hge

theorem newton_next {n r : Int} (hn : 0 < n) (hr : 0 < r) : n < ((r + n / r) / 2 + 1) * ((r + n / r) / 2 + 1) := by
  have h1 : n < r * (n / r + 1) := by
    have := Int.lt_mul_ediv_self_add (x := n) (k := r) hr
    have e : r * (n / r + 1) = r * (n / r) + r := by grind
    omega
  generalize n / r = q at *
  have hm : r + q + 1 ≤ 2 * ((r + q) / 2 + 1) := by omega
  generalize (r + q) / 2 + 1 = m at *
  have hsq : 0 ≤ (r - (q + 1)) * (r - (q + 1)) := by
    rcases Int.le_total 0 (r - (q + 1)) with h | h
    · exact Int.mul_nonneg h h
    · have := Int.mul_nonneg (show 0 ≤ -(r - (q + 1)) by omega) (show 0 ≤ -(r - (q + 1)) by omega)
      have e : -(r - (q + 1)) * -(r - (q + 1)) = (r - (q + 1)) * (r - (q + 1)) := by grind
      omega
  have hq : 0 ≤ r + q + 1 := by
    rcases Int.lt_or_le (q + 1) 0 with h | h
    · have h4 := Int.mul_nonneg (show 0 ≤ r by omega) (show 0 ≤ -(q + 1) by omega)
      have e : r * -(q + 1) = -(r * (q + 1)) := by grind
      omega
    · omega
  have h5 := Int.mul_le_mul hm hm hq (by omega)
  have e1 : (r + q + 1) * (r + q + 1) = (r - (q + 1)) * (r - (q + 1)) + 4 * (r * (q + 1)) := by grind
  have e2 : 2 * m * (2 * m) = 4 * (m * m) := by grind
  omega

theorem newton_pos {n r : Int} (hn : 0 < n) (hr : 0 < r) (hlt : (r + n / r) / 2 < r) : 0 < (r + n / r) / 2 := by
  have h0 : 0 ≤ n / r := Int.ediv_nonneg (by omega) (by omega)
  rcases Int.lt_or_le 1 r with h | h
  · omega
  · have : r = 1 := by omega
    subst this
    simp at hlt ⊢
    omega

/-- The first guess: the sum of both sides. -/
theorem newton_start (x y : Int) (hx : 0 ≤ x) (hy : 0 ≤ y) : x * x + y * y < (x + y + 1) * (x + y + 1) := by
  have h := Int.mul_nonneg hx hy
  have e : (x + y + 1) * (x + y + 1) = x * x + y * y + 2 * (x * y) + 2 * x + 2 * y + 1 := by grind
  omega

end Go.Proofs.Ytglkpabcflecmaa

namespace Go.Proofs.Ytglkpabcflecmaa

/-- A coordinate of a valid spot. -/
def okc (x : Int) : Prop := -16777216 ≤ x ∧ x ≤ 16777216
def okcB (x : Int) : Bool := decide (-16777216 ≤ x) && decide (x ≤ 16777216)
theorem okcB_iff (x : Int) : okcB x = true ↔ okc x := by simp [okcB, okc]
def vldB (x y : Int) : Bool := okcB x && okcB y
theorem vldB_iff (x y : Int) : vldB x y = true ↔ okc x ∧ okc y := by simp [vldB, okcB_iff]

/-- A product of two differences. -/
theorem mul_bound {a b A B : Int} (ha : -A ≤ a) (ha' : a ≤ A) (hb : -B ≤ b) (hb' : b ≤ B) : -(A * B) ≤ a * b ∧ a * b ≤ A * B := by
  have h1 := Int.mul_nonneg (show 0 ≤ A - a by omega) (show 0 ≤ B - b by omega)
  have h2 := Int.mul_nonneg (show 0 ≤ A - a by omega) (show 0 ≤ B + b by omega)
  have h3 := Int.mul_nonneg (show 0 ≤ A + a by omega) (show 0 ≤ B - b by omega)
  have h4 := Int.mul_nonneg (show 0 ≤ A + a by omega) (show 0 ≤ B + b by omega)
  have e1 : (A - a) * (B - b) = A * B - A * b - a * B + a * b := by grind
  have e2 : (A - a) * (B + b) = A * B + A * b - a * B - a * b := by grind
  have e3 : (A + a) * (B - b) = A * B - A * b + a * B - a * b := by grind
  have e4 : (A + a) * (B + b) = A * B + A * b + a * B + a * b := by grind
  omega

/-- The difference of two coordinates of valid spots. -/
def okd (x : Int) : Prop := -33554432 ≤ x ∧ x ≤ 33554432
theorem okd_sub {a b : Int} (ha : okc a) (hb : okc b) : okd (a - b) := by unfold okc okd at *; omega
theorem okd_mul {a b : Int} (ha : okd a) (hb : okd b) : -1125899906842624 ≤ a * b ∧ a * b ≤ 1125899906842624 := by
  have := mul_bound ha.1 ha.2 hb.1 hb.2
  omega

/-- A curve by its points. -/
structure Crv where
  n : Nat
  X : Nat → Int
  Y : Nat → Int

namespace Crv
variable (c : Crv)
def wx (i : Nat) : Int := c.X (i + 1) - c.X i
def wy (i : Nat) : Int := c.Y (i + 1) - c.Y i
def d2 (i : Nat) : Int := c.wx i * c.wx i + c.wy i * c.wy i
def len (i : Nat) : Int := isqI (c.d2 i)
def st : Nat → Int
  | 0 => 0
  | i + 1 => st i + c.len i
def AllOk : Prop := ∀ i, i < c.n → okc (c.X i) ∧ okc (c.Y i)
/-- The error of the piece i alone; then with the piece before it. -/
def perr (i : Nat) : Int := if c.len i * c.len i ≠ c.d2 i then 3 else if c.len i < 1000 ∨ 1048576 < c.len i then 2 else 0
def turn (i : Nat) : Int := c.wx (i - 1) * c.wx i + c.wy (i - 1) * c.wy i
def ferr (i : Nat) : Int := if c.perr i ≠ 0 then c.perr i else if 0 < i ∧ c.turn i ≤ 0 then 12 else 0
end Crv

/-- The first value that is not 0. -/
def firstE (f : Nat → Int) : Nat → Int
  | 0 => 0
  | k + 1 => if firstE f k ≠ 0 then firstE f k else f k
theorem firstE_zero {f : Nat → Int} {k : Nat} (h : ∀ j, j < k → f j = 0) : firstE f k = 0 := by
  induction k with
  | zero => rfl
  | succ k ih => rw [firstE, ih (fun j hj => h j (by omega))]; simp [h k (by omega)]
theorem firstE_at {f : Nat → Int} {k n : Nat} (hk : k < n) (h : ∀ j, j < k → f j = 0) (hne : f k ≠ 0) : firstE f n = f k := by
  induction n with
  | zero => omega
  | succ n ih =>
    rcases Nat.lt_or_ge k n with h' | h'
    · rw [firstE, ih h', if_pos hne]
    · obtain rfl : k = n := by omega
      rw [firstE, firstE_zero h]; simp
theorem of_firstE {f : Nat → Int} {n : Nat} (h : firstE f n = 0) : ∀ j, j < n → f j = 0 := by
  induction n with
  | zero => intro j hj; omega
  | succ n ih =>
    rw [firstE] at h
    split at h
    · rename_i h'; exact absurd h h'
    · rename_i h'
      intro j hj
      rcases Nat.lt_or_ge j n with h2 | h2
      · exact ih (by simpa using h') j h2
      · obtain rfl : j = n := by omega
        exact h

namespace Crv
variable {c : Crv}
theorem okd_wx (h : c.AllOk) {i : Nat} (hi : i + 1 < c.n) : okd (c.wx i) := okd_sub (h _ hi).1 (h _ (by omega)).1
theorem okd_wy (h : c.AllOk) {i : Nat} (hi : i + 1 < c.n) : okd (c.wy i) := okd_sub (h _ hi).2 (h _ (by omega)).2
theorem d2_nonneg (i : Nat) : 0 ≤ c.d2 i := by
  unfold d2
  have h1 : ∀ x : Int, 0 ≤ x * x := fun x => by
    rcases Int.le_total 0 x with h | h
    · exact Int.mul_nonneg h h
    · have := Int.mul_nonneg (show 0 ≤ -x by omega) (show 0 ≤ -x by omega)
      rwa [Int.neg_mul_neg] at this
  have := h1 (c.wx i); have := h1 (c.wy i); omega
theorem d2_le (h : c.AllOk) {i : Nat} (hi : i + 1 < c.n) : c.d2 i ≤ 2251799813685248 := by
  have h1 := okd_mul (okd_wx h hi) (okd_wx h hi)
  have h2 := okd_mul (okd_wy h hi) (okd_wy h hi)
  unfold d2; omega
theorem len_nonneg (i : Nat) : 0 ≤ c.len i := isqI_nonneg _
theorem len_lt (h : c.AllOk) {i : Nat} (hi : i + 1 < c.n) : c.len i < 67108864 := by
  have := d2_le h hi
  exact isqI_lt (d2_nonneg i) (by omega) (by omega)
theorem st_nonneg (i : Nat) : 0 ≤ c.st i := by
  induction i with
  | zero => exact Int.le_refl _
  | succ i ih => have := len_nonneg (c := c) i; unfold st; omega
theorem st_lt (h : c.AllOk) {i : Nat} (hi : i < c.n) : c.st i ≤ 67108864 * i := by
  induction i with
  | zero => simp [st]
  | succ i ih =>
    have := len_lt h (i := i) hi
    have := ih (by omega)
    unfold st; omega
end Crv

end Go.Proofs.Ytglkpabcflecmaa

