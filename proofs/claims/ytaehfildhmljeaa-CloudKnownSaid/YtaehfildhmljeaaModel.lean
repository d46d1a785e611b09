/- The document's curve in plain functions: n points (X i, Y i), their pieces, the first error. It names no program. -/
import Derived.Test.YtaehfildhmljeaaMath
namespace Go.Proofs.Ytaehfildhmljeaa

/-- A coordinate of a valid spot. -/
def okc (x : Int) : Prop := -16777216 ≤ x ∧ x ≤ 16777216
def okcB (x : Int) : Bool := decide (-16777216 ≤ x) && decide (x ≤ 16777216)
theorem okcB_iff (x : Int) : okcB x = true ↔ okc x := by simp [okcB, okc]
def vldB (x y : Int) : Bool := okcB x && okcB y
theorem vldB_iff (x y : Int) : vldB x y = true ↔ okc x ∧ okc y := by simp [vldB, okcB_iff]

/-- A product of two differences. -/
theorem mul_bound {a b A B : Int} (ha : -A ≤ a) (ha' : a ≤ A) (hb : -B ≤ b) (hb' : b ≤ B) : -(A * B) ≤ a * b ∧ a * b ≤ A * B := by
  have h1 := Int.mul_nonneg (show 0 ≤ A - a by omega) (show 0 ≤ B - b by omega)
  have h2 := Int.mul_nonneg (show 0 ≤ A - a by omega) (show 0 ≤ B + b by omega)
  have h3 := Int.mul_nonneg (show 0 ≤ A + a by omega) (show 0 ≤ B - b by omega)
  have h4 := Int.mul_nonneg (show 0 ≤ A + a by omega) (show 0 ≤ B + b by omega)
  have e1 : (A - a) * (B - b) = A * B - A * b - a * B + a * b := by grind
  have e2 : (A - a) * (B + b) = A * B + A * b - a * B - a * b := by grind
  have e3 : (A + a) * (B - b) = A * B - A * b + a * B - a * b := by grind
  have e4 : (A + a) * (B + b) = A * B + A * b + a * B + a * b := by grind
  omega

/-- The difference of two coordinates of valid spots. -/
def okd (x : Int) : Prop := -33554432 ≤ x ∧ x ≤ 33554432
theorem okd_sub {a b : Int} (ha : okc a) (hb : okc b) : okd (a - b) := by unfold okc okd at *; omega
theorem okd_mul {a b : Int} (ha : okd a) (hb : okd b) : -1125899906842624 ≤ a * b ∧ a * b ≤ 1125899906842624 := by
  have := mul_bound ha.1 ha.2 hb.1 hb.2
  omega

/-- A curve by its points. -/
structure Crv where
  n : Nat
  X : Nat → Int
  Y : Nat → Int

namespace Crv
variable (c : Crv)
def wx (i : Nat) : Int := c.X (i + 1) - c.X i
def wy (i : Nat) : Int := c.Y (i + 1) - c.Y i
def d2 (i : Nat) : Int := c.wx i * c.wx i + c.wy i * c.wy i
def len (i : Nat) : Int := isqI (c.d2 i)
def st : Nat → Int
  | 0 => 0
  | i + 1 => st i + c.len i
def AllOk : Prop := ∀ i, i < c.n → okc (c.X i) ∧ okc (c.Y i)
/-- The error of the piece i alone; then with the piece before it. -/
def perr (i : Nat) : Int := if c.len i * c.len i ≠ c.d2 i then 3 else if c.len i < 1000 ∨ 1048576 < c.len i then 2 else 0
def turn (i : Nat) : Int := c.wx (i - 1) * c.wx i + c.wy (i - 1) * c.wy i
def ferr (i : Nat) : Int := if c.perr i ≠ 0 then c.perr i else if 0 < i ∧ c.turn i ≤ 0 then 12 else 0
end Crv

/-- The first value that is not 0. -/
def firstE (f : Nat → Int) : Nat → Int
  | 0 => 0
  | k + 1 => if firstE f k ≠ 0 then firstE f k else f k
theorem firstE_zero {f : Nat → Int} {k : Nat} (h : ∀ j, j < k → f j = 0) : firstE f k = 0 := by
  induction k with
  | zero => rfl
  | succ k ih => rw [firstE, ih (fun j hj => h j (by omega))]; simp [h k (by omega)]
theorem firstE_at {f : Nat → Int} {k n : Nat} (hk : k < n) (h : ∀ j, j < k → f j = 0) (hne : f k ≠ 0) : firstE f n = f k := by
  induction n with
  | zero => omega
  | succ n ih =>
    rcases Nat.lt_or_ge k n with h' | h'
    · rw [firstE, ih h', if_pos hne]
    · obtain rfl : k = n := by omega
      rw [firstE, firstE_zero h]; simp
theorem of_firstE {f : Nat → Int} {n : Nat} (h : firstE f n = 0) : ∀ j, j < n → f j = 0 := by
  induction n with
  | zero => intro j hj; omega
  | succ n ih =>
    rw [firstE] at h
    split at h
    · rename_i h'; exact absurd h h'
    · rename_i h'
      intro j hj
      rcases Nat.lt_or_ge j n with h2 | h2
      · exact ih (by simpa using h') j h2
      · obtain rfl : j = n := by omega
        exact h

namespace Crv
variable {c : Crv}
theorem okd_wx (h : c.AllOk) {i : Nat} (hi : i + 1 < c.n) : okd (c.wx i) := okd_sub (h _ hi).1 (h _ (by omega)).1
theorem okd_wy (h : c.AllOk) {i : Nat} (hi : i + 1 < c.n) : okd (c.wy i) := okd_sub (h _ hi).2 (h _ (by omega)).2
theorem d2_nonneg (i : Nat) : 0 ≤ c.d2 i := by
  unfold d2
  have h1 : ∀ x : Int, 0 ≤ x * x := fun x => by
    rcases Int.le_total 0 x with h | h
    · exact Int.mul_nonneg h h
    · have := Int.mul_nonneg (show 0 ≤ -x by omega) (show 0 ≤ -x by omega)
      rwa [Int.neg_mul_neg] at this
  have := h1 (c.wx i); have := h1 (c.wy i); omega
theorem d2_le (h : c.AllOk) {i : Nat} (hi : i + 1 < c.n) : c.d2 i ≤ 2251799813685248 := by
  have h1 := okd_mul (okd_wx h hi) (okd_wx h hi)
  have h2 := okd_mul (okd_wy h hi) (okd_wy h hi)
  unfold d2; omega
theorem len_nonneg (i : Nat) : 0 ≤ c.len i := isqI_nonneg _
theorem len_lt (h : c.AllOk) {i : Nat} (hi : i + 1 < c.n) : c.len i < 67108864 := by
  have := d2_le h hi
  exact isqI_lt (d2_nonneg i) (by omega) (by omega)
theorem st_nonneg (i : Nat) : 0 ≤ c.st i := by
  induction i with
  | zero => exact Int.le_refl _
  | succ i ih => have := len_nonneg (c := c) i; unfold st; omega
theorem st_lt (h : c.AllOk) {i : Nat} (hi : i < c.n) : c.st i ≤ 67108864 * i := by
  induction i with
  | zero => simp [st]
  | succ i ih =>
    have := len_lt h (i := i) hi
    have := ih (by omega)
    unfold st; omega
end Crv

end Go.Proofs.Ytaehfildhmljeaa
