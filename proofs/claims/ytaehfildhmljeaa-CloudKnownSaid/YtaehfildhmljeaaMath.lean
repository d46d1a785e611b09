/- Plain mathematics of curves: the root rounded down, pieces, the first error. It names no program. -/
namespace Go.Proofs.Ytaehfildhmljeaa

/-- The root of n, rounded down. -/
def isq : Nat → Nat
  | 0 => 0
  | n + 1 => if (isq n + 1) * (isq n + 1) ≤ n + 1 then isq n + 1 else isq n

theorem isq_spec (n : Nat) : isq n * isq n ≤ n ∧ n < (isq n + 1) * (isq n + 1) := by
  induction n with
  | zero => simp [isq]
  | succ n ih =>
    obtain ⟨h1, h2⟩ := ih
    unfold isq
    split
    · rename_i h
      refine ⟨h, ?_⟩
      have e : (isq n + 1 + 1) * (isq n + 1 + 1) = (isq n + 1) * (isq n + 1) + 2 * (isq n + 1) + 1 := by grind
      omega
    · exact ⟨by omega, by omega⟩

theorem isq_uniq {n r : Nat} (h1 : r * r ≤ n) (h2 : n < (r + 1) * (r + 1)) : isq n = r := by
  obtain ⟨a, b⟩ := isq_spec n
  rcases Nat.lt_trichotomy (isq n) r with h | h | h
  · have := Nat.mul_le_mul (show isq n + 1 ≤ r by omega) (show isq n + 1 ≤ r by omega)
    omega
  · exact h
  · have := Nat.mul_le_mul (show r + 1 ≤ isq n by omega) (show r + 1 ≤ isq n by omega)
    omega

theorem isq_le {n m : Nat} (h : n < m * m) : isq n < m := by
  obtain ⟨a, b⟩ := isq_spec n
  rcases Nat.lt_or_ge (isq n) m with h' | h'
  · exact h'
  · have := Nat.mul_le_mul h' h'
    omega

/-- The same over Int. -/
def isqI (n : Int) : Int := (isq n.toNat : Int)
theorem isqI_nonneg (n : Int) : 0 ≤ isqI n := by unfold isqI; omega
theorem isqI_spec (n : Int) (h : 0 ≤ n) : isqI n * isqI n ≤ n ∧ n < (isqI n + 1) * (isqI n + 1) := by
  obtain ⟨a, b⟩ := isq_spec n.toNat
  unfold isqI
  have a' : ((isq n.toNat * isq n.toNat : Nat) : Int) ≤ n := by omega
  have b' : n < (((isq n.toNat + 1) * (isq n.toNat + 1) : Nat) : Int) := by omega
  push_cast at a' b'
  exact ⟨a', b'⟩
theorem isqI_uniq {n r : Int} (hr : 0 ≤ r) (h1 : r * r ≤ n) (h2 : n < (r + 1) * (r + 1)) : isqI n = r := by
  obtain ⟨k, rfl⟩ := Int.eq_ofNat_of_zero_le hr
  obtain ⟨m, rfl⟩ := Int.eq_ofNat_of_zero_le (show 0 ≤ n by have := Int.mul_nonneg hr hr; omega)
  unfold isqI
  rw [Int.toNat_natCast]
  have h1' : ((k * k : Nat) : Int) ≤ m := by push_cast; exact h1
  have h2' : (m : Int) < (((k + 1) * (k + 1) : Nat) : Int) := by push_cast; exact h2
  rw [isq_uniq (n := m) (r := k) (by omega) (by omega)]
theorem isqI_lt {n m : Int} (h0 : 0 ≤ n) (hm : 0 ≤ m) (h : n < m * m) : isqI n < m := by
  obtain ⟨k, rfl⟩ := Int.eq_ofNat_of_zero_le h0
  obtain ⟨j, rfl⟩ := Int.eq_ofNat_of_zero_le hm
  unfold isqI
  rw [Int.toNat_natCast]
  have h' : (k : Int) < ((j * j : Nat) : Int) := by push_cast; exact h
  have := isq_le (n := k) (m := j) (by omega)
  omega

/-- NEWTON's STEP: where the next guess is not below the root that we have, this is the root; else the next is still not below it. -/
theorem newton_end {n r : Int} (hr : 0 < r) (hge : n < (r + 1) * (r + 1)) (h : r ≤ (r + n / r) / 2) : isqI n = r := by
  have h1 : r ≤ n / r := by omega
  have h2 : r * (n / r) ≤ n := Int.mul_ediv_self_le (by omega)
  have h3 : r * r ≤ r * (n / r) := Int.mul_le_mul_of_nonneg_left h1 (by omega)
  exact isqI_uniq (by omega) (by omega) hge

theorem newton_next {n r : Int} (hn : 0 < n) (hr : 0 < r) : n < ((r + n / r) / 2 + 1) * ((r + n / r) / 2 + 1) := by
  have h1 : n < r * (n / r + 1) := by
    have := Int.lt_mul_ediv_self_add (x := n) (k := r) hr
    have e : r * (n / r + 1) = r * (n / r) + r := by grind
    omega
  generalize n / r = q at *
  have hm : r + q + 1 ≤ 2 * ((r + q) / 2 + 1) := by omega
  generalize (r + q) / 2 + 1 = m at *
  have hsq : 0 ≤ (r - (q + 1)) * (r - (q + 1)) := by
    rcases Int.le_total 0 (r - (q + 1)) with h | h
    · exact Int.mul_nonneg h h
    · have := Int.mul_nonneg (show 0 ≤ -(r - (q + 1)) by omega) (show 0 ≤ -(r - (q + 1)) by omega)
      have e : -(r - (q + 1)) * -(r - (q + 1)) = (r - (q + 1)) * (r - (q + 1)) := by grind
      omega
  have hq : 0 ≤ r + q + 1 := by
    rcases Int.lt_or_le (q + 1) 0 with h | h
    · have h4 := Int.mul_nonneg (show 0 ≤ r by omega) (show 0 ≤ -(q + 1) by omega)
      have e : r * -(q + 1) = -(r * (q + 1)) := by grind
      omega
    · omega
  have h5 := Int.mul_le_mul hm hm hq (by omega)
  have e1 : (r + q + 1) * (r + q + 1) = (r - (q + 1)) * (r - (q + 1)) + 4 * (r * (q + 1)) := by grind
  have e2 : 2 * m * (2 * m) = 4 * (m * m) := by grind
  omega

theorem newton_pos {n r : Int} (hn : 0 < n) (hr : 0 < r) (hlt : (r + n / r) / 2 < r) : 0 < (r + n / r) / 2 := by
  have h0 : 0 ≤ n / r := Int.ediv_nonneg (by omega) (by omega)
  rcases Int.lt_or_le 1 r with h | h
  · omega
  · have : r = 1 := by omega
    subst this
    simp at hlt ⊢
    omega

/-- The first guess: the sum of both sides. -/
theorem newton_start (x y : Int) (hx : 0 ≤ x) (hy : 0 ≤ y) : x * x + y * y < (x + y + 1) * (x + y + 1) := by
  have h := Int.mul_nonneg hx hy
  have e : (x + y + 1) * (x + y + 1) = x * x + y * y + 2 * (x * y) + 2 * x + 2 * y + 1 := by grind
  omega

end Go.Proofs.Ytaehfildhmljeaa
