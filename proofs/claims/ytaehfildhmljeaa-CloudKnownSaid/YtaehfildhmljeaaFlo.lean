/- floor, and the reference's mod; the kit's Mod64. -/
import Derived.Test.YtaehfildhmljeaaAid
namespace Go.Proofs.Ytaehfildhmljeaa
open Go.RowKit Go.Shelf

/-- A quotient of a number below 0, cut off and rounded down. -/
theorem neg_quo {a b : Int} (hb : 0 < b) (ha : a < 0) :
    ∃ q r : Int, 0 ≤ q ∧ q ≤ -a ∧ 0 ≤ r ∧ a.tdiv b = -q ∧ a.tmod b = -r ∧ (r = 0 → a / b = -q) ∧ (0 < r → a / b = -q - 1) := by
  obtain ⟨n, hn⟩ : ∃ n, n = -a := ⟨_, rfl⟩
  have ea : a = -n := by omega
  have h0 : 0 ≤ n / b := Int.ediv_nonneg (by omega) (by omega)
  have h1 : n / b ≤ n := Int.ediv_le_self _ (by omega)
  have h2 := Int.emod_nonneg n (show b ≠ 0 by omega)
  have h3 := Int.emod_lt_of_pos n hb
  have h4 := Int.mul_ediv_add_emod n b
  have e1 : a.tdiv b = -(n / b) := by rw [ea, Int.neg_tdiv, Int.tdiv_eq_ediv_of_nonneg (by omega)]
  have e2 : a.tmod b = -(n % b) := by rw [ea, Int.neg_tmod, Int.tmod_eq_emod_of_nonneg (by omega)]
  refine ⟨n / b, n % b, h0, by omega, h2, e1, e2, fun h => ?_, fun h => ?_⟩
  · have e : a = b * (-(n / b)) + 0 := by rw [Int.mul_neg]; omega
    rw [e, Int.add_zero, Int.mul_ediv_cancel_left _ (by omega)]
  · have e : a = (b - n % b) + b * (-(n / b) - 1) := by rw [Int.mul_sub, Int.mul_neg]; omega
    rw [e, Int.add_mul_ediv_left _ _ (by omega), Int.ediv_eq_zero_of_lt (by omega) (by omega)]; omega

set_option maxHeartbeats 400000 in
theorem floor_any (a b : Int) (w : World) (h1 : -4611686018427387904 ≤ a) (h2 : a ≤ 4611686018427387904) (h3 : 0 < b) (h4 : b ≤ 4611686018427387904) :
    Calls Try.prog 102 #[.int .i64 a, .int .i64 b] w fun e w' => e = .returned (.int .i64 (a / b)) ∧ w = w' := by
  have hb0 : ¬ b = 0 := by omega
  rcases Int.lt_or_le a 0 with ha | ha
  · obtain ⟨q, r, q0, q1, r0, e1, e2, e3, e4⟩ := neg_quo h3 ha
    have q2 : q ≤ 4611686018427387904 := by omega
    have r1 : r ≤ 4611686018427387904 := by have := Int.tmod_eq_emod (a := a) (b := b); have h := Int.emod_nonneg a hb0; have h' := Int.emod_lt_of_pos a h3; split at this <;> omega
    by_cases hr : r = 0
    · have E := Lib.hid (e3 hr)
      subst hr
      clear e3 e4
      generalize a / b = z at *
      go_enter Try.func102, Try.ntmps102
      go_wp2
      go_ret
      exact ⟨congrArg (fun z => Ending.returned (.int .i64 z)) E.out.symm, rfl⟩
    · have hr2 : 0 < r := by omega
      have E := Lib.hid (e4 hr2)
      clear e3 e4 hr
      generalize a / b = z at *
      go_enter Try.func102, Try.ntmps102
      go_wp2
      go_ret
      exact ⟨congrArg (fun z => Ending.returned (.int .i64 z)) E.out.symm, rfl⟩
  · have hm := Int.emod_nonneg a hb0
    go_enter Try.func102, Try.ntmps102
    go_wp2
    go_ret
    exact ⟨rfl, rfl⟩

theorem tmod_cases (n m : Int) (hm : 0 < m) : (n.tmod m < 0 → n % m = n.tmod m + m) ∧ (0 ≤ n.tmod m → n % m = n.tmod m) ∧ -m < n.tmod m ∧ n.tmod m < m := by
  have h1 := Int.emod_nonneg n (show m ≠ 0 by omega)
  have h2 := Int.emod_lt_of_pos n hm
  have h := Int.tmod_eq_emod (a := n) (b := m)
  split at h
  · omega
  · rename_i h3
    have h4 : n % m ≠ 0 := fun h => h3 (.inr (Int.dvd_of_emod_eq_zero h))
    omega

set_option maxHeartbeats 1000000 in
theorem rmod_any (n m : Int) (w : World) (hm : 0 < m) (hm' : m ≤ 4294967296) : Calls Try.prog 107 #[.int .i64 n, .int .i64 m] w fun e w' => e = .returned (.int .i64 (n % m)) ∧ w = w' := by
  have hm0 : ¬ m = 0 := by omega
  obtain ⟨h1, h2, h3, h4⟩ := tmod_cases n m hm
  obtain ⟨r, hr⟩ : ∃ r, r = n % m := ⟨_, rfl⟩
  rw [← hr] at h1 h2 ⊢
  clear hr
  obtain ⟨t, ht⟩ : ∃ t, n.tmod m = t := ⟨_, rfl⟩
  rw [ht] at h1 h2 h3 h4
  rcases Int.lt_or_le t 0 with h | h
  · have E := Lib.hid (h1 h)
    clear h1 h2
    go_enter Try.func107, Try.ntmps107
    go_wp2
    go_ret
    exact ⟨congrArg (fun z => Ending.returned (.int .i64 z)) E.out.symm, rfl⟩
  · have E := Lib.hid (h2 h)
    clear h1 h2
    go_enter Try.func107, Try.ntmps107
    go_wp2
    go_ret
    exact ⟨congrArg (fun z => Ending.returned (.int .i64 z)) E.out.symm, rfl⟩
set_option maxHeartbeats 1000000 in
theorem mod64_any (n m : Int) (w : World) (hm : 0 < m) (hm' : m ≤ 4294967296) : Calls Try.prog 55 #[.int .i64 n, .int .i64 m] w fun e w' => e = .returned (.int .i64 (n % m)) ∧ w = w' := by
  have hm0 : ¬ m = 0 := by omega
  obtain ⟨h1, h2, h3, h4⟩ := tmod_cases n m hm
  obtain ⟨r, hr⟩ : ∃ r, r = n % m := ⟨_, rfl⟩
  rw [← hr] at h1 h2 ⊢
  clear hr
  obtain ⟨t, ht⟩ : ∃ t, n.tmod m = t := ⟨_, rfl⟩
  rw [ht] at h1 h2 h3 h4
  rcases Int.lt_or_le t 0 with h | h
  · have E := Lib.hid (h1 h)
    clear h1 h2
    go_enter Try.func55, Try.ntmps55
    go_wp2
    go_ret
    exact ⟨congrArg (fun z => Ending.returned (.int .i64 z)) E.out.symm, rfl⟩
  · have E := Lib.hid (h2 h)
    clear h1 h2
    go_enter Try.func55, Try.ntmps55
    go_wp2
    go_ret
    exact ⟨congrArg (fun z => Ending.returned (.int .i64 z)) E.out.symm, rfl⟩
end Go.Proofs.Ytaehfildhmljeaa
