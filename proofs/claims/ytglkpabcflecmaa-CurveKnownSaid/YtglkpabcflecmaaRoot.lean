/- The reference's root, bit by bit. -/
import Derived.Test.YtglkpabcflecmaaRef1
namespace Go.Proofs.Ytglkpabcflecmaa
open Go.RowKit Go.Shelf

/-- The bit, and what may still come to the root: twice the bit, or 1 at the end. -/
def Bit (t nx : Int) : Prop := (t = 0 ∧ nx = 1) ∨ ∃ k p : Nat, p = 2 ^ k ∧ t = (p : Int) ∧ nx = 2 * t
theorem Bit.half {t nx : Int} (h : Bit t nx) (ht : 0 < t) : nx = 2 * t ∧ Bit (t / 2) t ∧ t / 2 < t ∧ 0 ≤ t / 2 := by
  rcases h with ⟨h, _⟩ | ⟨k, p, hp, h, h2⟩
  · omega
  · refine ⟨h2, ?_, by omega, by omega⟩
    cases k with
    | zero => left; rw [Nat.pow_zero] at hp; constructor <;> omega
    | succ k =>
      right; refine ⟨k, 2 ^ k, rfl, ?_, ?_⟩ <;> (rw [Nat.pow_succ] at hp; obtain ⟨x, hx⟩ : ∃ x, x = 2 ^ k := ⟨_, rfl⟩; rw [← hx] at hp; (try rw [← hx]); omega)
theorem Bit.nonneg {t nx : Int} (h : Bit t nx) : 0 ≤ t := by rcases h with ⟨h, _⟩ | ⟨k, p, hp, h, h2⟩ <;> omega
theorem Bit.last {t nx : Int} (h : Bit t nx) (ht : ¬ 0 < t) : nx = 1 := by
  rcases h with ⟨_, h⟩ | ⟨k, p, hp, h, h2⟩
  · exact h
  · have := Nat.two_pow_pos k; rw [← hp] at this; omega
theorem Bit.le {t nx : Int} (h : Bit t nx) : t ≤ nx := by rcases h with ⟨h, h'⟩ | ⟨k, p, hp, h, h2⟩ <;> omega
theorem sq_le {x : Int} (h0 : 0 ≤ x) (h1 : x ≤ 134217728) : 0 ≤ x * x ∧ x * x ≤ 18014398509481984 := by
  have := mul_bound (a := x) (b := x) (A := 134217728) (B := 134217728) (by omega) h1 (by omega) h1
  have h2 := Int.mul_nonneg h0 h0
  omega

set_option maxHeartbeats 2000000 in
theorem root_any (n : Int) (w : World) (h0 : 0 ≤ n) (h1 : n ≤ 4503599627370496) :
    Calls Try.prog 64 #[.int .i64 n] w fun e w' => e = .returned (.int .i64 (isqI n)) ∧ w = w' := by
  go_enter Try.func64, Try.ntmps64
  go_wp2
  go_loop [3, 4] (fun a b => ∃ r t nx : Int, 0 ≤ r ∧ r + nx ≤ 134217728 ∧ Hid (r * r ≤ n) ∧ Hid (n < (r + nx) * (r + nx)) ∧ Hid (Bit t nx) ∧ a = .int .i64 r ∧ b = .int .i64 t) (fun _ b => (intOf b).toNat)
  case atStart => exact ⟨0, 67108864, 134217728, by omega, by omega, (show (0:Int) * 0 ≤ n by omega), (show n < (0 + 134217728 : Int) * (0 + 134217728) by omega), Or.inr ⟨26, 67108864, by decide, by decide, by decide⟩, rfl, rfl⟩
  case round =>
    obtain ⟨r, t, nx, hr0, hrn, hlo, hhi, hb, rfl, rfl⟩ := hrel
    have t0 := Bit.nonneg hb.out
    have tn := Bit.le hb.out
    by_cases ht : 0 < t
    · obtain ⟨e2, hb2, hlt, hge⟩ := Bit.half hb.out ht
      have HB2 := Lib.hid hb2
      have HE := Lib.hid e2
      obtain ⟨q1, q2⟩ := sq_le (x := r + t) (by omega) (by omega)
      clear hb2 e2
      by_cases hq : (r + t) * (r + t) ≤ n
      · have HQ := Lib.hid hq
        go_wp2
        go_round
        case rel =>
          have e : r + t + t = r + nx := by have := HE.out; omega
          have hh : Hid (n < (r + t + t) * (r + t + t)) := by show _ < _; rw [e]; exact hhi.out
          exact ⟨r + t, t / 2, t, by omega, by omega, HQ, hh, HB2, rfl, rfl⟩
        case measure => simp [intOf]; omega
      · have HQ : Hid (n < (r + t) * (r + t)) := by show _ < _; omega
        go_wp2
        go_round
        case rel => exact ⟨r, t / 2, t, by omega, by omega, hlo, HQ, HB2, rfl, rfl⟩
        case measure => simp [intOf]; omega
    · have hnx := Bit.last hb.out ht
      have hfin : Hid (isqI n = r) := by
        show _ = _
        have := hhi.out
        rw [hnx] at this
        exact isqI_uniq hr0 hlo.out this
      clear hnx
      go_wp2
      go_ret
      exact ⟨congrArg (fun z => Ending.returned (.int .i64 z)) hfin.out.symm, rfl⟩
end Go.Proofs.Ytglkpabcflecmaa
