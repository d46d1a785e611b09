/- Comparing numbers and spots; distances. -/
import Derived.Test.YtaehfildhmljeaaQBel
import Derived.Test.YtaehfildhmljeaaSide
namespace Go.Proofs.Ytaehfildhmljeaa
open Go.RowKit Go.Shelf

def cmpF (a b : Int) : Int := if a < b then -1 else if b < a then 1 else 0
def orF (a b : Int) : Int := if a = 0 then b else a
def cmpP (p q : Pt) : Int := orF (cmpF p.1 q.1) (cmpF p.2 q.2)
theorem isnan_any (a : Int) (w : World) : Calls Try.prog 135 #[.int .i64 a] w fun e w' => e = .returned (.bool false) ∧ w' = w := by
  go_enter Try.func135, Try.ntmps135
  go_wp2
  go_ret
  exact ⟨by simp, rfl⟩
theorem cmp_any (a b : Int) (w : World) : Calls Try.prog 106 #[.int .i64 a, .int .i64 b] w fun e w' => e = .returned (.int .i64 (cmpF a b)) ∧ w' = w := by
  rcases Int.lt_trichotomy a b with h | h | h
  · have HE : Hid (cmpF a b = -1) := Lib.hid (by unfold cmpF; rw [if_pos h])
    go_enter Try.func106, Try.ntmps106
    go_wp2_with (go_at_call 135; (with_reducible refine (isnan_any _ _).mono ?_); rintro e w1 ⟨rfl, rfl⟩)
    go_ret
    exact ⟨by rw [HE.out]; rfl, rfl⟩
  · subst h
    have HE : Hid (cmpF a a = 0) := Lib.hid (by unfold cmpF; simp)
    go_enter Try.func106, Try.ntmps106
    go_wp2_with (go_at_call 135; (with_reducible refine (isnan_any _ _).mono ?_); rintro e w1 ⟨rfl, rfl⟩)
    go_ret
    exact ⟨by rw [HE.out]; rfl, rfl⟩
  · have HE : Hid (cmpF a b = 1) := Lib.hid (by unfold cmpF; rw [if_neg (by omega), if_pos h])
    have h2 : ¬ a < b := by omega
    go_enter Try.func106, Try.ntmps106
    go_wp2_with (go_at_call 135; (with_reducible refine (isnan_any _ _).mono ?_); rintro e w1 ⟨rfl, rfl⟩)
    go_ret
    exact ⟨by rw [HE.out]; rfl, rfl⟩
set_option maxHeartbeats 1000000 in
theorem or_any (x y : Int) (g : Nat) (w : World) (hb : BoxAt w g 3 #[.int .i64 x, .int .i64 y]) :
    Calls Try.prog 105 #[.slice (some ⟨g, 0, none⟩) 2 2] w fun e w' => e = .returned (.int .i64 (orF x y)) ∧ w' = w := by
  have c0 : w.cell? ⟨g, 0, none⟩ = some (.int .i64 x) := hb.cell 0
  have c1 : w.cell? ⟨g, 1, none⟩ = some (.int .i64 y) := hb.cell 1
  have l1 := hb.lt
  clear hb
  by_cases hx : x = 0
  · by_cases hy : y = 0
    · subst hx hy
      go_enter Try.func105, Try.ntmps105
      go_wp2
      go_loopw [8] (fun i wr => wr = w ∧ ∃ k : Nat, k ≤ 2 ∧ i = .int .i64 k) (fun i _ => 2 - (intOf i).toNat)
      case atStart => exact ⟨rfl, 0, by omega, rfl⟩
      case round =>
        obtain ⟨rfl, k, hk, rfl⟩ := hrel
        have hk3 : k = 0 ∨ k = 1 ∨ k = 2 := by omega
        rcases hk3 with rfl | rfl | rfl
        · go_wp2
          go_roundw
          case rel => exact ⟨by simp, 1, by omega, rfl⟩
          case measure => simp [intOf]
        · go_wp2
          go_roundw
          case rel => exact ⟨by simp, 2, by omega, rfl⟩
          case measure => simp [intOf]
        · go_wp2
          go_ret
          exact ⟨by simp [orF], rfl⟩
    · subst hx
      have HY := Lib.hid hy
      go_enter Try.func105, Try.ntmps105
      go_wp2
      go_loopw [8] (fun i wr => wr = w ∧ ∃ k : Nat, k ≤ 1 ∧ i = .int .i64 k) (fun i _ => 2 - (intOf i).toNat)
      case atStart => exact ⟨rfl, 0, by omega, rfl⟩
      case round =>
        obtain ⟨rfl, k, hk, rfl⟩ := hrel
        have hk3 : k = 0 ∨ k = 1 := by omega
        rcases hk3 with rfl | rfl
        · go_wp2
          go_roundw
          case rel => exact ⟨by simp, 1, by omega, rfl⟩
          case measure => simp [intOf]
        · go_wp2
          go_ret
          exact ⟨by simp [orF], rfl⟩
  · have HX := Lib.hid hx
    go_enter Try.func105, Try.ntmps105
    go_wp2
    go_loopw [8] (fun i wr => wr = w ∧ ∃ k : Nat, k ≤ 0 ∧ i = .int .i64 k) (fun i _ => 2 - (intOf i).toNat)
    case atStart => exact ⟨rfl, 0, by omega, rfl⟩
    case round =>
      obtain ⟨rfl, k, hk, rfl⟩ := hrel
      obtain rfl : k = 0 := by omega
      go_wp2
      go_ret
      exact ⟨by simp [orF, HX.out], rfl⟩
/-- The distance of two numbers. -/
def dsF (a b : Int) : Int := max (a - b) (b - a)
theorem dist1_any (a b : Int) (w : World) (h1 : -1073741824 ≤ a - b) (h2 : a - b ≤ 1073741824) : Calls Try.prog 137 #[.int .i64 a, .int .i64 b] w fun e w' => e = .returned (.int .i64 (dsF a b)) ∧ w' = w := by
  rcases Int.lt_or_le (a - b) (b - a) with h | h
  · have HE : Hid (dsF a b = b - a) := Lib.hid (by unfold dsF; omega)
    have h3 : ¬ b - a ≤ a - b := by omega
    have w1 : IntKind.i64.wrap (a - b) = a - b := IntWalk.i64_in _ (by omega)
    have w2 : IntKind.i64.wrap (b - a) = b - a := IntWalk.i64_in _ (by omega)
    go_enter Try.func137, Try.ntmps137
    go_wp2
    go_ret
    exact ⟨by rw [HE.out]; rfl, rfl⟩
  · have HE : Hid (dsF a b = a - b) := Lib.hid (by unfold dsF; omega)
    have h3 : ¬ a - b < b - a := by omega
    have w1 : IntKind.i64.wrap (a - b) = a - b := IntWalk.i64_in _ (by omega)
    have w2 : IntKind.i64.wrap (b - a) = b - a := IntWalk.i64_in _ (by omega)
    go_enter Try.func137, Try.ntmps137
    go_wp2
    go_ret
    exact ⟨by rw [HE.out]; rfl, rfl⟩
theorem vwin_any (n : Int) (r : Bool) (hr : r = decide (0 ≤ n ∧ n ≤ 2000)) (w : World) : Calls Try.prog 100 #[.int .i64 n] w fun e w' => e = .returned (.bool r) ∧ w' = w := by
  by_cases h1 : 0 ≤ n
  · by_cases h2 : n ≤ 2000
    · obtain rfl : r = true := by rw [hr]; simp [h1, h2]
      clear hr
      go_enter Try.func100, Try.ntmps100
      go_wp2
      go_ret
      exact ⟨rfl, rfl⟩
    · obtain rfl : r = false := by rw [hr]; simp [h2]
      clear hr
      go_enter Try.func100, Try.ntmps100
      go_wp2
      go_ret
      exact ⟨rfl, rfl⟩
  · obtain rfl : r = false := by rw [hr]; simp [h1]
    clear hr
    go_enter Try.func100, Try.ntmps100
    go_wp2
    go_ret
    exact ⟨rfl, rfl⟩
end Go.Proofs.Ytaehfildhmljeaa
