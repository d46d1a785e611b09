/- Small functions: faster, the car's checks, ramps. -/
import Derived.Test.YtcoccfijikiamaaSml
namespace Go.Proofs.Ytcoccfijikiamaa
open Go.RowKit Go.Shelf

def I64 (x : Int) : Prop := -9223372036854775808 ≤ x ∧ x ≤ 9223372036854775807

set_option maxHeartbeats 1000000 in
theorem faster_any (v a : Int) (w : World) (hv : I64 v) (ha : I64 a) : Calls Try.prog 36 #[iv v, iv a] w fun e w' => e = .returned (iv (fst' v a)) ∧ w' = w := by
  obtain ⟨v1, v2⟩ := hv
  obtain ⟨a1, a2⟩ := ha
  by_cases hs : (v < 0 ∧ a < 0) ∨ (0 ≤ v ∧ 0 ≤ a)
  · have HE := Lib.hid (fst_clp v a hs)
    have hcv : -2000 ≤ clp v (-2000) 2000 ∧ clp v (-2000) 2000 ≤ 2000 := by unfold clp; omega
    have hca : -2000 ≤ clp a (-2000) 2000 ∧ clp a (-2000) 2000 ≤ 2000 := by unfold clp; omega
    have H1 := Lib.hid (fun W => clamp_i64 v (-2000) 2000 W)
    have H2 := Lib.hid (fun W => clamp_i64 a (-2000) 2000 W)
    unfold fst' at HE
    generalize clp v (-2000) 2000 = x at *
    generalize clp a (-2000) 2000 = y at *
    obtain ⟨x1, x2⟩ := hcv
    obtain ⟨y1, y2⟩ := hca
    have hd : (decide (v < 0) == decide (a < 0)) = true := by
      rcases hs with ⟨h1, h2⟩ | ⟨h1, h2⟩
      · simp [h1, h2]
      · have h3 : ¬ v < 0 := by omega
        have h4 : ¬ a < 0 := by omega
        simp [h3, h4]
    clear hs
    go_enter Try.func36, Try.ntmps36
    go_wp2_with (first
      | (go_at_call 40; (with_reducible refine (H1.out _).mono ?_); rintro e w1 ⟨rfl, hw⟩; obtain rfl := hw.symm)
      | (go_at_call 40; (with_reducible refine (H2.out _).mono ?_); rintro e w1 ⟨rfl, hw⟩; obtain rfl := hw.symm)
      | (go_at_call 40; (with_reducible refine (clamp_i64 (x + y) 0 2000 _).mono ?_); rintro e w1 ⟨rfl, hw⟩; obtain rfl := hw.symm))
    go_ret
    exact ⟨by rw [HE.out]; rfl, rfl⟩
  · have hd : (decide (v < 0) == decide (a < 0)) = false := by
      by_cases h1 : v < 0
      · have h2 : ¬ a < 0 := by omega
        simp [h1, h2]
      · have h2 : a < 0 := by omega
        simp [h1, h2]
    have b1 : -9223372036854775808 ≤ v + a := by omega
    have b2 : v + a ≤ 9223372036854775807 := by omega
    clear hs
    go_enter Try.func36, Try.ntmps36
    go_wp2_with (go_at_call 40; (with_reducible refine (clamp_i64 (v + a) 0 2000 _).mono ?_); rintro e w1 ⟨rfl, hw⟩; obtain rfl := hw.symm)
    go_ret
    exact ⟨rfl, rfl⟩

theorem bool_cases {p : Prop} [Decidable p] {P : Bool → Prop} (h1 : p → P true) (h2 : ¬ p → P false) : P (decide p) := by
  by_cases h : p
  · rw [decide_eq_true h]; exact h1 h
  · rw [decide_eq_false h]; exact h2 h

set_option maxHeartbeats 4000000 in
theorem car_any (c : Car) (w : World) : Calls Try.prog 8 #[cv c] w fun e w' => e = .returned (iv (carE c)) ∧ Below w.heap.size w w' := by
  have HB : Hid (Below w.heap.size w (w.alloc (.cells #[iv c.len, iv c.acc, iv c.brk, iv c.rate, iv c.del] 23))) := Lib.hid ((Below.refl _ w).alloc (Nat.le_refl _) _)
  have H0 := Lib.hid (fun W => within_i64 300 c.len 20000 W)
  have H1 := Lib.hid (fun W => within_i64 1 c.acc 30 W)
  have H2 := Lib.hid (fun W => within_i64 20 c.brk 90 W)
  have H3 := Lib.hid (fun W => within_i64 5 c.rate 120 W)
  have H4 := Lib.hid (fun W => within_int 0 c.del 5 W)
  have HF : Hid (carE c = if decide (300 ≤ c.len ∧ c.len ≤ 20000) && (decide (1 ≤ c.acc ∧ c.acc ≤ 30) && (decide (20 ≤ c.brk ∧ c.brk ≤ 90) && (decide (5 ≤ c.rate ∧ c.rate ≤ 120) && decide (0 ≤ c.del ∧ c.del ≤ 5)))) then 0 else 2) := Lib.hid (by
    unfold carE Car.ok; simp)
  obtain ⟨x0, x1, x2, x3, x4⟩ := c
  dsimp only at *
  generalize decide (300 ≤ x0 ∧ x0 ≤ 20000) = b0 at *
  generalize decide (1 ≤ x1 ∧ x1 ≤ 30) = b1 at *
  generalize decide (20 ≤ x2 ∧ x2 ≤ 90) = b2 at *
  generalize decide (5 ≤ x3 ∧ x3 ≤ 120) = b3 at *
  generalize decide (0 ≤ x4 ∧ x4 ≤ 5) = b4 at *
  cases b0
  rotate_left
  cases b1
  rotate_left
  cases b2
  rotate_left
  cases b3
  rotate_left
  cases b4
  all_goals
    go_enter Try.func8, Try.ntmps8
    go_wp2_with (first
      | (go_at_call 29; (with_reducible refine (H0.out _).mono ?_); rintro e w1 ⟨rfl, hw⟩; obtain rfl := hw.symm)
      | (go_at_call 29; (with_reducible refine (H1.out _).mono ?_); rintro e w1 ⟨rfl, hw⟩; obtain rfl := hw.symm)
      | (go_at_call 29; (with_reducible refine (H2.out _).mono ?_); rintro e w1 ⟨rfl, hw⟩; obtain rfl := hw.symm)
      | (go_at_call 29; (with_reducible refine (H3.out _).mono ?_); rintro e w1 ⟨rfl, hw⟩; obtain rfl := hw.symm)
      | (go_at_call 30; (with_reducible refine (H4.out _).mono ?_); rintro e w1 ⟨rfl, hw⟩; obtain rfl := hw.symm))
    go_ret
    exact ⟨by rw [HF.out]; rfl, HB.out⟩
end Go.Proofs.Ytcoccfijikiamaa
