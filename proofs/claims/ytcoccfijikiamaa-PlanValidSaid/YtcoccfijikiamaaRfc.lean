/- The reference's check of cars; its ramps. -/
import Derived.Test.YtcoccfijikiamaaRmp
namespace Go.Proofs.Ytcoccfijikiamaa
open Go.RowKit Go.Shelf

set_option maxRecDepth 100000 in
set_option maxHeartbeats 8000000 in
theorem rcar_any (c : Car) (w : World) : Calls Try.prog 9 #[cv c] w fun e w' => e = .returned (iv (carE c)) ∧ Below w.heap.size w w' := by
  have HB : Hid (Below w.heap.size w (w.alloc (.cells #[iv c.len, iv c.acc, iv c.brk, iv c.rate, iv c.del] 23))) := Lib.hid ((Below.refl _ w).alloc (Nat.le_refl _) _)
  obtain ⟨x0, x1, x2, x3, x4⟩ := c
  dsimp only at *
  by_cases h0 : x0 < 300
  · have HF : Hid (carE ⟨x0, x1, x2, x3, x4⟩ = 2) := Lib.hid (carE_no (by unfold Car.ok; dsimp only; omega))
    have d0 : decide (x0 < 300) = true := decide_eq_true h0
    go_enter Try.func9, Try.ntmps9
    go_wp2
    go_ret
    exact ⟨by rw [HF.out]; rfl, HB.out⟩
  have d0 : decide (x0 < 300) = false := decide_eq_false h0
  by_cases h1 : 20000 < x0
  · have HF : Hid (carE ⟨x0, x1, x2, x3, x4⟩ = 2) := Lib.hid (carE_no (by unfold Car.ok; dsimp only; omega))
    have d1 : decide (20000 < x0) = true := decide_eq_true h1
    go_enter Try.func9, Try.ntmps9
    go_wp2
    go_ret
    exact ⟨by rw [HF.out]; rfl, HB.out⟩
  have d1 : decide (20000 < x0) = false := decide_eq_false h1
  by_cases h2 : x1 < 1
  · have HF : Hid (carE ⟨x0, x1, x2, x3, x4⟩ = 2) := Lib.hid (carE_no (by unfold Car.ok; dsimp only; omega))
    have d2 : decide (x1 < 1) = true := decide_eq_true h2
    go_enter Try.func9, Try.ntmps9
    go_wp2
    go_ret
    exact ⟨by rw [HF.out]; rfl, HB.out⟩
  have d2 : decide (x1 < 1) = false := decide_eq_false h2
  by_cases h3 : 30 < x1
  · have HF : Hid (carE ⟨x0, x1, x2, x3, x4⟩ = 2) := Lib.hid (carE_no (by unfold Car.ok; dsimp only; omega))
    have d3 : decide (30 < x1) = true := decide_eq_true h3
    go_enter Try.func9, Try.ntmps9
    go_wp2
    go_ret
    exact ⟨by rw [HF.out]; rfl, HB.out⟩
  have d3 : decide (30 < x1) = false := decide_eq_false h3
  by_cases h4 : x2 < 20
  · have HF : Hid (carE ⟨x0, x1, x2, x3, x4⟩ = 2) := Lib.hid (carE_no (by unfold Car.ok; dsimp only; omega))
    have d4 : decide (x2 < 20) = true := decide_eq_true h4
    go_enter Try.func9, Try.ntmps9
    go_wp2
    go_ret
    exact ⟨by rw [HF.out]; rfl, HB.out⟩
  have d4 : decide (x2 < 20) = false := decide_eq_false h4
  by_cases h5 : 90 < x2
  · have HF : Hid (carE ⟨x0, x1, x2, x3, x4⟩ = 2) := Lib.hid (carE_no (by unfold Car.ok; dsimp only; omega))
    have d5 : decide (90 < x2) = true := decide_eq_true h5
    go_enter Try.func9, Try.ntmps9
    go_wp2
    go_ret
    exact ⟨by rw [HF.out]; rfl, HB.out⟩
  have d5 : decide (90 < x2) = false := decide_eq_false h5
  by_cases h6 : x3 < 5
  · have HF : Hid (carE ⟨x0, x1, x2, x3, x4⟩ = 2) := Lib.hid (carE_no (by unfold Car.ok; dsimp only; omega))
    have d6 : decide (x3 < 5) = true := decide_eq_true h6
    go_enter Try.func9, Try.ntmps9
    go_wp2
    go_ret
    exact ⟨by rw [HF.out]; rfl, HB.out⟩
  have d6 : decide (x3 < 5) = false := decide_eq_false h6
  by_cases h7 : 120 < x3
  · have HF : Hid (carE ⟨x0, x1, x2, x3, x4⟩ = 2) := Lib.hid (carE_no (by unfold Car.ok; dsimp only; omega))
    have d7 : decide (120 < x3) = true := decide_eq_true h7
    go_enter Try.func9, Try.ntmps9
    go_wp2
    go_ret
    exact ⟨by rw [HF.out]; rfl, HB.out⟩
  have d7 : decide (120 < x3) = false := decide_eq_false h7
  by_cases h8 : x4 < 0
  · have HF : Hid (carE ⟨x0, x1, x2, x3, x4⟩ = 2) := Lib.hid (carE_no (by unfold Car.ok; dsimp only; omega))
    have d8 : decide (x4 < 0) = true := decide_eq_true h8
    go_enter Try.func9, Try.ntmps9
    go_wp2
    go_ret
    exact ⟨by rw [HF.out]; rfl, HB.out⟩
  have d8 : decide (x4 < 0) = false := decide_eq_false h8
  by_cases h9 : 5 < x4
  · have HF : Hid (carE ⟨x0, x1, x2, x3, x4⟩ = 2) := Lib.hid (carE_no (by unfold Car.ok; dsimp only; omega))
    have d9 : decide (5 < x4) = true := decide_eq_true h9
    go_enter Try.func9, Try.ntmps9
    go_wp2
    go_ret
    exact ⟨by rw [HF.out]; rfl, HB.out⟩
  have d9 : decide (5 < x4) = false := decide_eq_false h9
  have HF : Hid (carE ⟨x0, x1, x2, x3, x4⟩ = 0) := Lib.hid (carE_ok (by unfold Car.ok; dsimp only; omega))
  go_enter Try.func9, Try.ntmps9
  go_wp2
  go_ret
  exact ⟨by rw [HF.out]; rfl, HB.out⟩
set_option maxRecDepth 100000 in
set_option maxHeartbeats 8000000 in
theorem rramp_any (c : Car) (hc : c.ok) (a b : Int) (w : World) : Calls Try.prog 37 #[cv c, iv a, iv b] w fun e w' => e = .returned (iv (rmp c a b)) ∧ Below w.heap.size w w' := by
  have HB : Hid (Below w.heap.size w (w.alloc (.cells #[iv c.len, iv c.acc, iv c.brk, iv c.rate, iv c.del] 23))) := Lib.hid ((Below.refl _ w).alloc (Nat.le_refl _) _)
  rw [← rmpR_eq hc a b]
  unfold rmpR
  obtain ⟨x0, x1, x2, x3, x4⟩ := c
  unfold Car.ok at hc
  dsimp only at *
  obtain ⟨⟨_, _⟩, ⟨c1, c2⟩, ⟨c3, c4⟩, ⟨c5, c6⟩, _⟩ := hc
  have hp : -x2 ≤ max (-x2) (min a x1) ∧ max (-x2) (min a x1) ≤ x1 := by omega
  have hq : -x2 ≤ max (-x2) (min b x1) ∧ max (-x2) (min b x1) ≤ x1 := by omega
  obtain ⟨p, hpe⟩ : ∃ p, p = max (-x2) (min a x1) := ⟨_, rfl⟩
  obtain ⟨q, hqe⟩ : ∃ q, q = max (-x2) (min b x1) := ⟨_, rfl⟩
  rw [← hpe] at hp ⊢
  rw [← hqe] at hq ⊢
  have HP := Lib.hid hpe
  have HQ := Lib.hid hqe
  obtain ⟨p1, p2⟩ := hp
  obtain ⟨q1, q2⟩ := hq
  have HX := Lib.hid (BoxAt.new w 23 #[iv x0, iv x1, iv x2, iv x3, iv x4])
  clear hpe hqe
  go_enter Try.func37, Try.ntmps37
  go_upto_region 1 with fail
  generalize w.alloc (.cells #[iv x0, iv x1, iv x2, iv x3, iv x4] 23) = w0 at *
  go_cut [1, 2] from 7 to 22 (fun u v w' => u = iv p ∧ v = iv q ∧ Hid (∃ n, w' = w0.drewN n))
  case first =>
    have y1 : w0.cell? ⟨w.heap.size, 1, none⟩ = some (iv x1) := HX.out.cell 1
    have y2 : w0.cell? ⟨w.heap.size, 2, none⟩ = some (iv x2) := HX.out.cell 2
    have lx := HX.out.lt
    have n2 : IntKind.i64.wrap (-x2) = -x2 := IntWalk.i64_in _ (by omega)
    go_quiet (fail)
    go_wp2
    all_goals go_meet
    all_goals refine ⟨?_, ?_, Lib.hid ⟨_, rfl⟩⟩
    all_goals (refine congrArg (fun z => iv z) ?_)
    all_goals first | rw [HP.out]; (repeat' split) <;> omega | rw [HQ.out]; (repeat' split) <;> omega
  case rest =>
    obtain ⟨rfl, rfl, hw⟩ := hcut
    obtain ⟨n, hw⟩ := hw.out
    subst hw
    have HX2 : Hid (BoxAt (w0.drewN n) w.heap.size 23 #[iv x0, iv x1, iv x2, iv x3, iv x4]) := HX
    have HB2 : Hid (Below w.heap.size w (w0.drewN n)) := Lib.hid (below_drewN HB.out)
    clear HX HB HP HQ
    generalize w0.drewN n = w1 at *
    have y3 : w1.cell? ⟨w.heap.size, 3, none⟩ = some (iv x3) := HX2.out.cell 3
    have lx := HX2.out.lt
    go_wp2
    all_goals go_ret
    all_goals refine ⟨?_, HB2.out⟩
    all_goals (refine congrArg (fun z => Ending.returned (iv z)) ?_; omega)
set_option maxRecDepth 100000 in
set_option maxHeartbeats 4000000 in
theorem rRamp_any (c : Car) (a b : Int) (w : World) : Calls Try.prog 26 #[cv c, iv a, iv b] w fun e w' => e = .returned (iv (rmpC c a b)) ∧ Below w.heap.size w w' := by
  have hB : Below w.heap.size w (w.alloc (.cells #[iv c.len, iv c.acc, iv c.brk, iv c.rate, iv c.del] 23)) := (Below.refl _ w).alloc (Nat.le_refl _) _
  have HC := Lib.hid (fun W => rcar_any c W)
  by_cases hc : c.ok
  · have HR := Lib.hid (fun W => rramp_any c hc a b W)
    rw [carE_ok hc] at HC
    unfold rmpC
    rw [if_pos hc]
    obtain ⟨x0, x1, x2, x3, x4⟩ := c
    dsimp only at *
    clear hc
    have HX := Lib.hid (BoxAt.new w 23 #[iv x0, iv x1, iv x2, iv x3, iv x4])
    go_enter Try.func26, Try.ntmps26
    go_wp2_with (first
      | (go_at_call 9; (with_reducible refine (HC.out _).mono ?_); rintro e w1 ⟨rfl, hb1⟩; have hb2 := below_step hB hb1; obtain ⟨_, c0, c1, c2, c3, c4, l0⟩ := boxC HX.out hb1)
      | (go_at_call 37; (with_reducible refine (HR.out _).mono ?_); rintro e w2 ⟨rfl, hb3⟩))
    go_ret
    exact ⟨rfl, below_step hb2 hb3⟩
  · rw [carE_no hc] at HC
    unfold rmpC
    rw [if_neg hc]
    obtain ⟨x0, x1, x2, x3, x4⟩ := c
    dsimp only at *
    go_enter Try.func26, Try.ntmps26
    go_wp2_with (go_at_call 9; (with_reducible refine (HC.out _).mono ?_); rintro e w1 ⟨rfl, hb1⟩; have hb2 := below_step hB hb1)
    go_ret
    exact ⟨rfl, hb2⟩
end Go.Proofs.Ytcoccfijikiamaa
