/- Ramps, and the reference's. -/
import Derived.Test.YtcoccfijikiamaaSm2
namespace Go.Proofs.Ytcoccfijikiamaa
open Go.RowKit Go.Shelf

theorem clp_in {x lo hi : Int} (h : lo ≤ hi) : lo ≤ clp x lo hi ∧ clp x lo hi ≤ hi := by unfold clp; omega

set_option maxHeartbeats 4000000 in
theorem ramp_any (c : Car) (hc : c.ok) (a b : Int) (w : World) : Calls Try.prog 34 #[cv c, iv a, iv b] w fun e w' => e = .returned (iv (rmp c a b)) ∧ Below w.heap.size w w' := by
  have HB : Hid (Below w.heap.size w (w.alloc (.cells #[iv c.len, iv c.acc, iv c.brk, iv c.rate, iv c.del] 23))) := Lib.hid ((Below.refl _ w).alloc (Nat.le_refl _) _)
  have h1 := clp_in (x := a) (lo := -c.brk) (hi := c.acc) (by unfold Car.ok at hc; omega)
  unfold rmp
  have H1 := Lib.hid (fun W => clamp_i64 a (-c.brk) c.acc W)
  generalize clp a (-c.brk) c.acc = x at *
  obtain ⟨x0, x1, x2, x3, x4⟩ := c
  unfold Car.ok at hc
  dsimp only at *
  obtain ⟨⟨_, _⟩, ⟨c1, c2⟩, ⟨c3, c4⟩, ⟨c5, c6⟩, _⟩ := hc
  obtain ⟨y1, y2⟩ := h1
  go_enter Try.func34, Try.ntmps34
  go_wp2_with (first
    | (go_at_call 40; (with_reducible refine (H1.out _).mono ?_); rintro e w1 ⟨rfl, hw⟩; obtain rfl := hw.symm)
    | (go_at_call 40; (with_reducible refine (clamp_i64 b _ _ _).mono ?_); rintro e w1 ⟨rfl, hw⟩; obtain rfl := hw.symm))
  all_goals go_ret
  all_goals refine ⟨?_, HB.out⟩
  all_goals (refine congrArg (fun z => Ending.returned (iv z)) ?_; unfold clp; omega)
theorem carE_ok {c : Car} (h : c.ok) : carE c = 0 := if_pos h
theorem carE_no {c : Car} (h : ¬ c.ok) : carE c = 2 := if_neg h
/-- Ramp: 0 for a car that is not valid. -/
def rmpC (c : Car) (a b : Int) : Int := if c.ok then rmp c a b else 0
set_option maxHeartbeats 4000000 in
theorem Ramp_any (c : Car) (a b : Int) (w : World) : Calls Try.prog 20 #[cv c, iv a, iv b] w fun e w' => e = .returned (iv (rmpC c a b)) ∧ Below w.heap.size w w' := by
  have hB : Below w.heap.size w (w.alloc (.cells #[iv c.len, iv c.acc, iv c.brk, iv c.rate, iv c.del] 23)) := (Below.refl _ w).alloc (Nat.le_refl _) _
  have HC := Lib.hid (fun W => car_any c W)
  by_cases hc : c.ok
  · have HR := Lib.hid (fun W => ramp_any c hc a b W)
    rw [carE_ok hc] at HC
    unfold rmpC
    rw [if_pos hc]
    obtain ⟨x0, x1, x2, x3, x4⟩ := c
    dsimp only at *
    clear hc
    have HX := Lib.hid (BoxAt.new w 23 #[iv x0, iv x1, iv x2, iv x3, iv x4])
    go_enter Try.func20, Try.ntmps20
    go_wp2_with (first
      | (go_at_call 8; (with_reducible refine (HC.out _).mono ?_); rintro e w1 ⟨rfl, hb1⟩; have hb2 := below_step hB hb1; obtain ⟨_, c0, c1, c2, c3, c4, l0⟩ := boxC HX.out hb1)
      | (go_at_call 34; (with_reducible refine (HR.out _).mono ?_); rintro e w2 ⟨rfl, hb3⟩))
    go_ret
    exact ⟨rfl, below_step hb2 hb3⟩
  · rw [carE_no hc] at HC
    unfold rmpC
    rw [if_neg hc]
    obtain ⟨x0, x1, x2, x3, x4⟩ := c
    dsimp only at *
    go_enter Try.func20, Try.ntmps20
    go_wp2_with (go_at_call 8; (with_reducible refine (HC.out _).mono ?_); rintro e w1 ⟨rfl, hb1⟩; have hb2 := below_step hB hb1)
    go_ret
    exact ⟨rfl, hb2⟩
end Go.Proofs.Ytcoccfijikiamaa
