/- The chapter's examples that every statement asks. -/
import Derived.Test.YtcoccfijikiamaaLaw0
import Derived.Test.YtcoccfijikiamaaPrf
import Derived.Test.YtcoccfijikiamaaChk
namespace Go.Proofs.Ytcoccfijikiamaa
open Go.RowKit Go.Shelf

theorem chk_k1 : chkP kCar [0, -40] = 11 := by decide +kernel
theorem rmp_k1 : rmpC kCar 20 (-60) = -10 := by decide +kernel
theorem stop_k1 : IsStop kCar 20 20 2 := ⟨by decide, by decide, by decide +kernel, fun j h1 h2 => by
  obtain rfl : j = 1 := by omega
  decide +kernel⟩
theorem prf_k1 : prf kCar [0] 0 1 0 = [0, 20] := by decide +kernel
theorem box_num {W : World} {B : Nat} {cs : Array Value} (l : List Int) (h : BoxAt W B 2 cs) (e : cs = (l.map fun x => iv x).toArray) : NumL W (some ⟨B, 0, none⟩) l := by
  subst e
  exact num_box h
set_option maxRecDepth 100000 in
theorem profile_k1 (B : Nat) (W : World) (h : BoxAt W B 2 #[iv 0]) : Calls Try.prog 28 #[cv kCar, .slice (some ⟨B, 0, none⟩) 1 1, iv 0, iv 0, iv 1, iv 0] W fun e w' => ∃ A cap, e = .returned (pv A 4 cap) ∧ NumL w' A [0, 20, -10, -40] ∧ Below W.heap.size W w' := by
  refine (profile_any kCar kCar_ok (some ⟨B, 0, none⟩) 1 [0] 0 0 1 0 W (box_num [0] h rfl) (by simp) (by simp) (by simp [I64]) (by simp [I64])).mono fun e w' hh => ?_
  obtain ⟨n, A, N, cap, hn, hN, he, _, hA, hb⟩ := hh
  rw [show (clp 1 0 20).toNat = 1 by decide, show (clp 0 0 20).toNat = 0 by decide, prf_k1] at hn hN hA
  rw [show lst 0 [0, 20] = 20 from rfl] at hn hN hA
  rw [show clp (vel 0 [0, 20]) 0 2000 = 20 by decide +kernel] at hn
  obtain rfl := isStop_uniq hn stop_k1
  rw [show [0, 20] ++ rmps kCar (-kCar.brk) 2 20 = [0, 20, -10, -40] by decide +kernel] at hN hA
  subst hN
  exact ⟨A, cap, he, hA.num, hb⟩
set_option maxRecDepth 100000 in
set_option maxHeartbeats 4000000 in
theorem awake_any (w : World) : Calls Try.prog 7 #[] w fun e w' => e = .returned (.bool true) ∧ Below w.heap.size w w' := by
  have HCar := Lib.hid (fun W => lcar_any W)
  have HC := Lib.hid (fun W => car_any kCar W)
  rw [carE_ok kCar_ok] at HC
  have HCk : Hid (∀ B W, BoxAt W B 2 #[iv 0, iv (-40)] → Calls Try.prog 10 #[cv kCar, pv (some ⟨B, 0, none⟩) 2 2] W fun e w' => e = .returned (iv 11) ∧ Below W.heap.size W w') := Lib.hid (fun B W h => by
    have h1 := check_any kCar (some ⟨B, 0, none⟩) 2 [0, -40] W (box_num _ h rfl) (by simp) (by simp)
    rw [chk_k1] at h1
    exact h1)
  have HR := Lib.hid (fun W => Ramp_any kCar 20 (-60) W)
  rw [rmp_k1] at HR
  have HP := Lib.hid profile_k1
  have HS : Hid (∀ A cap B W, NumL W A [0, 20, -10, -40] → BoxAt W B 2 #[iv 0, iv 20, iv (-10), iv (-40)] → Calls Try.prog 15 #[pv A 4 cap, pv (some ⟨B, 0, none⟩) 4 4] W fun e w' => e = .returned (.bool true) ∧ Below W.heap.size W w') := Lib.hid (fun A cap B W h1 h2 => by
    have h3 := rsame_any A cap [0, 20, -10, -40] (some ⟨B, 0, none⟩) 4 [0, 20, -10, -40] W (by simp) (by simp) h1 (box_num _ h2 rfl)
    rw [decide_eq_true rfl] at h3
    exact h3)
  generalize kCar = k at *
  have hB := Below.refl w.heap.size w
  go_enter Try.func7, Try.ntmps7
  go_wp2_with (first
    | (go_at_call 18; (with_reducible refine (HCar.out _).mono ?_); rintro e w1 ⟨rfl, hb1⟩; replace hB := below_step hB hb1; have hbx := hB.alloc hB.size (.cells #[iv 0, iv (-40)] 2); have hx := Lib.hid (BoxAt.new w1 2 #[iv 0, iv (-40)]); have hby := hB.alloc hB.size (.cells #[iv 0] 2); have hy := Lib.hid (BoxAt.new w1 2 #[iv 0]); clear hb1)
    | (go_at_call 8; (with_reducible refine (HC.out _).mono ?_); rintro e w2 ⟨rfl, hb1⟩; replace hB := below_step hB hb1; clear hb1)
    | (go_at_call 10; (with_reducible refine (HCk.out _ _ hx2.out).mono ?_); rintro e w3 ⟨rfl, hb1⟩; replace hB := below_step hB hb1; clear hb1)
    | (go_at_call 15; (with_reducible refine (HS.out _ _ _ _ hA2.out hz2.out).mono ?_); rintro e w3 ⟨rfl, hb1⟩; replace hB := below_step hB hb1; clear hb1)
    | (go_at_call 19; (with_reducible refine (acts_any (some ⟨w1.heap.size, 0, none⟩) 2 2 _).mono ?_); rintro e w4 ⟨rfl, hb1⟩; replace hB := below_step hbx hb1; have hx2 := Lib.hid (box_step hx.out hb1); clear hb1)
    | (go_at_call 20; (with_reducible refine (HR.out _).mono ?_); rintro e w5 ⟨rfl, hb1⟩; replace hB := below_step hB hb1; clear hb1)
    | (go_at_call 28; (with_reducible refine (HP.out _ _ hy.out).mono ?_); rintro e w6 ⟨A, cap, rfl, hA, hb1⟩; replace hB := below_step hby hb1; have hbz := hB.alloc hB.size (.cells #[iv 0, iv 20, iv (-10), iv (-40)] 2); have hA1 := Lib.hid (hA.below ((Below.refl _ w6).alloc (Nat.le_refl _) (.cells #[iv 0, iv 20, iv (-10), iv (-40)] 2))); have hz := Lib.hid (BoxAt.new w6 2 #[iv 0, iv 20, iv (-10), iv (-40)]); clear hb1 hA)
    | (go_at_call 19; (with_reducible refine (acts_any (some ⟨w6.heap.size, 0, none⟩) 4 4 _).mono ?_); rintro e w7 ⟨rfl, hb1⟩; replace hB := below_step hbz hb1; have hz2 := Lib.hid (box_step hz.out hb1); have hA2 := Lib.hid (hA1.out.below hb1); clear hb1))
  go_ret
  exact ⟨rfl, hB⟩
end Go.Proofs.Ytcoccfijikiamaa
