/- The course of a plan: stop. -/
import Derived.Test.YtcoccfijikiamaaCrr
import Derived.Deep.LoopGhost
namespace Go.Proofs.Ytcoccfijikiamaa
open Go.RowKit Go.Shelf

theorem clp_one : (clp 1 0 20).toNat = 1 := by decide
theorem veN_one (c : Car) (a : Int) (n : Nat) : rmps c (-c.brk) (n + 1) a = rmps c (-c.brk) n a ++ [acN c a (n + 1)] := by rw [acN_succ, rmps_succ]; rfl
set_option maxRecDepth 100000 in
set_option maxHeartbeats 4000000 in
theorem stop_any (g : Nat) (c : Car) (hc : c.ok) (L : List Int) (a v : Int) (w : World) (h : Crs w g c L a v) (hL : L.length ≤ 100000) (hv : I64 v) :
    Calls Try.prog 35 #[.pointer (some ⟨g, 0, none⟩)] w fun e w' => e = .returned (.tuple #[]) ∧ ∃ n, IsStop c a (clp v 0 2000) n ∧ Crs w' g c (L ++ rmps c (-c.brk) n a) (acN c a n) 0 ∧ Below g w w' := by
  have H1 := Lib.hid (fun W => clamp_i64 v 0 2000 W)
  have hv0 := clp_in (x := v) (lo := 0) (hi := 2000) (by decide)
  generalize clp v 0 2000 = v0 at *
  obtain ⟨sv, hb, hr⟩ := h.lies
  have HL := Lib.hid hL
  have HC := Lib.hid hc
  have HV0 := Lib.hid hv0
  have HX := Lib.hid hb
  have HR := Lib.hid hr
  have c7 : w.cell? ⟨g, 7, none⟩ = some (iv v) := hb.cell 7
  have f7 := hb.frozen 7
  have l7 := hb.lt
  have hbr : 20 ≤ c.brk ∧ c.brk ≤ 90 := hc.2.2.1
  obtain ⟨b1, b2⟩ := hbr
  clear h hb hr hL hc hv hv0
  go_enter Try.func35, Try.ntmps35
  go_upto_region 1 with (go_at_call 40; (with_reducible refine (H1.out _).mono ?_); rintro e w1 ⟨rfl, hw⟩; obtain rfl := hw.symm)
  have HX1 := Lib.hid (HX.out.set 7 (iv v0))
  have HK1 : Hid (Crs (w.setCell ⟨g, 7, none⟩ (iv v0)) g c L a v0) := Lib.hid ⟨sv, HX1.out, HR.out.kept (grown_set _ _ _) (Or.inr (fun e2 => by have := (HR.out.lt g e2).1; omega))⟩
  have HB1 : Hid (Below g w (w.setCell ⟨g, 7, none⟩ (iv v0))) := Lib.hid ((Below.refl g w).setCell (p := ⟨g, 7, none⟩) (Nat.le_refl _) _)
  have c2 : (w.setCell ⟨g, 7, none⟩ (iv v0)).cell? ⟨g, 2, none⟩ = some (iv c.brk) := HX1.out.cell 2
  have HRp := Lib.hid (fun (k : Nat) (hk : k ≤ 200) (W : World) (hW : Crs W g c (L ++ rmps c (-c.brk) k a) (acN c a k) (veN c a v0 k)) =>
    (show Calls Try.prog 39 #[.pointer (some ⟨g, 0, none⟩), iv (-c.brk), iv 1] W fun e w' => e = .returned (.tuple #[]) ∧ Crs w' g c (L ++ rmps c (-c.brk) (k + 1) a) (acN c a (k + 1)) (veN c a v0 (k + 1)) ∧ Below g W w' from by
      have h1 := cramp_any g c HC.out (L ++ rmps c (-c.brk) k a) (acN c a k) (veN c a v0 k) (-c.brk) 1 W hW (by rw [List.length_append, rmps_len]; have := HL.out; omega) (by
        have h2 := HV0.out
        obtain ⟨h3, h4⟩ := veN_in c a h2.1 h2.2 k
        exact ⟨by omega, by omega⟩)
      rw [clp_one] at h1
      refine h1.mono fun e w' ⟨e1, e2, e3⟩ => ⟨e1, ?_, e3⟩
      rw [veN_succ, veN_one, acN_succ, ← List.append_assoc]
      exact e2))
  clear HX1 HX HR c7 f7 l7
  generalize w.setCell ⟨g, 7, none⟩ (iv v0) = w1 at *
  have HK1' : Hid (Crs w1 g c (L ++ rmps c (-c.brk) 0 a) (acN c a 0) (veN c a v0 0)) := Lib.hid (by rw [rmps, List.append_nil]; exact HK1.out)
  have l1 := HK1.out.lt
  go_upto_region 2 with (go_at_call 39; (with_reducible refine (HRp.out 0 (by omega) _ HK1'.out).mono ?_); rintro e w2 ⟨rfl, hk2, hb2⟩)
  have HK2 := Lib.hid hk2
  have HB2 := Lib.hid (HB1.out.trans hb2)
  clear hk2 hb2 HK1 HK1' c2 l1
  go_loopg [] 109 (fun gk wr => ∃ k : Nat, k + gk = 110 ∧ 1 ≤ k ∧ Hid (Crs wr g c (L ++ rmps c (-c.brk) k a) (acN c a k) (veN c a v0 k)) ∧ Hid (∀ j, 1 ≤ j → j < k → 0 < veN c a v0 j) ∧ Hid (Below g w wr))
  case atStart =>
    refine ⟨1, by omega, Nat.le_refl _, HK2, Lib.hid (fun j h1 h2 => by omega), HB2⟩
  case round =>
    obtain ⟨k, hk, hk1, HK, HP, HB⟩ := hrel
    obtain ⟨sv', hb, hr⟩ := HK.out.lies
    have c7 : wr.cell? ⟨g, 7, none⟩ = some (iv (veN c a v0 k)) := hb.cell 7
    have c2 : wr.cell? ⟨g, 2, none⟩ = some (iv c.brk) := hb.cell 2
    have l0 := hb.lt
    have HIn := Lib.hid (veN_in c a HV0.out.1 HV0.out.2 k)
    clear hb hr
    by_cases hlt : 0 < veN c a v0 k
    · have hk2 : k < 110 := by
        rcases Nat.lt_or_ge k 110 with h | h
        · exact h
        · obtain rfl : k = 110 := by omega
          rw [veN_end HC.out a HV0.out.1 HV0.out.2] at hlt
          omega
      have HP2 : Hid (∀ j, 1 ≤ j → j < k + 1 → 0 < veN c a v0 j) := Lib.hid (fun j h1 h2 => by
        rcases Nat.lt_or_ge j k with h | h
        · exact HP.out j h1 h
        · obtain rfl : j = k := by omega
          exact hlt)
      generalize hvk : veN c a v0 k = vk at c7 hlt
      clear hvk
      go_wp2_with (go_at_call 39; (with_reducible refine (HRp.out k (by omega) _ HK.out).mono ?_); rintro e w3 ⟨rfl, hk3, hb3⟩)
      go_roundg (gk - 1)
      case measure => omega
      case rel => exact ⟨k + 1, by omega, by omega, Lib.hid hk3, HP2, Lib.hid (HB.out.trans hb3)⟩
    · have hz : veN c a v0 k = 0 := by have := HIn.out.1; omega
      have HS : Hid (IsStop c a v0 k) := Lib.hid ⟨hk1, by omega, hz, HP.out⟩
      rw [hz] at c7 HK
      clear hlt hz HIn
      go_wp2
      go_end0
      exact ⟨rfl, k, HS.out, HK.out, HB.out⟩
end Go.Proofs.Ytcoccfijikiamaa
