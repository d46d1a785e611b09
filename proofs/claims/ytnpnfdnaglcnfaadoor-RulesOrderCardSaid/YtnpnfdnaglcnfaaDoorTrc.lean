/- The program's check of traces. -/
import Derived.Test.YtnpnfdnaglcnfaaDoorOne
namespace Go.Proofs.YtnpnfdnaglcnfaaDoor
open Go.RowKit Go.Shelf

set_option maxRecDepth 100000 in
set_option maxHeartbeats 4000000 in
theorem row_any (A : Option Addr) (cap : Nat) (l : List Int) (x : Int) (w : World) (hl : l.length ≤ 1000000) (hA : NumL w A l) :
    Calls Tryd.prog 45 #[.slice A l.length cap, iv x] w fun e w' => e = .returned (iv (rwE x l)) ∧ Below w.heap.size w w' := by
  have HA := Lib.hid hA
  obtain ⟨r, hr⟩ : ∃ r, r = rwE x l := ⟨_, rfl⟩
  rw [← hr]
  have HR := Lib.hid hr
  clear hA hr
  obtain ⟨N, hN⟩ : ∃ N, N = l.length := ⟨_, rfl⟩
  rw [← hN] at hl ⊢
  have HN := Lib.hid hN
  clear hN
  by_cases hx : (N : Int) = x
  · have HF : Hid (r = feL vlE l) := Lib.hid (by rw [HR.out, rwE, if_neg (by rw [← HN.out]; exact fun h => h hx)])
    have hx2 : ((N : Int) == x) = true := by simp [hx]
    clear HR
    subst hx
    go_enter Tryd.func45, Tryd.ntmps45
    go_wp2
    go_loopw [13] (fun i wr => ∃ k : Nat, k ≤ N ∧ i = iv k ∧ Hid (feL vlE l = feL vlE (l.drop k)) ∧ Hid (Below w.heap.size w wr)) (fun i _ => N - (intOf i).toNat)
    case atStart => exact ⟨0, Nat.zero_le _, rfl, Lib.hid rfl, Lib.hid (Below.refl _ _)⟩
    case round =>
      obtain ⟨k, hk, rfl, HO, HB⟩ := hrel
      by_cases hlt : k < N
      · have i0 : (0 : Int) ≤ (k : Int) := Int.natCast_nonneg _
        have i1 : (k : Int) < (N : Int) := by omega
        obtain ⟨y, hn, hd⟩ := drop_at (L := l) (k := k) (by rw [← HN.out]; exact hlt)
        obtain ⟨b, off, rfl, c0⟩ := (HA.out.below HB.out).at hn
        have l0 : b < wr.heap.size := World.block_lt_of_cell? wr _ c0
        have HO2 : Hid (feL vlE l = if vlE y ≠ 0 then vlE y else feL vlE (l.drop (k + 1))) := Lib.hid (by rw [HO.out, hd]; rfl)
        have HV := Lib.hid (fun W => within_i64 (-1099511627776) y 1099511627776 W)
        clear hn hd HO
        by_cases hq0 : -1099511627776 ≤ y ∧ y ≤ 1099511627776
        · have HF2 : Hid (feL vlE l = feL vlE (l.drop (k + 1))) := Lib.hid (by rw [HO2.out, vlE, if_pos hq0]; rfl)
          have HV2 := Lib.hid (fun W => (within_i64 (-1099511627776) y 1099511627776 W).mono (R' := fun e w' => e = .returned (.bool true) ∧ w' = W) fun e w' h => by rw [decide_eq_true hq0] at h; exact h)
          clear hq0 HV
          go_wp2_with (go_at_call 76; (with_reducible refine (HV2.out _).mono ?_); rintro e wb ⟨rfl, hw⟩; obtain rfl := hw.symm)
          go_roundw
          case rel => exact ⟨k + 1, by omega, by go_num, HF2, HB⟩
          case measure => simp [intOf]; omega
        · have HF2 : Hid (r = 2) := Lib.hid (by rw [HF.out, HO2.out, vlE, if_neg hq0]; rfl)
          have HV2 := Lib.hid (fun W => (within_i64 (-1099511627776) y 1099511627776 W).mono (R' := fun e w' => e = .returned (.bool false) ∧ w' = W) fun e w' h => by rw [decide_eq_false hq0] at h; exact h)
          clear hq0 HV
          go_wp2_with (go_at_call 76; (with_reducible refine (HV2.out _).mono ?_); rintro e wb ⟨rfl, hw⟩; obtain rfl := hw.symm)
          go_ret
          exact ⟨by rw [HF2.out]; rfl, HB.out⟩
      · obtain rfl : k = N := by omega
        have HF2 : Hid (r = 0) := Lib.hid (by
          rw [HF.out, HO.out, HN.out, drop_end l]
          rfl)
        go_wp2
        go_ret
        exact ⟨by rw [HF2.out]; rfl, HB.out⟩
  · have HF : Hid (r = 3) := Lib.hid (by rw [HR.out, rwE, if_pos (by rw [← HN.out]; exact hx)])
    go_enter Tryd.func45, Tryd.ntmps45
    go_wp2
    go_ret
    exact ⟨by rw [HF.out]; rfl, Below.refl _ _⟩
/-- All rows are short enough to be read. -/
def Short (t : List (List Int)) : Prop := ∀ r ∈ t, r.length ≤ 1000000

set_option maxRecDepth 100000 in
set_option maxHeartbeats 4000000 in
theorem trace_any (A : Option Addr) (cap : Nat) (t : List (List Int)) (x : Int) (w : World) (hs : Short t) (hA : RowsL w A t) :
    Calls Tryd.prog 18 #[.slice A t.length cap, iv x] w fun e w' => e = .returned (iv (trE t x)) ∧ Below w.heap.size w w' := by
  have HA := Lib.hid hA
  have HS := Lib.hid hs
  obtain ⟨r, hr⟩ : ∃ r, r = trE t x := ⟨_, rfl⟩
  rw [← hr]
  have HR := Lib.hid hr
  clear hA hr hs
  obtain ⟨N, hN⟩ : ∃ N, N = t.length := ⟨_, rfl⟩
  rw [← hN]
  have HN := Lib.hid hN
  clear hN
  by_cases hx : 1 ≤ x ∧ x ≤ 12
  · have HW := Lib.hid (fun W => (width_any x W).mono (R' := fun e w' => e = .returned (iv 0) ∧ w' = W) fun e w' h => by rw [if_pos hx] at h; exact h)
    have HX : Hid (¬ ¬ (1 ≤ x ∧ x ≤ 12)) := Lib.hid (by omega)
    clear hx
    by_cases hN40 : 400 < N
    · have HF : Hid (r = 8) := Lib.hid (by rw [HR.out, trE, if_neg HX.out, if_pos (by rw [← HN.out]; exact hN40)])
      have g : (400 : Int) < (N : Int) := by omega
      go_enter Tryd.func18, Tryd.ntmps18
      go_wp2_with (go_at_call 44; (with_reducible refine (HW.out _).mono ?_); rintro e wb ⟨rfl, hw⟩; obtain rfl := hw.symm)
      go_ret
      exact ⟨by rw [HF.out]; rfl, Below.refl _ _⟩
    · have g : ¬ (400 : Int) < (N : Int) := by omega
      have HF : Hid (r = feL (rwE x) t) := Lib.hid (by rw [HR.out, trE, if_neg HX.out, if_neg (by rw [← HN.out]; exact hN40)])
      clear HX HR
      go_enter Tryd.func18, Tryd.ntmps18
      go_wp2_with (go_at_call 44; (with_reducible refine (HW.out _).mono ?_); rintro e wb ⟨rfl, hw⟩; obtain rfl := hw.symm)
      go_loopw [19] (fun i wr => ∃ k : Nat, k ≤ N ∧ i = iv k ∧ Hid (feL (rwE x) t = feL (rwE x) (t.drop k)) ∧ Hid (Below w.heap.size w wr)) (fun i _ => N - (intOf i).toNat)
      case atStart => exact ⟨0, Nat.zero_le _, rfl, Lib.hid rfl, Lib.hid (Below.refl _ _)⟩
      case round =>
        obtain ⟨k, hk, rfl, HO, HB⟩ := hrel
        by_cases hlt : k < N
        · have i0 : (0 : Int) ≤ (k : Int) := Int.natCast_nonneg _
          have i1 : (k : Int) < (N : Int) := by omega
          obtain ⟨l, hn, hd⟩ := drop_at (L := t) (k := k) (by rw [← HN.out]; exact hlt)
          obtain ⟨b, off, C, c, rfl, c0, hl⟩ := (HA.out.below HB.out).at hn
          have l0 : b < wr.heap.size := World.block_lt_of_cell? wr _ c0
          obtain ⟨z, hz⟩ : ∃ z, z = rwE x l := ⟨_, rfl⟩
          have HO2 : Hid (feL (rwE x) t = if z ≠ 0 then z else feL (rwE x) (t.drop (k + 1))) := Lib.hid (by rw [HO.out, hd, hz]; rfl)
          have HRw := Lib.hid (fun W (hW : Below wr.heap.size wr W) => row_any C c l x W (HS.out l (List.mem_of_getElem? hn)) (hl.below hW))
          rw [← hz] at HRw
          obtain ⟨M, hM⟩ : ∃ M, M = l.length := ⟨_, rfl⟩
          rw [← hM] at HRw c0
          have HB0 := Lib.hid (Below.refl wr.heap.size wr)
          clear hn hd HO hz hl hM
          by_cases hq0 : z = 0
          · subst hq0
            have HF2 : Hid (feL (rwE x) t = feL (rwE x) (t.drop (k + 1))) := Lib.hid HO2.out
            go_wp2_with (go_at_call 45; (with_reducible refine (HRw.out _ HB0.out).mono ?_); rintro e wb ⟨rfl, hbb⟩)
            go_roundw
            case rel => exact ⟨k + 1, by omega, by go_num, HF2, Lib.hid (below_step HB.out hbb)⟩
            case measure => simp [intOf]; omega
          · have HF2 : Hid (r = z) := Lib.hid (by rw [HF.out, HO2.out, if_pos hq0])
            go_wp2_with (go_at_call 45; (with_reducible refine (HRw.out _ HB0.out).mono ?_); rintro e wb ⟨rfl, hbb⟩)
            go_ret
            exact ⟨by rw [HF2.out]; rfl, below_step HB.out hbb⟩
        · obtain rfl : k = N := by omega
          have HF2 : Hid (r = 0) := Lib.hid (by
            rw [HF.out, HO.out, HN.out, drop_end t]
            rfl)
          go_wp2
          go_ret
          exact ⟨by rw [HF2.out]; rfl, HB.out⟩
  · have HW := Lib.hid (fun W => (width_any x W).mono (R' := fun e w' => e = .returned (iv 2) ∧ w' = W) fun e w' h => by rw [if_neg hx] at h; exact h)
    have HF : Hid (r = 2) := Lib.hid (by rw [HR.out, trE, if_pos hx])
    clear hx
    go_enter Tryd.func18, Tryd.ntmps18
    go_wp2_with (go_at_call 44; (with_reducible refine (HW.out _).mono ?_); rintro e wb ⟨rfl, hw⟩; obtain rfl := hw.symm)
    go_ret
    exact ⟨by rw [HF.out]; rfl, Below.refl _ _⟩
end Go.Proofs.YtnpnfdnaglcnfaaDoor
