/- checkOne and checkForm. -/
import Derived.Test.YtnpnfdnaglcnfaaDoorMem
namespace Go.Proofs.YtnpnfdnaglcnfaaDoor
open Go.RowKit Go.Shelf

set_option maxRecDepth 100000 in
set_option maxHeartbeats 4000000 in
theorem one_any (A : Option Addr) (cap : Nat) (L : List Nd) (w : World) (hL : L.length ≤ 1000000) (hA : NdsL w A L) :
    Calls Tryd.prog 70 #[.slice A L.length cap] w fun e w' => e = .returned (iv (one 1 L)) ∧ Below w.heap.size w w' := by
  have HA := Lib.hid hA
  obtain ⟨r, hr⟩ : ∃ r, r = one 1 L := ⟨_, rfl⟩
  rw [← hr]
  have HR := Lib.hid hr
  clear hA hr
  obtain ⟨N, hN⟩ : ∃ N, N = L.length := ⟨_, rfl⟩
  rw [← hN] at hL ⊢
  have HN := Lib.hid hN
  clear hN
  go_enter Tryd.func70, Tryd.ntmps70
  go_wp2
  go_loopw [3, 8] (fun m i wr => ∃ k q : Nat, k ≤ N ∧ q ≤ k + 1 ∧ i = iv k ∧ m = iv q ∧ Hid (one q (L.drop k) = r) ∧ Hid (Below w.heap.size w wr)) (fun _ i _ => N - (intOf i).toNat)
  case atStart => exact ⟨0, 1, Nat.zero_le _, Nat.le_refl _, rfl, rfl, Lib.hid HR.out.symm, Lib.hid (Below.refl _ _)⟩
  case round =>
    obtain ⟨k, q, hk, hq, rfl, rfl, HO, HB⟩ := hrel
    by_cases hlt : k < N
    · have i0 : (0 : Int) ≤ (k : Int) := Int.natCast_nonneg _
      have i1 : (k : Int) < (N : Int) := by omega
      obtain ⟨n, hn, hd⟩ := drop_at (L := L) (k := k) (by rw [← HN.out]; exact hlt)
      obtain ⟨b, off, rfl, c0, c1, c2, c3, c4, c5⟩ := (HA.out.below HB.out).at hn
      have l0 : b < wr.heap.size := World.block_lt_of_cell? wr _ c0
      have HO2 : Hid (one q (n :: L.drop (k + 1)) = r) := Lib.hid (hd ▸ HO.out)
      clear hn hd HO
      have hp := prt_le n.op
      by_cases hq0 : q = 0
      · subst hq0
        have HF : Hid (r = 5) := Lib.hid HO2.out.symm
        go_wp2
        go_ret
        exact ⟨by rw [HF.out]; rfl, HB.out.alloc HB.out.size _⟩
      · obtain ⟨q', rfl⟩ : ∃ q', q = q' + 1 := ⟨q - 1, by omega⟩
        have HF : Hid (one (q' + prt n.op) (L.drop (k + 1)) = r) := Lib.hid HO2.out
        have e2 : ¬ ((q' + 1 : Nat) : Int) = 0 := by omega
        go_wp2_with (go_at_call 98; (with_reducible refine (parts_any _ _).mono ?_); rintro e wb ⟨rfl, rfl⟩)
        go_roundw
        case rel => exact ⟨k + 1, q' + prt n.op, by omega, by omega, by go_num, by go_num, HF, Lib.hid (HB.out.alloc HB.out.size _)⟩
        case measure => simp [intOf]; omega
    · obtain rfl : k = N := by omega
      have hd : L.drop k = [] := by rw [HN.out]; exact drop_end L
      have HO2 : Hid (one q [] = r) := Lib.hid (hd ▸ HO.out)
      clear hd HO
      by_cases hq0 : q = 0
      · subst hq0
        have HF : Hid (r = 0) := Lib.hid HO2.out.symm
        go_wp2
        go_ret
        exact ⟨by rw [HF.out]; rfl, HB.out⟩
      · obtain ⟨q', rfl⟩ : ∃ q', q = q' + 1 := ⟨q - 1, by omega⟩
        have HF : Hid (r = 6) := Lib.hid HO2.out.symm
        have e2 : (0 : Int) < ((q' + 1 : Nat) : Int) := by omega
        go_wp2
        go_ret
        exact ⟨by rw [HF.out]; rfl, HB.out⟩

/-- What checkForm returns. -/
theorem shpE_le {L : List Nd} {w : Int} (h : shpE L w = 0) : L.length ≤ 40 := by
  unfold shpE at h
  repeat' split at h
  all_goals omega
set_option maxRecDepth 100000 in
set_option maxHeartbeats 4000000 in
theorem form_any (A : Option Addr) (cap : Nat) (L : List Nd) (x : Int) (w : World) (hA : NdsL w A L) :
    Calls Tryd.prog 40 #[.slice A L.length cap, iv x] w fun e w' => e = .returned (iv (shpE L x)) ∧ Below w.heap.size w w' := by
  have HA := Lib.hid hA
  obtain ⟨r, hr⟩ : ∃ r, r = shpE L x := ⟨_, rfl⟩
  rw [← hr]
  have HR := Lib.hid hr
  clear hA hr
  obtain ⟨N, hN⟩ : ∃ N, N = L.length := ⟨_, rfl⟩
  rw [← hN]
  have HN := Lib.hid hN
  clear hN
  by_cases hx : 1 ≤ x ∧ x ≤ 12
  · have HW := Lib.hid (fun W => (width_any x W).mono (R' := fun e w' => e = .returned (iv 0) ∧ w' = W) fun e w' h => by rw [if_pos hx] at h; exact h)
    obtain ⟨hx1, hx2⟩ := hx
    have HX : Hid (¬ ¬ (1 ≤ x ∧ x ≤ 12)) := Lib.hid (by omega)
    by_cases hN40 : 40 < N
    · have HF : Hid (r = 5) := Lib.hid (by rw [HR.out, shpE, if_neg HX.out, if_pos (by rw [← HN.out]; exact hN40)])
      have g : (40 : Int) < (N : Int) := by omega
      go_enter Tryd.func40, Tryd.ntmps40
      go_wp2_with (go_at_call 44; (with_reducible refine (HW.out _).mono ?_); rintro e wb ⟨rfl, hw⟩; obtain rfl := hw.symm)
      go_ret
      exact ⟨by rw [HF.out]; rfl, Below.refl _ _⟩
    · have g : ¬ (40 : Int) < (N : Int) := by omega
      have HF : Hid (r = if feL (ndE x) L ≠ 0 then feL (ndE x) L else one 1 L) := Lib.hid (by rw [HR.out, shpE, if_neg HX.out, if_neg (by rw [← HN.out]; exact hN40)])
      clear HX HR
      go_enter Tryd.func40, Tryd.ntmps40
      go_wp2_with (go_at_call 44; (with_reducible refine (HW.out _).mono ?_); rintro e wb ⟨rfl, hw⟩; obtain rfl := hw.symm)
      go_loopw [19] (fun i wr => ∃ k : Nat, k ≤ N ∧ i = iv k ∧ Hid (feL (ndE x) L = feL (ndE x) (L.drop k)) ∧ Hid (Below w.heap.size w wr)) (fun i _ => N - (intOf i).toNat)
      case atStart => exact ⟨0, Nat.zero_le _, rfl, Lib.hid rfl, Lib.hid (Below.refl _ _)⟩
      case round =>
        obtain ⟨k, hk, rfl, HO, HB⟩ := hrel
        by_cases hlt : k < N
        · have i0 : (0 : Int) ≤ (k : Int) := Int.natCast_nonneg _
          have i1 : (k : Int) < (N : Int) := by omega
          obtain ⟨n, hn, hd⟩ := drop_at (L := L) (k := k) (by rw [← HN.out]; exact hlt)
          obtain ⟨b, off, rfl, c0, c1, c2, c3, c4, c5⟩ := (HA.out.below HB.out).at hn
          have l0 : b < wr.heap.size := World.block_lt_of_cell? wr _ c0
          obtain ⟨z, hz⟩ : ∃ z, z = ndE x n := ⟨_, rfl⟩
          have HO2 : Hid (feL (ndE x) L = if z ≠ 0 then z else feL (ndE x) (L.drop (k + 1))) := Lib.hid (by rw [HO.out, hd, hz]; rfl)
          have HNd := Lib.hid (fun W => (node_any n x hx1 hx2 W).mono (R' := fun e w' => e = .returned (iv z) ∧ Below W.heap.size W w') fun e w' h => by rw [← hz] at h; exact h)
          clear hn hd HO hz
          by_cases hq0 : z = 0
          · subst hq0
            have HF2 : Hid (feL (ndE x) L = feL (ndE x) (L.drop (k + 1))) := Lib.hid HO2.out
            go_wp2_with (go_at_call 69; (with_reducible refine (HNd.out _).mono ?_); rintro e wb ⟨rfl, hbb⟩)
            go_roundw
            case rel => exact ⟨k + 1, by omega, by go_num, HF2, Lib.hid (below_step2 HB.out hbb)⟩
            case measure => simp [intOf]; omega
          · have HF2 : Hid (r = z) := Lib.hid (by rw [HF.out, HO2.out, if_pos hq0, if_pos hq0])
            go_wp2_with (go_at_call 69; (with_reducible refine (HNd.out _).mono ?_); rintro e wb ⟨rfl, hbb⟩)
            go_ret
            exact ⟨by rw [HF2.out]; rfl, below_step2 HB.out hbb⟩
        · obtain rfl : k = N := by omega
          have HF2 : Hid (r = one 1 L) := Lib.hid (by
            rw [HF.out, HO.out, HN.out, drop_end L]
            rfl)
          have HO1 := Lib.hid (fun W (h : NdsL W A L) => one_any A cap L W (by rw [← HN.out]; omega) h)
          rw [← HN.out] at HO1
          have HF3 := Lib.hid HF2.out.symm
          rw [HF3.out] at HO1
          go_wp2_with (go_at_call 70; (with_reducible refine (HO1.out _ (HA.out.below HB.out)).mono ?_); rintro e wb ⟨rfl, hbb⟩)
          go_ret
          exact ⟨rfl, below_step HB.out hbb⟩
  · have HW := Lib.hid (fun W => (width_any x W).mono (R' := fun e w' => e = .returned (iv 2) ∧ w' = W) fun e w' h => by rw [if_neg hx] at h; exact h)
    have HF : Hid (r = 2) := Lib.hid (by rw [HR.out, shpE, if_pos hx])
    clear hx
    go_enter Tryd.func40, Tryd.ntmps40
    go_wp2_with (go_at_call 44; (with_reducible refine (HW.out _).mono ?_); rintro e wb ⟨rfl, hw⟩; obtain rfl := hw.symm)
    go_ret
    exact ⟨by rw [HF.out]; rfl, Below.refl _ _⟩
end Go.Proofs.YtnpnfdnaglcnfaaDoor
