/- The check of plans. -/
import Derived.Test.YtcoccfijikiamaaAct
namespace Go.Proofs.Ytcoccfijikiamaa
open Go.RowKit Go.Shelf

theorem all_at {p : Int → Bool} {L : List Int} (h : L.all p = true) {i : Nat} {x : Int} (hi : L[i]? = some x) : p x = true := List.all_eq_true.1 h x (List.mem_of_getElem? hi)
set_option maxRecDepth 100000 in
set_option maxHeartbeats 8000000 in
theorem check_any (c : Car) (A : Option Addr) (cap : Nat) (L : List Int) (w : World) (hA : NumL w A L) (hcap : L.length ≤ cap) (hl : L.length ≤ 1000000) :
    Calls Try.prog 10 #[cv c, pv A L.length cap] w fun e w' => e = .returned (iv (chkP c L)) ∧ Below w.heap.size w w' := by
  obtain ⟨z, hz⟩ : ∃ z, z = chkP c L := ⟨_, rfl⟩
  rw [← hz]
  have HZ := Lib.hid hz
  unfold chkP at HZ
  clear hz
  have hB : Below w.heap.size w ((w.alloc (.cells #[iv c.len, iv c.acc, iv c.brk, iv c.rate, iv c.del] 23)).alloc (.cells #[.slice A L.length cap] 26)) := ((Below.refl _ w).alloc (Nat.le_refl _) _).alloc (by simp) _
  have HX := Lib.hid ((BoxAt.new w 23 #[iv c.len, iv c.acc, iv c.brk, iv c.rate, iv c.del]).alloc (.cells #[.slice A L.length cap] 26))
  have HY : Hid (BoxAt ((w.alloc (.cells #[iv c.len, iv c.acc, iv c.brk, iv c.rate, iv c.del] 23)).alloc (.cells #[.slice A L.length cap] 26)) (w.heap.size + 1) 26 #[.slice A L.length cap]) := Lib.hid (by
    have h := BoxAt.new (w.alloc (.cells #[iv c.len, iv c.acc, iv c.brk, iv c.rate, iv c.del] 23)) 26 #[.slice A L.length cap]
    rw [World.size_alloc] at h
    exact h)
  have HC := Lib.hid (fun W => car_any c W)
  have HA := Lib.hid (hA.below hB)
  have HAc := Lib.hid (fun W (h : NumL W A L) => act_any A cap L L.length W h hl)
  obtain ⟨N, hN⟩ : ∃ N, N = L.length := ⟨_, rfl⟩
  rw [← hN] at HX HY HAc HA hB hcap hl ⊢
  have HN := Lib.hid hN
  clear hA hN
  by_cases hc : c.ok
  rotate_left
  · rw [carE_no hc] at HC
    have hz2 : z = 2 := by rw [HZ.out, if_pos hc]
    subst hz2
    go_enter Try.func10, Try.ntmps10
    go_wp2_with (go_at_call 8; (with_reducible refine (HC.out _).mono ?_); rintro e w1 ⟨rfl, hb1⟩; have hb2 := below_step hB hb1)
    go_ret
    exact ⟨rfl, hb2⟩
  rw [carE_ok hc] at HC
  rw [if_neg (show ¬ ¬ c.ok from fun h => h hc), ← HN.out] at HZ
  have hcb := hc
  unfold Car.ok at hcb
  obtain ⟨_, ⟨a1, a2⟩, ⟨b1, b2⟩, ⟨r1, r2⟩, _⟩ := hcb
  by_cases h0 : N = 0
  · have hz2 : z = 6 := by rw [HZ.out, if_pos h0]
    subst hz2
    subst h0
    go_enter Try.func10, Try.ntmps10
    go_wp2_with (go_at_call 8; (with_reducible refine (HC.out _).mono ?_); rintro e w1 ⟨rfl, hb1⟩; have hb2 := below_step hB hb1; have hy := HY.out.below hb1 HY.out.lt; have d0 := hy.cell 0; have l0 := hy.lt)
    go_ret
    exact ⟨rfl, hb2⟩
  rw [if_neg h0] at HZ
  by_cases h200 : 200 < N
  · have hz2 : z = 5 := by rw [HZ.out, if_pos h200]
    subst hz2
    have i1 : (200 : Int) < (N : Int) := by omega
    go_enter Try.func10, Try.ntmps10
    go_wp2_with (go_at_call 8; (with_reducible refine (HC.out _).mono ?_); rintro e w1 ⟨rfl, hb1⟩; have hb2 := below_step hB hb1; have hy := HY.out.below hb1 HY.out.lt; have d0 := hy.cell 0; have l0 := hy.lt)
    go_ret
    exact ⟨rfl, hb2⟩
  rw [if_neg h200] at HZ
  obtain ⟨b, off, hAe⟩ : ∃ b off, A = some ⟨b, off, none⟩ := by
    obtain ⟨b, off, e, _⟩ := HA.out (by rw [← HN.out]; omega)
    exact ⟨b, off, e⟩
  subst hAe
  have n0 : (0 : Int) < (N : Int) := by omega
  have n2 : (N : Int) ≤ 200 := by omega
  have n3 : ((N : Int) == 0) = false := by simp; omega
  have n4 : decide (200 < (N : Int)) = false := by simp; omega
  go_enter Try.func10, Try.ntmps10
  go_upto_region 8 with (go_at_call 8; (with_reducible refine (HC.out _).mono ?_); rintro e w1 ⟨rfl, hb1⟩; have hy := HY.out.below hb1 HY.out.lt; have d0 := hy.cell 0; have l0 := hy.lt)
  have HB1 := Lib.hid (below_step hB hb1)
  have HX1 := Lib.hid (HX.out.below hb1 HX.out.lt)
  have HY1 := Lib.hid hy
  have HA1 := Lib.hid (HA.out.below hb1)
  clear hb1 hy d0 l0 hB HX HY HA HC n3 n4
  have d0 : w1.cell? ⟨w.heap.size + 1, 0, none⟩ = some (.slice (some ⟨b, off, none⟩) N cap) := HY1.out.cell 0
  have l0 := HY1.out.lt
  have x1 : w1.cell? ⟨w.heap.size, 1, none⟩ = some (iv c.acc) := HX1.out.cell 1
  have x2 : w1.cell? ⟨w.heap.size, 2, none⟩ = some (iv c.brk) := HX1.out.cell 2
  have xl := HX1.out.lt
  go_wp2
  go_loopw [27] (fun i wr => ∃ k : Nat, k ≤ N ∧ i = iv k ∧ Hid (wr = w1) ∧ Hid (L.all (inB c) = (L.drop k).all (inB c))) (fun i _ => N - (intOf i).toNat)
  case atStart => exact ⟨0, Nat.zero_le _, rfl, Lib.hid rfl, Lib.hid rfl⟩
  case round =>
    obtain ⟨k, hk, rfl, hw, HO⟩ := hrel
    replace hw := hw.out
    subst hw
    have i0 : (0 : Int) ≤ (k : Int) := Int.natCast_nonneg _
    by_cases hlt : k < N
    · have i1 : (k : Int) < (N : Int) := by omega
      obtain ⟨x, hx, hd⟩ := drop_at (L := L) (k := k) (by rw [← HN.out]; exact hlt)
      obtain ⟨b', off', e', c0⟩ := HA1.out.at hx
      obtain ⟨rfl, rfl⟩ : b = b' ∧ off = off' := by simpa using e'
      have lb := World.block_lt_of_cell? _ _ c0
      have HO2 : Hid (L.all (inB c) = (decide (-c.brk ≤ x ∧ x ≤ c.acc) && (L.drop (k + 1)).all (inB c))) := Lib.hid (by rw [HO.out, hd]; rfl)
      have HWi := Lib.hid (fun W => within_i64 (-c.brk) x c.acc W)
      clear hx hd e'
      by_cases hin : -c.brk ≤ x ∧ x ≤ c.acc
      · rw [decide_eq_true hin] at HWi HO2
        rw [Bool.true_and] at HO2
        clear hin
        go_wp2_with (go_at_call 29; (with_reducible refine (HWi.out _).mono ?_); rintro e wb ⟨rfl, hw⟩; obtain rfl := hw.symm)
        exact ⟨⟨k + 1, by omega, by go_num, Lib.hid (by first | rfl | trivial), HO2⟩, by simp [intOf]; omega⟩
      · rw [decide_eq_false hin] at HWi HO2
        rw [Bool.false_and] at HO2
        clear hin
        go_wp2_with (go_at_call 29; (with_reducible refine (HWi.out _).mono ?_); rintro e wb ⟨rfl, hw⟩; obtain rfl := hw.symm)
        go_ret
        exact ⟨by rw [HZ.out, if_pos HO2.out]; rfl, HB1.out⟩
    · obtain rfl : k = N := by omega
      have i1 : ¬ (k : Int) < (k : Int) := by omega
      have HAll : Hid (L.all (inB c) = true) := Lib.hid (by rw [HO.out, HN.out, drop_end]; rfl)
      rw [HAll.out, if_neg (by decide)] at HZ
      have HAc2 := Lib.hid (HAc.out _ HA1.out)
      rw [actF_end L k (by rw [← HN.out]; omega) (by rw [← HN.out]; omega)] at HAc2
      generalize lst 0 L = y at *
      clear HO HAc
      by_cases hy0 : 0 < y
      · have hz2 : z = 2 := by rw [HZ.out, if_pos hy0]
        subst hz2
        go_wp2_with (go_at_call 12; (with_reducible refine HAc2.out.mono ?_); rintro e w2 ⟨rfl, hb2⟩)
        go_ret
        exact ⟨rfl, below_step HB1.out hb2⟩
      · rw [if_neg hy0] at HZ
        go_upto_region 16 with (go_at_call 12; (with_reducible refine HAc2.out.mono ?_); rintro e w2 ⟨rfl, hb2⟩)
        have HB2 := Lib.hid (below_step HB1.out hb2)
        have HX2 := Lib.hid (HX1.out.below hb2 HX1.out.lt)
        have HY2 := Lib.hid (HY1.out.below hb2 HY1.out.lt)
        have HA2 := Lib.hid (HA1.out.below hb2)
        clear hb2 d0 l0 x1 x2 xl HB1 HX1 HY1 HA1 HAc2
        have d0 : w2.cell? ⟨w.heap.size + 1, 0, none⟩ = some (.slice (some ⟨b, off, none⟩) k cap) := HY2.out.cell 0
        have l0 := HY2.out.lt
        have x3 : w2.cell? ⟨w.heap.size, 3, none⟩ = some (iv c.rate) := HX2.out.cell 3
        have xl := HX2.out.lt
        by_cases hc1 : cap = 1
        · obtain rfl : k = 1 := by omega
          subst hc1
          have hz0 : z = 0 := by
            obtain ⟨x, hx, hd⟩ := drop_at (L := L) (k := 0) (by rw [← HN.out]; omega)
            have h1 : L = [x] := by
              rw [List.drop_zero, show 0 + 1 = L.length from HN.out, drop_end] at hd
              exact hd
            rw [HZ.out, h1]
            rfl
          subst hz0
          go_wp2
          go_loopw [50] (fun i wr => i = iv 0 ∧ Hid (wr = w2)) (fun i _ => 0)
          case atStart => exact ⟨rfl, Lib.hid rfl⟩
          case round =>
            obtain ⟨rfl, hw⟩ := hrel
            replace hw := hw.out
            subst hw
            go_wp2
            go_ret
            exact ⟨rfl, HB2.out⟩
        obtain ⟨M, rfl⟩ : ∃ M, k = M + 1 := ⟨k - 1, by omega⟩
        have m0 : (0 : Int) ≤ (M : Int) := Int.natCast_nonneg _
        go_wp2
        rw [show ((M + 1 : Nat) : Int) = (M : Int) + 1 from rfl]
        go_loopw [50] (fun i wr => ∃ j : Nat, j ≤ M ∧ i = iv j ∧ Hid (wr = w2) ∧ Hid (chn c.rate L = chn c.rate (L.drop j))) (fun i _ => M - (intOf i).toNat)
        case atStart => exact ⟨0, Nat.zero_le _, rfl, Lib.hid rfl, Lib.hid rfl⟩
        case round =>
          obtain ⟨j, hj, rfl, hw, HO⟩ := hrel
          replace hw := hw.out
          subst hw
          have j0 : (0 : Int) ≤ (j : Int) := Int.natCast_nonneg _
          by_cases hlj : j < M
          · have j1 : (j : Int) < (M : Int) := by omega
            obtain ⟨x, hx, hd⟩ := drop_at (L := L) (k := j) (by rw [← HN.out]; omega)
            obtain ⟨y', hy', hd'⟩ := drop_at (L := L) (k := j + 1) (by rw [← HN.out]; omega)
            obtain ⟨b', off', e', c0⟩ := HA2.out.at hx
            obtain ⟨rfl, rfl⟩ : b = b' ∧ off = off' := by simpa using e'
            obtain ⟨b', off', e2, c1⟩ := HA2.out.at hy'
            obtain ⟨rfl, rfl⟩ : b = b' ∧ off = off' := by simpa using e2
            have lb := World.block_lt_of_cell? _ _ c0
            rw [show off + (j + 1) = off + 1 + j by omega] at c1
            have hxi := all_at HAll.out hx
            have hyi := all_at HAll.out hy'
            unfold inB at hxi hyi
            simp only [decide_eq_true_eq] at hxi hyi
            obtain ⟨p1, p2⟩ := hxi
            obtain ⟨q1, q2⟩ := hyi
            have HO2 : Hid (chn c.rate L = (decide (x - c.rate ≤ y' ∧ y' ≤ x + c.rate) && chn c.rate (L.drop (j + 1)))) := Lib.hid (by rw [HO.out, hd, hd']; rfl)
            have HWi := Lib.hid (fun W => within_i64 (x - c.rate) y' (x + c.rate) W)
            clear hx hd hy' hd' e' e2
            by_cases hin : x - c.rate ≤ y' ∧ y' ≤ x + c.rate
            · rw [decide_eq_true hin] at HWi HO2
              rw [Bool.true_and] at HO2
              clear hin
              go_wp2_with (go_at_call 29; (with_reducible refine (HWi.out _).mono ?_); rintro e wb ⟨rfl, hw⟩; obtain rfl := hw.symm)
              exact ⟨⟨j + 1, by omega, by go_num, Lib.hid (by first | rfl | trivial), HO2⟩, by simp [intOf]; omega⟩
            · rw [decide_eq_false hin] at HWi HO2
              rw [Bool.false_and] at HO2
              clear hin
              go_wp2_with (go_at_call 29; (with_reducible refine (HWi.out _).mono ?_); rintro e wb ⟨rfl, hw⟩; obtain rfl := hw.symm)
              go_ret
              exact ⟨by rw [HZ.out, if_pos HO2.out]; rfl, HB2.out⟩
          · obtain rfl : j = M := by omega
            have j1 : ¬ (j : Int) < (j : Int) := by omega
            have hz0 : z = 0 := by
              obtain ⟨x, hx, hd⟩ := drop_at (L := L) (k := j) (by rw [← HN.out]; omega)
              rw [HZ.out, HO.out, hd, show j + 1 = L.length from HN.out, drop_end]
              rfl
            subst hz0
            go_wp2
            go_ret
            exact ⟨rfl, HB2.out⟩
end Go.Proofs.Ytcoccfijikiamaa
