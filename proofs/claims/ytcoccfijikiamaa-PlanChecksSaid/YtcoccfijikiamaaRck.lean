/- The reference's check of plans. -/
import Derived.Test.YtcoccfijikiamaaChk
import Derived.Test.YtcoccfijikiamaaRfc
namespace Go.Proofs.Ytcoccfijikiamaa
open Go.RowKit Go.Shelf

set_option maxRecDepth 100000 in
set_option maxHeartbeats 8000000 in
theorem rcheck_any (c : Car) (A : Option Addr) (cap : Nat) (L : List Int) (w : World) (hA : NumL w A L) (hcap : L.length ≤ cap) (hl : L.length ≤ 1000000) :
    Calls Try.prog 11 #[cv c, pv A L.length cap] w fun e w' => e = .returned (iv (chkP c L)) ∧ Below w.heap.size w w' := by
  obtain ⟨z, hz⟩ : ∃ z, z = chkP c L := ⟨_, rfl⟩
  rw [← hz]
  have HZ := Lib.hid hz
  unfold chkP at HZ
  clear hz
  have hB : Below w.heap.size w ((w.alloc (.cells #[iv c.len, iv c.acc, iv c.brk, iv c.rate, iv c.del] 23)).alloc (.cells #[.slice A L.length cap] 26)) := ((Below.refl _ w).alloc (Nat.le_refl _) _).alloc (by simp) _
  have HX := Lib.hid ((BoxAt.new w 23 #[iv c.len, iv c.acc, iv c.brk, iv c.rate, iv c.del]).alloc (.cells #[.slice A L.length cap] 26))
  have HY : Hid (BoxAt ((w.alloc (.cells #[iv c.len, iv c.acc, iv c.brk, iv c.rate, iv c.del] 23)).alloc (.cells #[.slice A L.length cap] 26)) (w.heap.size + 1) 26 #[.slice A L.length cap]) := Lib.hid (by
    have h := BoxAt.new (w.alloc (.cells #[iv c.len, iv c.acc, iv c.brk, iv c.rate, iv c.del] 23)) 26 #[.slice A L.length cap]
    rw [World.size_alloc] at h
    exact h)
  have HC := Lib.hid (fun W => rcar_any c W)
  have HA := Lib.hid (hA.below hB)
  obtain ⟨N, hN⟩ : ∃ N, N = L.length := ⟨_, rfl⟩
  rw [← hN] at HX HY HA hB hcap hl ⊢
  have HN := Lib.hid hN
  clear hA hN
  by_cases hc : c.ok
  rotate_left
  · rw [carE_no hc] at HC
    have hz2 : z = 2 := by rw [HZ.out, if_pos hc]
    subst hz2
    go_enter Try.func11, Try.ntmps11
    go_wp2_with (go_at_call 9; (with_reducible refine (HC.out _).mono ?_); rintro e w1 ⟨rfl, hb1⟩; have hb2 := below_step hB hb1)
    go_ret
    exact ⟨rfl, hb2⟩
  rw [carE_ok hc] at HC
  rw [if_neg (show ¬ ¬ c.ok from fun h => h hc), ← HN.out] at HZ
  have hcb := hc
  unfold Car.ok at hcb
  obtain ⟨_, ⟨a1, a2⟩, ⟨b1, b2⟩, ⟨r1, r2⟩, _⟩ := hcb
  by_cases h0 : N = 0
  · have hz2 : z = 6 := by rw [HZ.out, if_pos h0]
    subst hz2
    subst h0
    go_enter Try.func11, Try.ntmps11
    go_wp2_with (go_at_call 9; (with_reducible refine (HC.out _).mono ?_); rintro e w1 ⟨rfl, hb1⟩; have hb2 := below_step hB hb1; have hy := HY.out.below hb1 HY.out.lt; have d0 := hy.cell 0; have l0 := hy.lt)
    go_ret
    exact ⟨rfl, hb2⟩
  rw [if_neg h0] at HZ
  by_cases h200 : 200 < N
  · have hz2 : z = 5 := by rw [HZ.out, if_pos h200]
    subst hz2
    have i1 : (200 : Int) < (N : Int) := by omega
    go_enter Try.func11, Try.ntmps11
    go_wp2_with (go_at_call 9; (with_reducible refine (HC.out _).mono ?_); rintro e w1 ⟨rfl, hb1⟩; have hb2 := below_step hB hb1; have hy := HY.out.below hb1 HY.out.lt; have d0 := hy.cell 0; have l0 := hy.lt)
    go_ret
    exact ⟨rfl, hb2⟩
  rw [if_neg h200] at HZ
  obtain ⟨b, off, hAe⟩ : ∃ b off, A = some ⟨b, off, none⟩ := by
    obtain ⟨b, off, e, _⟩ := HA.out (by rw [← HN.out]; omega)
    exact ⟨b, off, e⟩
  subst hAe
  have n0 : (0 : Int) < (N : Int) := by omega
  have n2 : (N : Int) ≤ 200 := by omega
  have n3 : ((N : Int) == 0) = false := by simp; omega
  have n4 : decide (200 < (N : Int)) = false := by simp; omega
  go_enter Try.func11, Try.ntmps11
  go_upto_region 8 with (go_at_call 9; (with_reducible refine (HC.out _).mono ?_); rintro e w1 ⟨rfl, hb1⟩; have hy := HY.out.below hb1 HY.out.lt; have d0 := hy.cell 0; have l0 := hy.lt)
  have HB1 := Lib.hid (below_step hB hb1)
  have HX1 := Lib.hid (HX.out.below hb1 HX.out.lt)
  have HY1 := Lib.hid hy
  have HA1 := Lib.hid (HA.out.below hb1)
  clear hb1 hy d0 l0 hB HX HY HA HC n3 n4
  have nb : IntKind.i64.wrap (-c.brk) = -c.brk := IntWalk.i64_in _ (by omega)
  go_wp2
  go_loopw [6] (fun i wr => ∃ k : Nat, k ≤ N ∧ i = iv k ∧ Hid (Below w1.heap.size w1 wr) ∧ Hid (L.all (inB c) = (L.drop k).all (inB c))) (fun i _ => N - (intOf i).toNat)
  case atStart => exact ⟨0, Nat.zero_le _, rfl, Lib.hid (Below.refl _ _), Lib.hid rfl⟩
  case round =>
    obtain ⟨k, hk, rfl, HBr, HO⟩ := hrel
    have i0 : (0 : Int) ≤ (k : Int) := Int.natCast_nonneg _
    have hxr := HX1.out.below HBr.out HX1.out.lt
    have hyr := HY1.out.below HBr.out HY1.out.lt
    have d0 : wr.cell? ⟨w.heap.size + 1, 0, none⟩ = some (.slice (some ⟨b, off, none⟩) N cap) := hyr.cell 0
    have l0 := hyr.lt
    have x1 : wr.cell? ⟨w.heap.size, 1, none⟩ = some (iv c.acc) := hxr.cell 1
    have x2 : wr.cell? ⟨w.heap.size, 2, none⟩ = some (iv c.brk) := hxr.cell 2
    have xl := hxr.lt
    have HBw : Hid (Below w.heap.size w wr) := Lib.hid (HB1.out.trans (HBr.out.mono HB1.out.size))
    clear hxr hyr
    by_cases hlt : k < N
    · have i1 : (k : Int) < (N : Int) := by omega
      obtain ⟨x, hx, hd⟩ := drop_at (L := L) (k := k) (by rw [← HN.out]; exact hlt)
      obtain ⟨b', off', e', c0⟩ := (HA1.out.below HBr.out).at hx
      obtain ⟨rfl, rfl⟩ : b = b' ∧ off = off' := by simpa using e'
      have lb := World.block_lt_of_cell? _ _ c0
      have HO2 : Hid (L.all (inB c) = (decide (-c.brk ≤ x ∧ x ≤ c.acc) && (L.drop (k + 1)).all (inB c))) := Lib.hid (by rw [HO.out, hd]; rfl)
      clear hx hd e'
      by_cases h1 : x < -c.brk
      · rw [decide_eq_false (by omega), Bool.false_and] at HO2
        have e1 : decide (x < -c.brk) = true := decide_eq_true h1
        go_wp2
        go_quiet (fail)
        go_wp2
        go_ret
        exact ⟨by rw [HZ.out, if_pos HO2.out]; rfl, below_drewN HBw.out⟩
      · have e1 : decide (x < -c.brk) = false := decide_eq_false h1
        by_cases h2 : c.acc < x
        · rw [decide_eq_false (by omega), Bool.false_and] at HO2
          have e2 : decide (c.acc < x) = true := decide_eq_true h2
          go_wp2
          go_quiet (fail)
          go_wp2
          go_ret
          exact ⟨by rw [HZ.out, if_pos HO2.out]; rfl, below_drewN HBw.out⟩
        · have e2 : decide (c.acc < x) = false := decide_eq_false h2
          rw [decide_eq_true (by omega), Bool.true_and] at HO2
          go_wp2
          go_quiet (fail)
          go_wp2
          exact ⟨⟨k + 1, by omega, by go_num, Lib.hid (below_drewN HBr.out), HO2⟩, by simp [intOf]; omega⟩
    · obtain rfl : k = N := by omega
      have i1 : ¬ (k : Int) < (k : Int) := by omega
      have HAll : Hid (L.all (inB c) = true) := Lib.hid (by rw [HO.out, HN.out, drop_end]; rfl)
      rw [HAll.out, if_neg (by decide)] at HZ
      obtain ⟨b', off', e', c0⟩ := (HA1.out.below HBr.out).at (lst_get 0 L (by rw [← HN.out]; omega))
      obtain ⟨rfl, rfl⟩ : b = b' ∧ off = off' := by simpa using e'
      rw [← HN.out] at c0
      have lb := World.block_lt_of_cell? _ _ c0
      generalize lst 0 L = y at *
      clear HO e'
      have m1 : IntKind.i64.wrap ((k : Int) - 1) = (k : Int) - 1 := IntWalk.i64_in _ (by omega)
      have m2 : (0 : Int) ≤ (k : Int) - 1 := by omega
      have m3 : (k : Int) - 1 < (k : Int) := by omega
      have m4 : ((k : Int) - 1).toNat = k - 1 := by omega
      by_cases hy0 : 0 < y
      · have hz2 : z = 2 := by rw [HZ.out, if_pos hy0]
        subst hz2
        go_wp2
        go_ret
        exact ⟨rfl, HBw.out⟩
      · rw [if_neg hy0] at HZ
        have e1 : decide (0 < y) = false := decide_eq_false hy0
        go_upto_region 15 with fail
        have HA2 := Lib.hid (HA1.out.below HBr.out)
        have HX2 := Lib.hid (HX1.out.below HBr.out HX1.out.lt)
        have HY2 := Lib.hid (HY1.out.below HBr.out HY1.out.lt)
        clear d0 l0 x1 x2 xl m1 m2 m3 m4 e1 HA1 HX1 HY1 c0 lb HB1
        rename World => wo
        go_wp2
        go_loopw [7] (fun i wr => ∃ j : Nat, j < k ∧ i = iv ((j : Int) + 1) ∧ Hid (Below wo.heap.size wo wr) ∧ Hid (chn c.rate L = chn c.rate (L.drop j))) (fun i _ => k - (intOf i).toNat)
        case atStart => exact ⟨0, by omega, rfl, Lib.hid (Below.refl _ _), Lib.hid rfl⟩
        case round =>
          obtain ⟨j, hj, rfl, HBk, HO⟩ := hrel
          have j0 : (0 : Int) ≤ (j : Int) := Int.natCast_nonneg _
          have hxr := HX2.out.below HBk.out HX2.out.lt
          have hyr := HY2.out.below HBk.out HY2.out.lt
          have d0 : wr.cell? ⟨w.heap.size + 1, 0, none⟩ = some (.slice (some ⟨b, off, none⟩) k cap) := hyr.cell 0
          have l0 := hyr.lt
          have x3 : wr.cell? ⟨w.heap.size, 3, none⟩ = some (iv c.rate) := hxr.cell 3
          have xl := hxr.lt
          have HBw2 : Hid (Below w.heap.size w wr) := Lib.hid (HBw.out.trans (HBk.out.mono HBw.out.size))
          clear hxr hyr
          by_cases hlj : j + 1 < k
          · have j1 : (j : Int) + 1 < (k : Int) := by omega
            obtain ⟨x, hx, hd⟩ := drop_at (L := L) (k := j) (by rw [← HN.out]; omega)
            obtain ⟨y', hy', hd'⟩ := drop_at (L := L) (k := j + 1) (by rw [← HN.out]; omega)
            obtain ⟨b', off', e', c0⟩ := (HA2.out.below HBk.out).at hx
            obtain ⟨rfl, rfl⟩ : b = b' ∧ off = off' := by simpa using e'
            obtain ⟨b', off', e2, c1⟩ := (HA2.out.below HBk.out).at hy'
            obtain ⟨rfl, rfl⟩ : b = b' ∧ off = off' := by simpa using e2
            have lb := World.block_lt_of_cell? _ _ c0
            have hxi := all_at HAll.out hx
            have hyi := all_at HAll.out hy'
            unfold inB at hxi hyi
            simp only [decide_eq_true_eq] at hxi hyi
            obtain ⟨p1, p2⟩ := hxi
            obtain ⟨q1, q2⟩ := hyi
            have HO2 : Hid (chn c.rate L = (decide (x - c.rate ≤ y' ∧ y' ≤ x + c.rate) && chn c.rate (L.drop (j + 1)))) := Lib.hid (by rw [HO.out, hd, hd']; rfl)
            have m1 : IntKind.i64.wrap ((j : Int) + 1 - 1) = (j : Int) := by rw [IntWalk.i64_in _ (by omega)]; omega
            have m2 : (0 : Int) ≤ (j : Int) + 1 := by omega
            have m4 : ((j : Int) + 1).toNat = j + 1 := by omega
            have m5 : (j : Int) < (k : Int) := by omega
            have m6 : IntKind.i64.wrap (y' - x) = y' - x := IntWalk.i64_in _ (by omega)
            have m7 : IntKind.i64.wrap (-(y' - x)) = -(y' - x) := IntWalk.i64_in _ (by omega)
            clear hx hd hy' hd' e' e2
            by_cases h1 : c.rate < y' - x
            · rw [decide_eq_false (by omega), Bool.false_and] at HO2
              have e1 : decide (c.rate < y' - x) = true := decide_eq_true h1
              go_wp2
              go_quiet (fail)
              go_wp2
              go_ret
              exact ⟨by rw [HZ.out, if_pos HO2.out]; rfl, below_drewN HBw2.out⟩
            · have e1 : decide (c.rate < y' - x) = false := decide_eq_false h1
              by_cases h2 : c.rate < -(y' - x)
              · rw [decide_eq_false (by omega), Bool.false_and] at HO2
                have e2 : decide (c.rate < -(y' - x)) = true := decide_eq_true h2
                go_wp2
                go_quiet (fail)
                go_wp2
                go_ret
                exact ⟨by rw [HZ.out, if_pos HO2.out]; rfl, below_drewN HBw2.out⟩
              · have e2 : decide (c.rate < -(y' - x)) = false := decide_eq_false h2
                rw [decide_eq_true (by omega), Bool.true_and] at HO2
                go_wp2
                go_quiet (fail)
                clear m1 m6 m7
                go_wp2
                all_goals exact ⟨⟨j + 1, by omega, by go_num, Lib.hid (below_drewN HBk.out), HO2⟩, by simp [intOf]; omega⟩
          · obtain rfl : k = j + 1 := by omega
            have j1 : ¬ (j : Int) + 1 < ((j + 1 : Nat) : Int) := by omega
            have hz0 : z = 0 := by
              obtain ⟨x, hx, hd⟩ := drop_at (L := L) (k := j) (by rw [← HN.out]; omega)
              rw [HZ.out, HO.out, hd, show j + 1 = L.length from HN.out, drop_end]
              rfl
            subst hz0
            go_wp2
            go_ret
            exact ⟨rfl, HBw2.out⟩
end Go.Proofs.Ytcoccfijikiamaa
