/- The law PlanStops: its walk. -/
import Derived.Test.YtcoccfijikiamaaPstM
import Derived.Test.YtcoccfijikiamaaAwk
namespace Go.Proofs.Ytcoccfijikiamaa
open Go.RowKit Go.Shelf

theorem clp_id {v : Int} (h0 : 0 ≤ v) (h1 : v ≤ 2000) : clp v 0 2000 = v := by unfold clp; omega
theorem md_i64 (n m : Int) (hm : 0 < m) (hm2 : m ≤ 4000000000000000000) : I64 (md n m) := by
  have := md_in n hm
  exact ⟨by omega, by omega⟩
set_option maxRecDepth 100000 in
set_option maxHeartbeats 8000000 in
theorem stops_walk (p0 p1 p2 p3 : Int) (weak : Bool) (a v more : Int) (w : World) :
    Calls Try.prog 5 #[.agg #[iv p0, iv p1, iv p2, iv p3], .bool weak, iv a, iv v, iv more] w fun e w' => e = .returned (.bool true) ∧ Below w.heap.size w w' := by
  have HM := Lib.hid (fun W => made_any p0 p1 p2 p3 W)
  have HOK := Lib.hid (mkCar_ok p0 p1 p2 p3)
  have HV := Lib.hid (fun W => mod64_any v 2001 (by decide) (by decide) W)
  have HMo := Lib.hid (fun W => mod64_any more 500 (by decide) (by decide) W)
  have hv0 := md_in v (m := 2001) (by decide)
  have hm0 := md_in more (m := 500) (by decide)
  generalize md v 2001 = v0 at *
  generalize md more 500 = m0 at *
  generalize mkCar p0 p1 p2 p3 = c0 at *
  have hB0 : Below w.heap.size w (w.alloc (.cells #[iv p0, iv p1, iv p2, iv p3] 44)) := (Below.refl _ w).alloc (Nat.le_refl _) _
  go_enter Try.func5, Try.ntmps5
  go_upto_if 19 with (go_at_call 24; (with_reducible refine (HM.out _).mono ?_); rintro e w1 ⟨rfl, hb1⟩)
  have HB1 := Lib.hid ((below_step hB0 hb1).alloc (below_step hB0 hb1).size (.cells #[iv c0.len, iv c0.acc, iv c0.brk, iv c0.rate, iv c0.del] 23))
  have HX1 := Lib.hid (BoxAt.new w1 23 #[iv c0.len, iv c0.acc, iv c0.brk, iv c0.rate, iv c0.del])
  have HG : Hid (w.heap.size ≤ w1.heap.size) := Lib.hid (below_step hB0 hb1).size
  clear hb1 hB0
  generalize w1.alloc (.cells #[iv c0.len, iv c0.acc, iv c0.brk, iv c0.rate, iv c0.del] 23) = w2 at *
  generalize w1.heap.size = g at *
  go_cut [] from 20 to 21 (fun w' => ∃ c : Car, Hid c.ok ∧ Hid (BoxAt w' g 23 #[iv c.len, iv c.acc, iv c.brk, iv c.rate, iv c.del]) ∧ Hid (Below w.heap.size w w'))
  case first =>
    cases weak with
    | false =>
      go_wp2
      go_meet
      exact ⟨c0, HOK, HX1, HB1⟩
    | true =>
      have x2 : w2.cell? ⟨g, 2, none⟩ = some (iv c0.brk) := HX1.out.cell 2
      have x3 : w2.cell? ⟨g, 3, none⟩ = some (iv c0.rate) := HX1.out.cell 3
      have f2 := HX1.out.frozen 2
      have f3 := HX1.out.frozen 3
      have lx := HX1.out.lt
      go_wp2
      go_meet
      exact ⟨weakCar c0, Lib.hid (weak_ok HOK.out), Lib.hid ((HX1.out.set 2 (iv 20)).set 3 (iv 5)), Lib.hid (bset (p := ⟨g, 3, none⟩) HG.out (bset (p := ⟨g, 2, none⟩) HG.out HB1.out (iv 20)) (iv 5))⟩
  case rest =>
    obtain ⟨c, HC, HX, HB⟩ := hcut
    clear HX1 HB1 HOK
    go_upto_region 5 with (first
      | (go_at_call 25; (with_reducible refine (HV.out _).mono ?_); rintro e w1 ⟨rfl, hw⟩; obtain rfl := hw.symm)
      | (go_at_call 25; (with_reducible refine (HMo.out _).mono ?_); rintro e w1 ⟨rfl, hw⟩; obtain rfl := hw.symm))
    obtain ⟨v1, v2⟩ := hv0
    obtain ⟨m1, m2⟩ := hm0
    obtain ⟨u0, hu0⟩ : ∃ u0, u0 = min 2000 (v0 + m0) := ⟨_, rfl⟩
    have HU0 : Hid (0 ≤ u0 ∧ u0 ≤ 2000 ∧ v0 ≤ u0) := Lib.hid (by omega)
    have HV0 : Hid (0 ≤ v0 ∧ v0 ≤ 2000) := Lib.hid (by omega)
    have HS1 := Lib.hid (fun W => stops_any c HC.out a v0 W (by have := HV0.out; exact ⟨by omega, by omega⟩))
    have HS2 := Lib.hid (fun W => stops_any c HC.out a u0 W (by have := HU0.out; exact ⟨by omega, by omega⟩))
    rw [clp_id HV0.out.1 HV0.out.2] at HS1
    rw [clp_id HU0.out.1 HU0.out.2.1] at HS2
    go_cut [12, 13] from 26 to 36 (fun l k w' => ∃ n A ca m B cb, l = .slice A n ca ∧ k = .slice B m cb ∧ Hid (IsStop c a v0 n) ∧ Hid (IsStop c a u0 m) ∧ Hid (NumL w' A (rmps c (-c.brk) n a)) ∧ Hid (n ≤ ca) ∧ Hid (Below wc.heap.size wc w'))
    case first =>
      have x0 : wc.cell? ⟨g, 0, none⟩ = some (iv c.len) := HX.out.cell 0
      have x1 : wc.cell? ⟨g, 1, none⟩ = some (iv c.acc) := HX.out.cell 1
      have x2 : wc.cell? ⟨g, 2, none⟩ = some (iv c.brk) := HX.out.cell 2
      have x3 : wc.cell? ⟨g, 3, none⟩ = some (iv c.rate) := HX.out.cell 3
      have x4 : wc.cell? ⟨g, 4, none⟩ = some (iv c.del) := HX.out.cell 4
      have lx := HX.out.lt
      have hw : IntKind.i64.wrap (v0 + m0) = v0 + m0 := IntWalk.i64_in _ (by omega)
      by_cases hq : v0 + m0 < 2000
      · have hq2 : ¬ 2000 ≤ v0 + m0 := by omega
        have HS2' : Hid (∀ W, Calls Try.prog 22 #[cv c, iv a, iv (v0 + m0)] W fun e w' => ∃ n A cap, IsStop c a u0 n ∧ e = .returned (.slice A n cap) ∧ n ≤ cap ∧ NumL w' A (rmps c (-c.brk) n a) ∧ Below W.heap.size W w') := Lib.hid (fun W => by
        rw [show v0 + m0 = u0 from by omega]
        exact HS2.out W)
        clear hu0
        go_region_held3 (fun W => W.cell? ⟨g, 0, none⟩ = some (iv c.len) ∧ W.cell? ⟨g, 1, none⟩ = some (iv c.acc) ∧ W.cell? ⟨g, 2, none⟩ = some (iv c.brk) ∧ W.cell? ⟨g, 3, none⟩ = some (iv c.rate) ∧ W.cell? ⟨g, 4, none⟩ = some (iv c.del))
          (first | exact HK4.out | exact HK3.out | exact ⟨x0, x1, x2, x3, x4⟩ | go_keep)
          (first
            | (go_at_call 22; (with_reducible refine (HS1.out _).mono ?_); rintro e w3 ⟨n, A, ca, hn, rfl, hca, hA, hb3⟩; have HK3 : Hid (w3.cell? ⟨g, 0, none⟩ = some (iv c.len) ∧ w3.cell? ⟨g, 1, none⟩ = some (iv c.acc) ∧ w3.cell? ⟨g, 2, none⟩ = some (iv c.brk) ∧ w3.cell? ⟨g, 3, none⟩ = some (iv c.rate) ∧ w3.cell? ⟨g, 4, none⟩ = some (iv c.del)) := Lib.hid (by obtain ⟨_, q0, q1, q2, q3, q4, _⟩ := boxC HX.out.drew hb3; exact ⟨q0, q1, q2, q3, q4⟩))
            | (go_at_call 22; (with_reducible refine (HS2'.out _).mono ?_); rintro e w4 ⟨m, B, cb, hm, rfl, _, hB, hb4⟩; have HK4 : Hid (w4.cell? ⟨g, 0, none⟩ = some (iv c.len) ∧ w4.cell? ⟨g, 1, none⟩ = some (iv c.acc) ∧ w4.cell? ⟨g, 2, none⟩ = some (iv c.brk) ∧ w4.cell? ⟨g, 3, none⟩ = some (iv c.rate) ∧ w4.cell? ⟨g, 4, none⟩ = some (iv c.del)) := Lib.hid (by obtain ⟨_, q0, q1, q2, q3, q4, _⟩ := boxC (HX.out.drew.below hb3 HX.out.lt) hb4; exact ⟨q0, q1, q2, q3, q4⟩)))
        all_goals go_wp2
        all_goals go_meet
        all_goals exact ⟨n, A, ca, m, B, cb, rfl, rfl, Lib.hid hn, Lib.hid hm, Lib.hid (hA.below hb4), Lib.hid hca, Lib.hid (below_step ((Below.refl _ wc).drew.trans hb3) hb4)⟩
      · have hq2 : 2000 ≤ v0 + m0 := by omega
        have hif : (if v0 + m0 < 2000 then v0 + m0 else 2000) = 2000 := if_neg hq
        have hqd : decide (v0 + m0 < 2000) = false := decide_eq_false hq
        have HS2' : Hid (∀ W, Calls Try.prog 22 #[cv c, iv a, iv (2000)] W fun e w' => ∃ n A cap, IsStop c a u0 n ∧ e = .returned (.slice A n cap) ∧ n ≤ cap ∧ NumL w' A (rmps c (-c.brk) n a) ∧ Below W.heap.size W w') := Lib.hid (fun W => by
        rw [show (2000 : Int) = u0 from by omega]
        exact HS2.out W)
        clear hu0
        go_region_held3 (fun W => W.cell? ⟨g, 0, none⟩ = some (iv c.len) ∧ W.cell? ⟨g, 1, none⟩ = some (iv c.acc) ∧ W.cell? ⟨g, 2, none⟩ = some (iv c.brk) ∧ W.cell? ⟨g, 3, none⟩ = some (iv c.rate) ∧ W.cell? ⟨g, 4, none⟩ = some (iv c.del))
          (first | exact HK4.out | exact HK3.out | exact ⟨x0, x1, x2, x3, x4⟩ | go_keep)
          (first
            | (go_at_call 22; (with_reducible refine (HS1.out _).mono ?_); rintro e w3 ⟨n, A, ca, hn, rfl, hca, hA, hb3⟩; have HK3 : Hid (w3.cell? ⟨g, 0, none⟩ = some (iv c.len) ∧ w3.cell? ⟨g, 1, none⟩ = some (iv c.acc) ∧ w3.cell? ⟨g, 2, none⟩ = some (iv c.brk) ∧ w3.cell? ⟨g, 3, none⟩ = some (iv c.rate) ∧ w3.cell? ⟨g, 4, none⟩ = some (iv c.del)) := Lib.hid (by obtain ⟨_, q0, q1, q2, q3, q4, _⟩ := boxC HX.out.drew hb3; exact ⟨q0, q1, q2, q3, q4⟩))
            | (go_at_call 22; (with_reducible refine (HS2'.out _).mono ?_); rintro e w4 ⟨m, B, cb, hm, rfl, _, hB, hb4⟩; have HK4 : Hid (w4.cell? ⟨g, 0, none⟩ = some (iv c.len) ∧ w4.cell? ⟨g, 1, none⟩ = some (iv c.acc) ∧ w4.cell? ⟨g, 2, none⟩ = some (iv c.brk) ∧ w4.cell? ⟨g, 3, none⟩ = some (iv c.rate) ∧ w4.cell? ⟨g, 4, none⟩ = some (iv c.del)) := Lib.hid (by obtain ⟨_, q0, q1, q2, q3, q4, _⟩ := boxC (HX.out.drew.below hb3 HX.out.lt) hb4; exact ⟨q0, q1, q2, q3, q4⟩)))
        all_goals go_wp2
        all_goals go_meet
        all_goals exact ⟨n, A, ca, m, B, cb, rfl, rfl, Lib.hid hn, Lib.hid hm, Lib.hid (hA.below hb4), Lib.hid hca, Lib.hid (below_step ((Below.refl _ wc).drew.trans hb3) hb4)⟩
    case rest =>
      obtain ⟨n, A, ca, m, B, cb, rfl, rfl, HSn, HSm, HA, Hca, HBl⟩ := hcut
      clear HS1 HS2 HV HMo HM hu0
      rename World => wd
      have HB2 := Lib.hid (HB.out.trans (HBl.out.mono HB.out.size))
      have HX2 := Lib.hid (HX.out.below HBl.out HX.out.lt)
      clear HBl HB HX
      have n1 : 1 ≤ n := HSn.out.1
      have n2 : n ≤ 110 := HSn.out.2.1
      have nm : n ≤ m := isStop_le HV0.out.1 HSn.out HSm.out HU0.out.2.2
      have m2 : m ≤ 110 := HSm.out.2.1
      have hln := rmps_len c (-c.brk) n a
      have HCk : Hid (∀ W, NumL W A (rmps c (-c.brk) n a) → Calls Try.prog 10 #[cv c, pv A n ca] W fun e w' => e = .returned (iv 0) ∧ Below W.heap.size W w') := Lib.hid (fun W h => by
        have h1 := check_any c A ca (rmps c (-c.brk) n a) W h (by rw [hln]; exact Hca.out) (by omega)
        rw [hln, chkP_stop HC.out HV0.out.1 HV0.out.2 HSn.out] at h1
        exact h1)
      have HWy : Hid (∀ W, NumL W A (rmps c (-c.brk) n a) → Calls Try.prog 23 #[.agg #[iv 0, iv 0, iv 0, iv v0], pv A n ca] W fun e w' => e = .returned (iv (wayF v0 (rmps c (-c.brk) n a))) ∧ Below W.heap.size W w') := Lib.hid (fun W h => by
        have h1 := way_any 0 0 0 v0 A ca (rmps c (-c.brk) n a) W h (by omega) (by have := HV0.out; exact ⟨by omega, by omega⟩) (rmps_i64 HC.out _ n a)
        rw [hln] at h1
        exact h1)
      have g1 : ¬ (n : Int) = 0 := by omega
      have g2 : ¬ (m : Int) < (n : Int) := by omega
      have g3 : ¬ (150 : Int) < (m : Int) := by omega
      have g4 : ((n : Int) == 0) = false := by simp; omega
      have g5 : decide ((m : Int) < (n : Int)) = false := by simp; omega
      have g6 : decide ((150 : Int) < (m : Int)) = false := by simp; omega
      have x0 : wd.cell? ⟨g, 0, none⟩ = some (iv c.len) := HX2.out.cell 0
      have x1 : wd.cell? ⟨g, 1, none⟩ = some (iv c.acc) := HX2.out.cell 1
      have x2 : wd.cell? ⟨g, 2, none⟩ = some (iv c.brk) := HX2.out.cell 2
      have x3 : wd.cell? ⟨g, 3, none⟩ = some (iv c.rate) := HX2.out.cell 3
      have x4 : wd.cell? ⟨g, 4, none⟩ = some (iv c.del) := HX2.out.cell 4
      have lx := HX2.out.lt
      go_upto_region 8 with (go_at_call 10; (with_reducible refine (HCk.out _ HA.out).mono ?_); rintro e w3 ⟨rfl, hb3⟩)
      have HB3 := Lib.hid (HB2.out.trans (hb3.mono HB2.out.size))
      have HA3 := Lib.hid (HA.out.below hb3)
      clear hb3 x0 x1 x2 x3 x4 lx HB2 HX2 HA HCk g1 g2 g3 g4 g5 g6
      obtain ⟨T, hT⟩ : ∃ T, T = wayF v0 (rmps c (-c.brk) n a) := ⟨_, rfl⟩
      rw [← hT] at HWy
      have HT := Lib.hid hT
      clear hT
      have HSt : Hid (∀ j, j < n → wayF (veN c a v0 j) ((rmps c (-c.brk) n a).drop j) = veN c a v0 (j + 1) + wayF (veN c a v0 (j + 1)) ((rmps c (-c.brk) n a).drop (j + 1))) := Lib.hid (fun j h => way_step c a v0 h)
      have HGt : Hid (∀ j, j < n → (rmps c (-c.brk) n a)[j]? = some (acN c a (j + 1))) := Lib.hid (fun j h => stop_get c a h)
      have HVe : Hid (∀ j, veN c a v0 (j + 1) = max 0 (min 2000 (veN c a v0 j + acN c a (j + 1))) ∧ 0 ≤ veN c a v0 j ∧ veN c a v0 j ≤ 2000 ∧ -90 ≤ acN c a (j + 1) ∧ acN c a (j + 1) ≤ 30) := Lib.hid (fun j => by
        have h1 := veN_in c a HV0.out.1 HV0.out.2 j
        have h2 := acN_i HC.out a j
        rw [veN_succ, fst_bd _ _ h1]
        exact ⟨rfl, h1.1, h1.2, h2.1, h2.2⟩)
      have HEn : Hid (veN c a v0 n = 0 ∧ ∀ j, 1 ≤ j → j < n → 0 < veN c a v0 j) := Lib.hid ⟨HSn.out.2.2.1, HSn.out.2.2.2⟩
      have HLs : Hid (acN c a n ≤ 0) := Lib.hid (isStop_last HC.out HV0.out.1 HV0.out.2 HSn.out)
      have HSt0 : Hid (T = 0 + wayF (veN c a v0 0) ((rmps c (-c.brk) n a).drop 0)) := Lib.hid (by rw [HT.out, Int.zero_add]; rfl)
      have HEd : Hid (wayF (veN c a v0 n) ((rmps c (-c.brk) n a).drop n) = 0) := Lib.hid (by
        have h := drop_end (rmps c (-c.brk) n a)
        rw [hln] at h
        rw [h]; rfl)
      have hv00 : veN c a v0 0 = v0 := rfl
      clear hln HT HSm HSn
      clear hv00
      go_wp2
      go_loopw [14, 15, 16] (fun uv sv iv0 wr => ∃ (j : Nat) (s : Int), uv = iv (veN c a v0 j) ∧ sv = iv s ∧ iv0 = iv j ∧ j ≤ n ∧ 0 ≤ s ∧ s ≤ 2000 * (j : Int) ∧ Hid (T = s + wayF (veN c a v0 j) ((rmps c (-c.brk) n a).drop j)) ∧ Hid (Below w3.heap.size w3 wr)) (fun _ _ iv0 _ => n - (intOf iv0).toNat)
      case atStart => exact ⟨0, 0, rfl, rfl, rfl, Nat.zero_le _, Int.le_refl _, by decide, HSt0, Lib.hid (Below.refl _ _)⟩
      case round =>
        obtain ⟨j, s, rfl, rfl, rfl, hj, s0, s1, HS, HBr⟩ := hrel
        have j0 : (0 : Int) ≤ (j : Int) := Int.natCast_nonneg _
        by_cases hlt : j < n
        · have j1 : (j : Int) < (n : Int) := by omega
          obtain ⟨b, off, hAe, c0⟩ := (HA3.out.below HBr.out).at (HGt.out j hlt)
          subst hAe
          have lb := World.block_lt_of_cell? wr _ c0
          obtain ⟨q0, q1, q2, q3, q4⟩ := HVe.out j
          have HS2 : Hid (T = s + veN c a v0 (j + 1) + wayF (veN c a v0 (j + 1)) ((rmps c (-c.brk) n a).drop (j + 1))) := Lib.hid (by rw [HS.out, HSt.out j hlt]; omega)
          have HPos : Hid (j + 1 < n → 0 < veN c a v0 (j + 1)) := Lib.hid (fun h => HEn.out.2 (j + 1) (by omega) h)
          generalize hye : veN c a v0 (j + 1) = y at *
          have HYe := Lib.hid hye
          clear hye
          generalize veN c a v0 j = u at *
          generalize acN c a (j + 1) = x at *
          go_upto_region 12 with fail
          go_cut [14] from 66 to 73 (fun yv w' => yv = iv y ∧ Hid (w' = wr))
          case first =>
            go_wp2
            all_goals go_meet
            all_goals refine ⟨?_, Lib.hid (by first | rfl | trivial)⟩
            all_goals (refine congrArg (fun z => iv z) ?_; omega)
          case rest =>
            obtain ⟨rfl, hwc⟩ := hcut
            replace hwc := hwc.out
            subst hwc
            have y0 : 0 ≤ y ∧ y ≤ 2000 := by omega
            obtain ⟨y1, y2⟩ := y0
            clear q0
            by_cases hj1 : j + 1 < n
            · have hy := HPos.out hj1
              have e1 : (y == 0) = false := by simp; omega
              have e2 : decide ((j : Int) + 1 < (n : Int)) = true := by simp; omega
              have e3 : (j : Int) + 1 < (n : Int) := by omega
              go_wp2
              exact ⟨⟨j + 1, s + y, by rw [HYe.out], by go_num, by go_num, by omega, by omega, by omega, by rw [HYe.out]; exact HS2, HBr⟩, by simp [intOf]; omega⟩
            · have e2 : decide ((j : Int) + 1 < (n : Int)) = false := by simp; omega
              have e3 : ¬ (j : Int) + 1 < (n : Int) := by omega
              go_wp2
              exact ⟨⟨j + 1, s + y, by rw [HYe.out], by go_num, by go_num, by omega, by omega, by omega, by rw [HYe.out]; exact HS2, HBr⟩, by simp [intOf]; omega⟩
        · obtain rfl : j = n := by omega
          have j1 : ¬ (j : Int) < (j : Int) := by omega
          obtain ⟨k, rfl⟩ : ∃ k, j = k + 1 := ⟨j - 1, by omega⟩
          obtain ⟨b, off, hAe, c0⟩ := (HA3.out.below HBr.out).at (HGt.out k (by omega))
          subst hAe
          have lb := World.block_lt_of_cell? wr _ c0
          have hTs : T = s := by rw [HS.out, HEd.out]; omega
          subst hTs
          rw [HEn.out.1]
          have hx := HLs.out
          generalize acN c a (k + 1) = x at *
          have HWy2 := Lib.hid (HWy.out wr (HA3.out.below HBr.out))
          have k0 : (0 : Int) ≤ (k : Int) := Int.natCast_nonneg _
          have e1 : IntKind.i64.wrap (((k + 1 : Nat) : Int) - 1) = (k : Int) := by rw [IntWalk.i64_in _ (by omega)]; omega
          have e2 : decide (x ≤ 0) = true := by simp; omega
          go_wp2_with (first
            | (go_at_call 23; (with_reducible refine HWy2.out.mono ?_); rintro e w4 ⟨rfl, hb4⟩)
            | (go_at_call 7; (with_reducible refine (awake_any _).mono ?_); rintro e w5 ⟨rfl, hb5⟩))
          go_ret
          exact ⟨rfl, (HB3.out.trans (HBr.out.mono HB3.out.size)).trans ((below_step hb4 hb5).mono (HB3.out.trans (HBr.out.mono HB3.out.size)).size)⟩
end Go.Proofs.Ytcoccfijikiamaa
