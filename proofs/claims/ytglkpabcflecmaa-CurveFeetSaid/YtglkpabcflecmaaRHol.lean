/- The reference's Holds of a valid curve. -/
import Derived.Test.YtglkpabcflecmaaRNea
import Derived.Test.YtglkpabcflecmaaHold
namespace Go.Proofs.Ytglkpabcflecmaa
open Go.RowKit Go.Shelf

set_option maxRecDepth 100000 in
set_option maxHeartbeats 4000000 in
theorem rholds_good (b off cap : Nat) (c : Crv) (hg : Good c) (p q r : Int) (hp1 : okc p) (hq1 : okc q) (hr0 : 0 ≤ r) (hr1 : r ≤ 4000) (w : World) (hp : Pts w b off c.n c.X c.Y) :
    Calls Try.prog 36 #[cv b off c.n cap, .int .i64 r, sp p q] w fun e w' => e = .returned (.bool (holdL c p q r (c.n - 1))) ∧ Below w.heap.size w w' := by
  have HG := Lib.hid hg
  obtain ⟨hn, hn', hok, _⟩ := id hg
  have hb := hp.lt (by omega)
  have HV : Hid (vp (p, q) = true) := (vp_iff _).2 ⟨hp1, hq1⟩
  have e1 : decide (r < 0) = false := decide_eq_false (by omega)
  have e2 : decide (4000 < r) = false := decide_eq_false (by omega)
  have hB : Below w.heap.size w ((w.alloc (.cells #[.slice (some ⟨b, off, none⟩) c.n cap] 24)).alloc (.cells #[.int .i64 p, .int .i64 q] 43)) := ((Below.refl _ w).alloc (Nat.le_refl _) _).alloc (by simp) _
  have b24 := (BoxAt.new w 24 #[.slice (some ⟨b, off, none⟩) c.n cap]).alloc (.cells #[.int .i64 p, .int .i64 q] 43)
  have b43 := BoxAt.new (w.alloc (.cells #[.slice (some ⟨b, off, none⟩) c.n cap] 24)) 43 #[.int .i64 p, .int .i64 q]
  rw [World.size_alloc] at b43
  have k43 : ((w.alloc (.cells #[.slice (some ⟨b, off, none⟩) c.n cap] 24)).alloc (.cells #[.int .i64 p, .int .i64 q] 43)).cell? ⟨w.heap.size + 1, 0, none⟩ = some (.int .i64 p) := b43.cell 0
  obtain ⟨N, hN⟩ : ∃ N, c.n - 1 = N := ⟨_, rfl⟩
  have hN1 : 0 < N := by omega
  have hN2 : N ≤ 15 := by omega
  have HN := Lib.hid hN
  have hcn1 : (c.n : Int) ≤ 16 := by omega
  rw [hN]
  clear hN k43
  go_enter Try.func36, Try.ntmps36
  go_upto_region 4 with (first
    | (go_at_call 63; (with_reducible refine (rvalid_any p q true _ HV).mono ?_); rintro e w1 ⟨rfl, hb1⟩; have c24 := box_step b24 hb1; have c43 := box_step b43 hb1; replace hB := below_step hB hb1; have k0 : w1.cell? ⟨w.heap.size, 0, none⟩ = some (.slice (some ⟨b, off, none⟩) c.n cap) := c24.cell 0)
    | (go_at_call 26; (with_reducible refine (rpcs_named b off cap c HG.out N HN.out _ (hp.below hB hb)).mono ?_); rintro e w2 ⟨gP, capP, rfl, hI2, hb2⟩; have HI2 := Lib.hid hI2; clear hI2; have d24 := box_step c24 hb2; have d43 := box_step c43 hb2; replace hB := below_step hB hb2))
  have hl2 := d24.lt
  have h24 : Hid (∀ W, Below w2.heap.size w2 W → W.cell? ⟨w.heap.size, 0, none⟩ = some (.slice (some ⟨b, off, none⟩) c.n cap)) := fun W hW => (BoxAt.below d24 hW d24.lt).cell 0
  have h43 : Hid (∀ W, Below w2.heap.size w2 W → W.cell? ⟨w.heap.size + 1, 0, none⟩ = some (.int .i64 p) ∧ W.cell? ⟨w.heap.size + 1, 1, none⟩ = some (.int .i64 q)) := fun W hW => ⟨(BoxAt.below d43 hW d43.lt).cell 0, (BoxAt.below d43 hW d43.lt).cell 1⟩
  have hpt : Hid (∀ W, Below w2.heap.size w2 W → Pts W b off c.n c.X c.Y) := fun W hW => hp.below (below_step hB hW) hb
  have hln : Hid (∀ W, Below w2.heap.size w2 W → Ints W gP N c.len) := fun W hW => HI2.out.below hW
  have hB2 := Lib.hid hB
  have l24 := d24.lt
  have l43 := d43.lt
  have lgP : gP < w2.heap.size := World.block_lt_of_cell? w2 _ (HI2.out 0 hN1)
  have lbb : b < w2.heap.size := by have := hB.size; omega
  clear b24 b43 c24 c43 d24 d43 HI2 hb1 hb2 hB k0 hp HV hl2
  go_wp2
  go_loopw [8] (fun i wr => ∃ k : Nat, k ≤ N ∧ i = .int .i64 k ∧ Hid (∀ j, j < k → holdB c p q r j = false) ∧ Below w2.heap.size w2 wr) (fun i _ => 16 - (intOf i).toNat)
  case atStart => exact ⟨0, Nat.zero_le _, rfl, (by intro j hj; omega), Below.refl _ _⟩
  case round =>
    obtain ⟨k, hk, rfl, HO, hBr⟩ := hrel
    by_cases hlt : k < N
    · have hcn := HN.out
      have hi : k + 1 < c.n := by omega
      obtain ⟨-, l1, l2'⟩ := hg.len hi
      obtain ⟨f1, f2⟩ := foot_bd c hok p q hp1 hq1 hi
      obtain ⟨d1, d2'⟩ := dist_bd c hok p q hp1 hq1 hi
      obtain ⟨hx0, hy0⟩ := hpt.out _ hBr k (by omega)
      obtain ⟨hx1, hy1⟩ := hpt.out _ hBr (k + 1) (by omega)
      have ox0 := hok k (by omega)
      have ox1 := hok (k + 1) (by omega)
      have i0 : (0 : Int) ≤ (k : Int) := Int.natCast_nonneg _
      have i1 : (k : Int) < (c.n : Int) := by omega
      have i1N : (k : Int) < (N : Int) := by omega
      have i2 : (0 : Int) ≤ (k : Int) + 1 := by omega
      have i3 : (k : Int) + 1 < (c.n : Int) := by omega
      have i4 : IntKind.i64.wrap ((k : Int) + 1) = (k : Int) + 1 := IntWalk.i64_in _ (by omega)
      have i5 : ((k : Int) + 1).toNat = k + 1 := by omega
      have b0 := h24.out _ hBr
      obtain ⟨b1, b2⟩ := h43.out _ hBr
      have z1 : w.heap.size < wr.heap.size := by have := hBr.size; omega
      have z2 : w.heap.size + 1 < wr.heap.size := by have := hBr.size; omega
      have z3 : b < wr.heap.size := by have := hBr.size; omega
      clear hcn
      go_upto_region 7 with fail
      go_cut [9, 10] from 26 to 92 (fun v v2 w' => ∃ g h, v = .pointer (some ⟨g, 0, none⟩) ∧ v2 = .pointer (some ⟨h, 0, none⟩) ∧ BoxAt w' g 43 #[.int .i64 (c.wx k), .int .i64 (c.wy k)] ∧ BoxAt w' h 43 #[.int .i64 (p - c.X k), .int .i64 (q - c.Y k)] ∧ Below wr.heap.size wr w')
      case first =>
        go_region_held3 (fun w' => w'.cell? ⟨w.heap.size, 0, none⟩ = some (.slice (some ⟨b, off, none⟩) c.n cap) ∧ w'.cell? ⟨b, off + k * 2, none⟩ = some (.int .i64 (c.X k)) ∧ w'.cell? ⟨b, off + k * 2 + 1, none⟩ = some (.int .i64 (c.Y k)) ∧
            w'.cell? ⟨b, off + (k + 1) * 2, none⟩ = some (.int .i64 (c.X (k + 1))) ∧ w'.cell? ⟨b, off + (k + 1) * 2 + 1, none⟩ = some (.int .i64 (c.Y (k + 1))) ∧ w'.cell? ⟨w.heap.size + 1, 0, none⟩ = some (.int .i64 p) ∧ w'.cell? ⟨w.heap.size + 1, 1, none⟩ = some (.int .i64 q))
          (first | (refine ⟨?_, ?_, ?_, ?_, ?_, ?_, ?_⟩ <;> (refine (Below.cell (w := wr) (B := wr.heap.size) ?_ (by assumption)).trans (by assumption); (repeat (first | (with_reducible exact Below.refl _ _) | ((with_reducible refine bset ?_ ?_ _); (first | exact Nat.le_refl _ | omega | (simp; omega) | simp)) | ((with_reducible refine balloc ?_ ?_ _); (first | exact Nat.le_refl _ | omega | (simp; omega) | simp)) | (with_reducible refine Below.drew ?_) | (with_reducible refine below_step ?_ hb4) | (with_reducible refine below_step ?_ hb3))))) | go_keep)
          (first
            | (go_at_call 48; (with_reducible refine (rminus_any (c.X (k + 1)) (c.Y (k + 1)) (c.X k) (c.Y k) _ ox1.1 ox1.2 ox0.1 ox0.2).mono ?_); rintro e w3 ⟨rfl, hb3⟩; have hz3 := hb3.size; (try simp at hz3); obtain ⟨hc3, hf3⟩ := bcell hb3; (try have y1 : wr.heap.size < w3.heap.size := by omega); (try have y2 : wr.heap.size + 1 < w3.heap.size := by omega); (try have y3 : wr.heap.size < w3.heap.size + 1 := by omega); (try have y4 : wr.heap.size + 1 < w3.heap.size + 1 := by omega); (try have y5 : wr.heap.size < w3.heap.size + 1 + 1 := by omega))
            | (go_at_call 48; (with_reducible refine (rminus_any p q (c.X k) (c.Y k) _ hp1 hq1 ox0.1 ox0.2).mono ?_); rintro e w4 ⟨rfl, hb4⟩; have hz4 := hb4.size; (try simp at hz4); obtain ⟨hc4, hf4⟩ := bcell hb4; (try have x1 : wr.heap.size < w4.heap.size := by omega); (try have x2 : wr.heap.size + 1 < w4.heap.size := by omega); (try have x3 : wr.heap.size < w4.heap.size + 1 := by omega); (try have x4 : wr.heap.size + 1 < w4.heap.size + 1 := by omega); (try have x5 : wr.heap.size < w4.heap.size + 1 + 1 := by omega); (try have x6 : w3.heap.size < w4.heap.size := by omega); (try have x7 : w3.heap.size + 1 < w4.heap.size := by omega); (try have x8 : w3.heap.size < w4.heap.size + 1 := by omega)))
        all_goals go_wp2
        all_goals go_meet
        all_goals (refine ⟨_, _, rfl, rfl, ?_, ?_, ?_⟩)
        all_goals (try show BoxAt _ _ 43 #[.int .i64 (c.X (k + 1) - c.X k), .int .i64 (c.Y (k + 1) - c.Y k)])
        all_goals (repeat (first
          | (with_reducible exact BoxAt.new _ _ _)
          | (with_reducible exact box_new2 _ _ _ _)
          | (with_reducible exact box_new3 _ _ _ _ _ _ _)
          | (with_reducible refine box_set2 ?_)
          | (with_reducible refine box_other2 ?_ (by omega))
          | (with_reducible refine box_step ?_ hb4)
          | (with_reducible refine box_step ?_ hb3)
          | (with_reducible refine BoxAt.alloc ?_ _)
          | (with_reducible refine BoxAt.drew ?_)
          | (with_reducible exact Below.refl _ _)
          | (with_reducible refine bset ?_ ?_ _; (first | exact Nat.le_refl _ | omega | (simp; omega) | simp))
          | (with_reducible refine balloc ?_ ?_ _; (first | exact Nat.le_refl _ | omega | (simp; omega) | simp))
          | (with_reducible refine Below.drew ?_)
          | (with_reducible refine below_step ?_ hb4)
          | (with_reducible refine below_step ?_ hb3)))
      case rest =>
        obtain ⟨wd, rfl⟩ : ∃ x : World, x = wc := ⟨_, rfl⟩
        obtain ⟨g, h, rfl, rfl, hbg, hbh, hbw⟩ := hcut
        have hBd := Lib.hid (below_step hBr hbw)
        have owx := Crv.okd_wx hok (i := k) hi
        have owy := Crv.okd_wy hok (i := k) hi
        have ovx := okd_sub hp1 ox0.1
        have ovy := okd_sub hq1 ox0.2
        have HFn : Hid ((p - c.X k) * c.wx k + (q - c.Y k) * c.wy k = footI c p q k) := by show _ = _; unfold footI; rw [Int.mul_comm, Int.mul_comm (q - c.Y k)]
        have HEn : Hid (c.wx k * (q - c.Y k) - c.wy k * (p - c.X k) = sideI c p q k) := rfl
        have hdi : distI c p q k = max (sideI c p q k) (-sideI c p q k) := rfl
        have hnb : holdB c p q r k = (decide (0 ≤ footI c p q k) && decide (footI c p q k ≤ c.len k * c.len k) && decide (max (sideI c p q k) (-sideI c p q k) ≤ r * c.len k)) := rfl
        have hT : Hid (∀ W, Below w2.heap.size w2 W → W.cell? ⟨gP, k, none⟩ = some (.int .i64 (c.len k))) := fun W hW => hln.out W hW k hlt
        have HSN : Hid (holdB c p q r k = false → ∀ j, j < k + 1 → holdB c p q r j = false) := fun h1 j hj => by
          rcases Nat.lt_or_ge j k with h2 | h2
          · exact HO.out j h2
          · obtain rfl : j = k := by omega
            exact h1
        have HYN : Hid (holdB c p q r k = true → holdL c p q r N = true) := fun h1 => holdL_yes hlt h1
        rw [hdi] at d1 d2'
        clear hdi hpt b0 b1 b2 hx0 hy0 hx1 hy1 i2 i3 i4 i5 z1 z2 z3 HO ox0 ox1
        generalize footI c p q k = F at *
        generalize sideI c p q k = E at *
        generalize c.len k = ln at *
        generalize c.wx k = wx at *
        generalize c.wy k = wy at *
        obtain ⟨vx, hvx⟩ : ∃ z, z = p - c.X k := ⟨_, rfl⟩
        obtain ⟨vy, hvy⟩ : ∃ z, z = q - c.Y k := ⟨_, rfl⟩
        rw [← hvx] at HFn HEn hbh ovx
        rw [← hvy] at HFn HEn hbh ovy
        have HNB := Lib.hid hnb
        clear hnb hvx hvy
        have m5 : 0 ≤ r * ln := Int.mul_nonneg hr0 (by omega)
        have m6 : r * ln ≤ 4000 * 1048576 := Int.mul_le_mul hr1 l2' (by omega) (by omega)
        have m1 : -r * ln = -(r * ln) := Int.neg_mul _ _
        have m7 : ln * ln ≤ 1048576 * 1048576 := Int.mul_le_mul l2' l2' (by omega) (by omega)
        have m8 : 0 ≤ ln * ln := Int.mul_nonneg (by omega) (by omega)
        have m2 : -17592186044416 ≤ -r * ln ∧ -r * ln ≤ 0 := by omega
        obtain ⟨m21, m22⟩ := m2
        have M1 := Lib.hid m1
        clear m1
        have g0 : wd.cell? ⟨g, 0, none⟩ = some (.int .i64 wx) := hbg.cell 0
        have g1 : wd.cell? ⟨g, 1, none⟩ = some (.int .i64 wy) := hbg.cell 1
        have h0 : wd.cell? ⟨h, 0, none⟩ = some (.int .i64 vx) := hbh.cell 0
        have h1 : wd.cell? ⟨h, 1, none⟩ = some (.int .i64 vy) := hbh.cell 1
        have lg := hbg.lt
        have lh := hbh.lt
        go_upto_region 8 with fail
        go_cut [11, 12] from 26 to 92 (fun v v2 w' => v = .int .i64 F ∧ v2 = .int .i64 E ∧ Below wd.heap.size wd w')
        case first =>
          have hBx : Below wd.heap.size wd wd.drew := (Below.refl _ _).drew
          go_region_held3 (fun w' => w'.cell? ⟨g, 0, none⟩ = some (.int .i64 wx) ∧ w'.cell? ⟨g, 1, none⟩ = some (.int .i64 wy) ∧ w'.cell? ⟨h, 0, none⟩ = some (.int .i64 vx) ∧ w'.cell? ⟨h, 1, none⟩ = some (.int .i64 vy))
            (refine ⟨?_, ?_, ?_, ?_⟩ <;> exact (Below.cell hBx (by assumption)).trans (by assumption))
            (first
              | (go_at_call 65; (with_reducible refine (rdot_n vx vy wx wy F _ ovx ovy owx owy HFn.out).mono ?_); rintro e w5 ⟨rfl, hb5⟩; replace hBx := below_step hBx hb5)
              | (go_at_call 75; (with_reducible refine (rcross_n wx wy vx vy E _ owx owy ovx ovy HEn.out).mono ?_); rintro e w6 ⟨rfl, hb6⟩; replace hBx := below_step hBx hb6))
          all_goals go_wp2
          all_goals go_meet
          all_goals exact ⟨rfl, rfl, hBx⟩
        case rest =>
          obtain ⟨we, rfl⟩ : ∃ x : World, x = wc := ⟨_, rfl⟩
          obtain ⟨rfl, rfl, hbe⟩ := hcut
          have hBe := Lib.hid (below_step hBd.out hbe)
          clear g0 g1 h0 h1 hbg hbh lg lh hBr hbw HFn HEn owx owy ovx ovy
          have t0 := hT.out _ hBe.out
          go_upto_region 9 with fail
          go_cut [92] from 26 to 92 (fun v w' => ∃ tb : Bool, v = .bool tb ∧ Hid (tb = holdB c p q r k) ∧ Below we.heap.size we w')
          case first =>
            by_cases D1 : E ≤ r * ln
            · by_cases D2 : -r * ln ≤ E
              · by_cases F1 : 0 ≤ F
                · by_cases F2 : F ≤ ln * ln
                  · have e : Hid (true = holdB c p q r k) := by
                      show _ = _; rw [HNB.out]
                      have := M1.out
                      have a1 : max E (-E) ≤ r * ln := by omega
                      simp [F1, F2, a1]
                    have q1 : decide (E ≤ r * ln) = true := decide_eq_true D1
                    have q2 : decide (-r * ln ≤ E) = true := decide_eq_true D2
                    have q3 : decide (0 ≤ F) = true := decide_eq_true F1
                    have q4 : decide (F ≤ ln * ln) = true := decide_eq_true F2
                    go_quiet (fail)
                    go_wp2
                    go_meet
                    exact ⟨true, rfl, e, below_drewN (Below.refl _ _) _⟩
                  · have e : Hid (false = holdB c p q r k) := by show _ = _; rw [HNB.out]; simp [F2]
                    have q1 : decide (E ≤ r * ln) = true := decide_eq_true D1
                    have q2 : decide (-r * ln ≤ E) = true := decide_eq_true D2
                    have q3 : decide (0 ≤ F) = true := decide_eq_true F1
                    have q4 : decide (F ≤ ln * ln) = false := decide_eq_false F2
                    go_quiet (fail)
                    go_wp2
                    go_meet
                    exact ⟨false, rfl, e, below_drewN (Below.refl _ _) _⟩
                · have e : Hid (false = holdB c p q r k) := by show _ = _; rw [HNB.out]; simp [F1]
                  have q1 : decide (E ≤ r * ln) = true := decide_eq_true D1
                  have q2 : decide (-r * ln ≤ E) = true := decide_eq_true D2
                  have q3 : decide (0 ≤ F) = false := decide_eq_false F1
                  go_quiet (fail)
                  go_wp2
                  go_meet
                  exact ⟨false, rfl, e, below_drewN (Below.refl _ _) _⟩
              · have e : Hid (false = holdB c p q r k) := by
                  show _ = _; rw [HNB.out]
                  have := M1.out
                  have a1 : ¬ max E (-E) ≤ r * ln := by omega
                  simp [a1]
                have q1 : decide (E ≤ r * ln) = true := decide_eq_true D1
                have q2 : decide (-r * ln ≤ E) = false := decide_eq_false D2
                go_quiet (fail)
                go_wp2
                go_meet
                exact ⟨false, rfl, e, below_drewN (Below.refl _ _) _⟩
            · have e : Hid (false = holdB c p q r k) := by
                show _ = _; rw [HNB.out]
                have a1 : ¬ max E (-E) ≤ r * ln := by omega
                simp [a1]
              have q1 : decide (E ≤ r * ln) = false := decide_eq_false D1
              go_quiet (fail)
              go_wp2
              go_meet
              exact ⟨false, rfl, e, below_drewN (Below.refl _ _) _⟩
          case rest =>
            obtain ⟨wf, rfl⟩ : ∃ x : World, x = wc := ⟨_, rfl⟩
            obtain ⟨tb, rfl, HTB, hbf⟩ := hcut
            have hBf := Lib.hid (below_step hBe.out hbf)
            cases tb with
            | false =>
              have hrow := Lib.hid (HSN.out HTB.out.symm)
              go_wp2
              go_roundw
              case rel => exact ⟨k + 1, by omega, by go_num, hrow, hBf.out⟩
              case measure => simp [intOf]; omega
            | true =>
              have hrow := Lib.hid (HYN.out HTB.out.symm)
              go_wp2
              go_ret
              exact ⟨congrArg (fun z => Ending.returned (.bool z)) hrow.out.symm, below_step hB2.out hBf.out⟩
    · obtain rfl : k = N := by omega
      have i1N : ¬ ((k : Nat) : Int) < (k : Int) := by omega
      have hBBf := Lib.hid (below_step hB2.out hBr)
      have hz := Lib.hid (holdL_no HO.out)
      go_wp2
      go_ret
      exact ⟨congrArg (fun z => Ending.returned (.bool z)) hz.out.symm, hBBf.out⟩
end Go.Proofs.Ytglkpabcflecmaa
