/- The reference's 'Blocks'. -/
import Derived.Test.YtglkpabcflecmaaRef3
namespace Go.Proofs.Ytglkpabcflecmaa
open Go.RowKit Go.Shelf

set_option maxRecDepth 100000 in
set_option maxHeartbeats 16000000 in
theorem rblocks_any (a1 a2 b1 b2 c1 c2 d1 d2 : Int) (r : Bool) (w : World) (hr : Hid (blkF (a1, a2) (b1, b2) (c1, c2) (d1, d2) = r)) :
    Calls Try.prog 42 #[sp a1 a2, sp b1 b2, sp c1 c2, sp d1 d2] w fun e w' => e = .returned (.bool r) ∧ Below w.heap.size w w' := by
  obtain ⟨ha, hb, hc, hd, hB⟩ := four_boxes' w (.int .i64 a1) (.int .i64 a2) (.int .i64 b1) (.int .i64 b2) (.int .i64 c1) (.int .i64 c2) (.int .i64 d1) (.int .i64 d2) _ rfl
  obtain ⟨va, hva⟩ : ∃ s, s = vp (a1, a2) := ⟨_, rfl⟩
  obtain ⟨vb, hvb⟩ : ∃ s, s = vp (b1, b2) := ⟨_, rfl⟩
  obtain ⟨vc, hvc⟩ : ∃ s, s = vp (c1, c2) := ⟨_, rfl⟩
  obtain ⟨vd, hvd⟩ : ∃ s, s = vp (d1, d2) := ⟨_, rfl⟩
  have VA : Hid (vp (a1, a2) = va) := hva.symm
  have VB : Hid (vp (b1, b2) = vb) := hvb.symm
  have VC : Hid (vp (c1, c2) = vc) := hvc.symm
  have VD : Hid (vp (d1, d2) = vd) := hvd.symm
  have hbad : Hid ((va && vb && vc && vd) = false → r = false) := by
    show _ → _
    intro h
    rw [← hr.out]; unfold blkF; rw [← hva, ← hvb, ← hvc, ← hvd, h]; rfl
  obtain ⟨s1, e1⟩ : ∃ s, s = sideF (a1, a2) (b1, b2) (c1, c2) := ⟨_, rfl⟩
  obtain ⟨s2, e2⟩ : ∃ s, s = sideF (a1, a2) (b1, b2) (d1, d2) := ⟨_, rfl⟩
  obtain ⟨s3, e3⟩ : ∃ s, s = sideF (c1, c2) (d1, d2) (a1, a2) := ⟨_, rfl⟩
  obtain ⟨s4, e4⟩ : ∃ s, s = sideF (c1, c2) (d1, d2) (b1, b2) := ⟨_, rfl⟩
  have E1 : Hid (sideF (a1, a2) (b1, b2) (c1, c2) = s1) := e1.symm
  have E2 : Hid (sideF (a1, a2) (b1, b2) (d1, d2) = s2) := e2.symm
  have E3 : Hid (sideF (c1, c2) (d1, d2) (a1, a2) = s3) := e3.symm
  have E4 : Hid (sideF (c1, c2) (d1, d2) (b1, b2) = s4) := e4.symm
  have b12 : -1 ≤ s1 * s2 ∧ s1 * s2 ≤ 1 := by rw [e1, e2]; exact side_mul _ _ _ _ _ _
  have b34 : -1 ≤ s3 * s4 ∧ s3 * s4 ≤ 1 := by rw [e3, e4]; exact side_mul _ _ _ _ _ _
  obtain ⟨q1, f1⟩ : ∃ s, s = bt2 (a1, a2) (b1, b2) (c1, c2) := ⟨_, rfl⟩
  obtain ⟨q2, f2⟩ : ∃ s, s = bt2 (a1, a2) (b1, b2) (d1, d2) := ⟨_, rfl⟩
  obtain ⟨q3, f3⟩ : ∃ s, s = bt2 (c1, c2) (d1, d2) (a1, a2) := ⟨_, rfl⟩
  obtain ⟨q4, f4⟩ : ∃ s, s = bt2 (c1, c2) (d1, d2) (b1, b2) := ⟨_, rfl⟩
  have F1 : Hid (bt2 (a1, a2) (b1, b2) (c1, c2) = q1) := f1.symm
  have F2 : Hid (bt2 (a1, a2) (b1, b2) (d1, d2) = q2) := f2.symm
  have F3 : Hid (bt2 (c1, c2) (d1, d2) (a1, a2) = q3) := f3.symm
  have F4 : Hid (bt2 (c1, c2) (d1, d2) (b1, b2) = q4) := f4.symm
  have hgood : Hid ((va && vb && vc && vd) = true → r = ((decide (s1 * s2 < 0) && decide (s3 * s4 < 0)) || (decide (s1 = 0) && q1) || (decide (s2 = 0) && q2) || (decide (s3 = 0) && q3) || (decide (s4 = 0) && q4))) := by
    show _ → _
    intro h
    rw [Bool.and_eq_true, Bool.and_eq_true, Bool.and_eq_true] at h
    obtain ⟨⟨⟨h1, h2⟩, h3⟩, h4⟩ := h
    rw [← hr.out, blk_ref (by rw [← hva, h1]) (by rw [← hvb, h2]) (by rw [← hvc, h3]) (by rw [← hvd, h4]), e1, e2, e3, e4, f1, f2, f3, f4]; rfl
  obtain ⟨m1, hm1⟩ : ∃ m, m = s1 * s2 := ⟨_, rfl⟩
  obtain ⟨m2, hm2⟩ : ∃ m, m = s3 * s4 := ⟨_, rfl⟩
  have I1 : Hid (IntKind.i64.wrap (s1 * s2) = m1) := by show _ = _; rw [hm1]; exact IntWalk.i64_in _ (by omega)
  have I2 : Hid (IntKind.i64.wrap (s3 * s4) = m2) := by show _ = _; rw [hm2]; exact IntWalk.i64_in _ (by omega)
  rw [← hm1, ← hm2] at hgood
  obtain ⟨g, hg⟩ : ∃ g, g = (decide (m1 < 0) && decide (m2 < 0)) := ⟨_, rfl⟩
  have G : Hid (g = (decide (m1 < 0) && decide (m2 < 0))) := hg
  rw [← hg] at hgood
  clear hg hva hvb hvc hvd e1 e2 e3 e4 f1 f2 f3 f4 b12 b34 hm1 hm2
  go_enter Try.func42, Try.ntmps42
  go_upto_region 1 with fail
  generalize (((w.alloc (.cells #[.int .i64 a1, .int .i64 a2] 43)).alloc (.cells #[.int .i64 b1, .int .i64 b2] 43)).alloc (.cells #[.int .i64 c1, .int .i64 c2] 43)).alloc (.cells #[.int .i64 d1, .int .i64 d2] 43) = w0 at ha hb hc hd hB ⊢
  have hBx : Below w0.heap.size w0 w0 := Below.refl _ _
  have la := ha.lt
  have lb := hb.lt
  have lc := hc.lt
  have ld := hd.lt
  have HB := Lib.hid hB
  clear hB
  obtain ⟨k0, k1, k2, k3, k4, k5, k6, k7⟩ := boxes_at ha hb hc hd hBx
  cases va
  · have hz : Hid (r = false) := hbad.out (by cases vb <;> cases vc <;> cases vd <;> rfl)
    clear hgood hbad
    go_wp2_with (first
      | (go_at_call 63; (with_reducible refine (rvalid_any a1 a2 _ _ VA).mono ?_); rintro e w2 ⟨rfl, hb2⟩; replace hBx := below_step hBx hb2; obtain ⟨k0, k1, k2, k3, k4, k5, k6, k7⟩ := boxes_at ha hb hc hd hBx))
    go_ret
    exact ⟨congrArg (fun z => Ending.returned (.bool z)) hz.out.symm, HB.out.trans (hBx.mono HB.out.size)⟩
  cases vb
  · have hz : Hid (r = false) := hbad.out (by cases vc <;> cases vd <;> rfl)
    clear hgood hbad
    go_wp2_with (first
      | (go_at_call 63; (with_reducible refine (rvalid_any a1 a2 _ _ VA).mono ?_); rintro e w2 ⟨rfl, hb2⟩; replace hBx := below_step hBx hb2; obtain ⟨k0, k1, k2, k3, k4, k5, k6, k7⟩ := boxes_at ha hb hc hd hBx)
      | (go_at_call 63; (with_reducible refine (rvalid_any b1 b2 _ _ VB).mono ?_); rintro e w2 ⟨rfl, hb2⟩; replace hBx := below_step hBx hb2; obtain ⟨k0, k1, k2, k3, k4, k5, k6, k7⟩ := boxes_at ha hb hc hd hBx))
    go_ret
    exact ⟨congrArg (fun z => Ending.returned (.bool z)) hz.out.symm, HB.out.trans (hBx.mono HB.out.size)⟩
  cases vc
  · have hz : Hid (r = false) := hbad.out (by cases vd <;> rfl)
    clear hgood hbad
    go_wp2_with (first
      | (go_at_call 63; (with_reducible refine (rvalid_any a1 a2 _ _ VA).mono ?_); rintro e w2 ⟨rfl, hb2⟩; replace hBx := below_step hBx hb2; obtain ⟨k0, k1, k2, k3, k4, k5, k6, k7⟩ := boxes_at ha hb hc hd hBx)
      | (go_at_call 63; (with_reducible refine (rvalid_any b1 b2 _ _ VB).mono ?_); rintro e w2 ⟨rfl, hb2⟩; replace hBx := below_step hBx hb2; obtain ⟨k0, k1, k2, k3, k4, k5, k6, k7⟩ := boxes_at ha hb hc hd hBx)
      | (go_at_call 63; (with_reducible refine (rvalid_any c1 c2 _ _ VC).mono ?_); rintro e w2 ⟨rfl, hb2⟩; replace hBx := below_step hBx hb2; obtain ⟨k0, k1, k2, k3, k4, k5, k6, k7⟩ := boxes_at ha hb hc hd hBx))
    go_ret
    exact ⟨congrArg (fun z => Ending.returned (.bool z)) hz.out.symm, HB.out.trans (hBx.mono HB.out.size)⟩
  cases vd
  · have hz : Hid (r = false) := hbad.out (by rfl)
    clear hgood hbad
    go_wp2_with (first
      | (go_at_call 63; (with_reducible refine (rvalid_any a1 a2 _ _ VA).mono ?_); rintro e w2 ⟨rfl, hb2⟩; replace hBx := below_step hBx hb2; obtain ⟨k0, k1, k2, k3, k4, k5, k6, k7⟩ := boxes_at ha hb hc hd hBx)
      | (go_at_call 63; (with_reducible refine (rvalid_any b1 b2 _ _ VB).mono ?_); rintro e w2 ⟨rfl, hb2⟩; replace hBx := below_step hBx hb2; obtain ⟨k0, k1, k2, k3, k4, k5, k6, k7⟩ := boxes_at ha hb hc hd hBx)
      | (go_at_call 63; (with_reducible refine (rvalid_any c1 c2 _ _ VC).mono ?_); rintro e w2 ⟨rfl, hb2⟩; replace hBx := below_step hBx hb2; obtain ⟨k0, k1, k2, k3, k4, k5, k6, k7⟩ := boxes_at ha hb hc hd hBx)
      | (go_at_call 63; (with_reducible refine (rvalid_any d1 d2 _ _ VD).mono ?_); rintro e w2 ⟨rfl, hb2⟩; replace hBx := below_step hBx hb2; obtain ⟨k0, k1, k2, k3, k4, k5, k6, k7⟩ := boxes_at ha hb hc hd hBx))
    go_ret
    exact ⟨congrArg (fun z => Ending.returned (.bool z)) hz.out.symm, HB.out.trans (hBx.mono HB.out.size)⟩
  have HZ := Lib.hid (hgood.out rfl)
  clear hgood hbad
  go_upto_region 3 with (first
    | (go_at_call 63; (with_reducible refine (rvalid_any a1 a2 _ _ VA).mono ?_); rintro e w2 ⟨rfl, hb2⟩; replace hBx := below_step hBx hb2; obtain ⟨k0, k1, k2, k3, k4, k5, k6, k7⟩ := boxes_at ha hb hc hd hBx)
    | (go_at_call 63; (with_reducible refine (rvalid_any b1 b2 _ _ VB).mono ?_); rintro e w2 ⟨rfl, hb2⟩; replace hBx := below_step hBx hb2; obtain ⟨k0, k1, k2, k3, k4, k5, k6, k7⟩ := boxes_at ha hb hc hd hBx)
    | (go_at_call 63; (with_reducible refine (rvalid_any c1 c2 _ _ VC).mono ?_); rintro e w2 ⟨rfl, hb2⟩; replace hBx := below_step hBx hb2; obtain ⟨k0, k1, k2, k3, k4, k5, k6, k7⟩ := boxes_at ha hb hc hd hBx)
    | (go_at_call 63; (with_reducible refine (rvalid_any d1 d2 _ _ VD).mono ?_); rintro e w2 ⟨rfl, hb2⟩; replace hBx := below_step hBx hb2; obtain ⟨k0, k1, k2, k3, k4, k5, k6, k7⟩ := boxes_at ha hb hc hd hBx))
  obtain ⟨w9, hw9⟩ : ∃ x : World, x = w2 := ⟨_, rfl⟩
  subst hw9
  have hB9 := Lib.hid hBx
  go_cut [9, 10, 11, 12] from 31 to 46 (fun x1 x2 x3 x4 w' => x1 = .int .i64 s1 ∧ x2 = .int .i64 s2 ∧ x3 = .int .i64 s3 ∧ x4 = .int .i64 s4 ∧ Below w9.heap.size w9 w')
  case first =>
    replace hBx : Below w9.heap.size w9 w9.drew := (Below.refl _ _).drew
    have z9 := hB9.out.size
    replace la := Nat.lt_of_lt_of_le la z9
    replace lb := Nat.lt_of_lt_of_le lb z9
    replace lc := Nat.lt_of_lt_of_le lc z9
    replace ld := Nat.lt_of_lt_of_le ld z9
    clear ha hb hc hd HB
    go_region_held3 (fun w' => w'.cell? ⟨w.heap.size, 0, none⟩ = some (.int .i64 a1) ∧ w'.cell? ⟨w.heap.size, 1, none⟩ = some (.int .i64 a2) ∧ w'.cell? ⟨w.heap.size + 1, 0, none⟩ = some (.int .i64 b1) ∧ w'.cell? ⟨w.heap.size + 1, 1, none⟩ = some (.int .i64 b2) ∧ w'.cell? ⟨w.heap.size + 1 + 1, 0, none⟩ = some (.int .i64 c1) ∧ w'.cell? ⟨w.heap.size + 1 + 1, 1, none⟩ = some (.int .i64 c2) ∧ w'.cell? ⟨w.heap.size + 1 + 1 + 1, 0, none⟩ = some (.int .i64 d1) ∧ w'.cell? ⟨w.heap.size + 1 + 1 + 1, 1, none⟩ = some (.int .i64 d2))
      (refine ⟨?_, ?_, ?_, ?_, ?_, ?_, ?_, ?_⟩ <;> exact (Below.cell hBx (by assumption)).trans (by assumption))
      (first
        | (go_at_call 38; (with_reducible refine (rside_any a1 a2 b1 b2 c1 c2 s1 _ E1).mono ?_); rintro e w2 ⟨rfl, hb2⟩; replace hBx := below_step hBx hb2)
        | (go_at_call 38; (with_reducible refine (rside_any a1 a2 b1 b2 d1 d2 s2 _ E2).mono ?_); rintro e w2 ⟨rfl, hb2⟩; replace hBx := below_step hBx hb2)
        | (go_at_call 38; (with_reducible refine (rside_any c1 c2 d1 d2 a1 a2 s3 _ E3).mono ?_); rintro e w2 ⟨rfl, hb2⟩; replace hBx := below_step hBx hb2)
        | (go_at_call 38; (with_reducible refine (rside_any c1 c2 d1 d2 b1 b2 s4 _ E4).mono ?_); rintro e w2 ⟨rfl, hb2⟩; replace hBx := below_step hBx hb2))
    all_goals go_wp2
    all_goals go_meet
    all_goals exact ⟨rfl, rfl, rfl, rfl, hBx⟩
  case rest =>
    obtain ⟨rfl, rfl, rfl, rfl, hBy⟩ := hcut
    clear k0 k1 k2 k3 k4 k5 k6 k7
    replace hBx := below_step hB9.out hBy
    clear hBy
    obtain ⟨k0, k1, k2, k3, k4, k5, k6, k7⟩ := boxes_at ha hb hc hd hBx
    go_upto_region 4 with fail
    rename World => wd
    go_cut [56] from 47 to 56 (fun x w' => x = .bool g ∧ wd = w')
    case first =>
      have j1 := I1.out
      have j2 := I2.out
      by_cases g1 : m1 < 0
      · have g3 : decide (m1 < 0) = true := decide_eq_true g1
        go_wp2
        go_meet
        exact ⟨congrArg Value.bool (by rw [G.out, g3]; rfl), rfl⟩
      · have g3 : decide (m1 < 0) = false := decide_eq_false g1
        go_wp2
        go_meet
        exact ⟨congrArg Value.bool (by rw [G.out, g3]; rfl), rfl⟩
    case rest =>
      obtain ⟨rfl, rfl⟩ := hcut
      cases g
      rotate_left
      · have hz : Hid (r = true) := by show r = true; rw [HZ.out]; simp
        clear HZ
        go_wp2
        go_ret
        exact ⟨congrArg (fun z => Ending.returned (.bool z)) hz.out.symm, HB.out.trans (hBx.mono HB.out.size)⟩
      by_cases z1 : s1 = 0
      · obtain rfl : s1 = 0 := z1
        cases q1
        rotate_left
        · skip
          have hz : Hid (r = true) := by show r = true; rw [HZ.out]; simp
          clear HZ
          go_wp2_with (first
            | (go_at_call 80; (with_reducible refine (rbt_any a1 a2 b1 b2 c1 c2 _ _ F1).mono ?_); rintro e w2 ⟨rfl, hb2⟩; replace hBx := below_step hBx hb2; obtain ⟨k0, k1, k2, k3, k4, k5, k6, k7⟩ := boxes_at ha hb hc hd hBx))
          go_ret
          exact ⟨congrArg (fun z => Ending.returned (.bool z)) hz.out.symm, HB.out.trans (hBx.mono HB.out.size)⟩
        · skip
          by_cases z2 : s2 = 0
          · obtain rfl : s2 = 0 := z2
            cases q2
            rotate_left
            · skip
              have hz : Hid (r = true) := by show r = true; rw [HZ.out]; simp
              clear HZ
              go_wp2_with (first
                | (go_at_call 80; (with_reducible refine (rbt_any a1 a2 b1 b2 c1 c2 _ _ F1).mono ?_); rintro e w2 ⟨rfl, hb2⟩; replace hBx := below_step hBx hb2; obtain ⟨k0, k1, k2, k3, k4, k5, k6, k7⟩ := boxes_at ha hb hc hd hBx)
                | (go_at_call 80; (with_reducible refine (rbt_any a1 a2 b1 b2 d1 d2 _ _ F2).mono ?_); rintro e w2 ⟨rfl, hb2⟩; replace hBx := below_step hBx hb2; obtain ⟨k0, k1, k2, k3, k4, k5, k6, k7⟩ := boxes_at ha hb hc hd hBx))
              go_ret
              exact ⟨congrArg (fun z => Ending.returned (.bool z)) hz.out.symm, HB.out.trans (hBx.mono HB.out.size)⟩
            · skip
              by_cases z3 : s3 = 0
              · obtain rfl : s3 = 0 := z3
                cases q3
                rotate_left
                · skip
                  have hz : Hid (r = true) := by show r = true; rw [HZ.out]; simp
                  clear HZ
                  go_wp2_with (first
                    | (go_at_call 80; (with_reducible refine (rbt_any a1 a2 b1 b2 c1 c2 _ _ F1).mono ?_); rintro e w2 ⟨rfl, hb2⟩; replace hBx := below_step hBx hb2; obtain ⟨k0, k1, k2, k3, k4, k5, k6, k7⟩ := boxes_at ha hb hc hd hBx)
                    | (go_at_call 80; (with_reducible refine (rbt_any a1 a2 b1 b2 d1 d2 _ _ F2).mono ?_); rintro e w2 ⟨rfl, hb2⟩; replace hBx := below_step hBx hb2; obtain ⟨k0, k1, k2, k3, k4, k5, k6, k7⟩ := boxes_at ha hb hc hd hBx)
                    | (go_at_call 80; (with_reducible refine (rbt_any c1 c2 d1 d2 a1 a2 _ _ F3).mono ?_); rintro e w2 ⟨rfl, hb2⟩; replace hBx := below_step hBx hb2; obtain ⟨k0, k1, k2, k3, k4, k5, k6, k7⟩ := boxes_at ha hb hc hd hBx))
                  go_ret
                  exact ⟨congrArg (fun z => Ending.returned (.bool z)) hz.out.symm, HB.out.trans (hBx.mono HB.out.size)⟩
                · skip
                  by_cases z4 : s4 = 0
                  · obtain rfl : s4 = 0 := z4
                    cases q4
                    rotate_left
                    · skip
                      have hz : Hid (r = true) := by show r = true; rw [HZ.out]; simp
                      clear HZ
                      go_wp2_with (first
                        | (go_at_call 80; (with_reducible refine (rbt_any a1 a2 b1 b2 c1 c2 _ _ F1).mono ?_); rintro e w2 ⟨rfl, hb2⟩; replace hBx := below_step hBx hb2; obtain ⟨k0, k1, k2, k3, k4, k5, k6, k7⟩ := boxes_at ha hb hc hd hBx)
                        | (go_at_call 80; (with_reducible refine (rbt_any a1 a2 b1 b2 d1 d2 _ _ F2).mono ?_); rintro e w2 ⟨rfl, hb2⟩; replace hBx := below_step hBx hb2; obtain ⟨k0, k1, k2, k3, k4, k5, k6, k7⟩ := boxes_at ha hb hc hd hBx)
                        | (go_at_call 80; (with_reducible refine (rbt_any c1 c2 d1 d2 a1 a2 _ _ F3).mono ?_); rintro e w2 ⟨rfl, hb2⟩; replace hBx := below_step hBx hb2; obtain ⟨k0, k1, k2, k3, k4, k5, k6, k7⟩ := boxes_at ha hb hc hd hBx)
                        | (go_at_call 80; (with_reducible refine (rbt_any c1 c2 d1 d2 b1 b2 _ _ F4).mono ?_); rintro e w2 ⟨rfl, hb2⟩; replace hBx := below_step hBx hb2; obtain ⟨k0, k1, k2, k3, k4, k5, k6, k7⟩ := boxes_at ha hb hc hd hBx))
                      go_ret
                      exact ⟨congrArg (fun z => Ending.returned (.bool z)) hz.out.symm, HB.out.trans (hBx.mono HB.out.size)⟩
                    · skip
                      have hz : Hid (r = false) := by show r = false; rw [HZ.out]; simp
                      clear HZ
                      go_wp2_with (first
                        | (go_at_call 80; (with_reducible refine (rbt_any a1 a2 b1 b2 c1 c2 _ _ F1).mono ?_); rintro e w2 ⟨rfl, hb2⟩; replace hBx := below_step hBx hb2; obtain ⟨k0, k1, k2, k3, k4, k5, k6, k7⟩ := boxes_at ha hb hc hd hBx)
                        | (go_at_call 80; (with_reducible refine (rbt_any a1 a2 b1 b2 d1 d2 _ _ F2).mono ?_); rintro e w2 ⟨rfl, hb2⟩; replace hBx := below_step hBx hb2; obtain ⟨k0, k1, k2, k3, k4, k5, k6, k7⟩ := boxes_at ha hb hc hd hBx)
                        | (go_at_call 80; (with_reducible refine (rbt_any c1 c2 d1 d2 a1 a2 _ _ F3).mono ?_); rintro e w2 ⟨rfl, hb2⟩; replace hBx := below_step hBx hb2; obtain ⟨k0, k1, k2, k3, k4, k5, k6, k7⟩ := boxes_at ha hb hc hd hBx)
                        | (go_at_call 80; (with_reducible refine (rbt_any c1 c2 d1 d2 b1 b2 _ _ F4).mono ?_); rintro e w2 ⟨rfl, hb2⟩; replace hBx := below_step hBx hb2; obtain ⟨k0, k1, k2, k3, k4, k5, k6, k7⟩ := boxes_at ha hb hc hd hBx))
                      go_ret
                      exact ⟨congrArg (fun z => Ending.returned (.bool z)) hz.out.symm, HB.out.trans (hBx.mono HB.out.size)⟩
                  · have y4 : (s4 == 0) = false := by simp [z4]
                    have x4 : decide (s4 = 0) = false := decide_eq_false z4
                    have hz : Hid (r = false) := by show r = false; rw [HZ.out]; simp [z4]
                    clear HZ
                    go_wp2_with (first
                      | (go_at_call 80; (with_reducible refine (rbt_any a1 a2 b1 b2 c1 c2 _ _ F1).mono ?_); rintro e w2 ⟨rfl, hb2⟩; replace hBx := below_step hBx hb2; obtain ⟨k0, k1, k2, k3, k4, k5, k6, k7⟩ := boxes_at ha hb hc hd hBx)
                      | (go_at_call 80; (with_reducible refine (rbt_any a1 a2 b1 b2 d1 d2 _ _ F2).mono ?_); rintro e w2 ⟨rfl, hb2⟩; replace hBx := below_step hBx hb2; obtain ⟨k0, k1, k2, k3, k4, k5, k6, k7⟩ := boxes_at ha hb hc hd hBx)
                      | (go_at_call 80; (with_reducible refine (rbt_any c1 c2 d1 d2 a1 a2 _ _ F3).mono ?_); rintro e w2 ⟨rfl, hb2⟩; replace hBx := below_step hBx hb2; obtain ⟨k0, k1, k2, k3, k4, k5, k6, k7⟩ := boxes_at ha hb hc hd hBx))
                    go_ret
                    exact ⟨congrArg (fun z => Ending.returned (.bool z)) hz.out.symm, HB.out.trans (hBx.mono HB.out.size)⟩
              · have y3 : (s3 == 0) = false := by simp [z3]
                have x3 : decide (s3 = 0) = false := decide_eq_false z3
                by_cases z4 : s4 = 0
                · obtain rfl : s4 = 0 := z4
                  cases q4
                  rotate_left
                  · skip
                    have hz : Hid (r = true) := by show r = true; rw [HZ.out]; simp [z3]
                    clear HZ
                    go_wp2_with (first
                      | (go_at_call 80; (with_reducible refine (rbt_any a1 a2 b1 b2 c1 c2 _ _ F1).mono ?_); rintro e w2 ⟨rfl, hb2⟩; replace hBx := below_step hBx hb2; obtain ⟨k0, k1, k2, k3, k4, k5, k6, k7⟩ := boxes_at ha hb hc hd hBx)
                      | (go_at_call 80; (with_reducible refine (rbt_any a1 a2 b1 b2 d1 d2 _ _ F2).mono ?_); rintro e w2 ⟨rfl, hb2⟩; replace hBx := below_step hBx hb2; obtain ⟨k0, k1, k2, k3, k4, k5, k6, k7⟩ := boxes_at ha hb hc hd hBx)
                      | (go_at_call 80; (with_reducible refine (rbt_any c1 c2 d1 d2 b1 b2 _ _ F4).mono ?_); rintro e w2 ⟨rfl, hb2⟩; replace hBx := below_step hBx hb2; obtain ⟨k0, k1, k2, k3, k4, k5, k6, k7⟩ := boxes_at ha hb hc hd hBx))
                    go_ret
                    exact ⟨congrArg (fun z => Ending.returned (.bool z)) hz.out.symm, HB.out.trans (hBx.mono HB.out.size)⟩
                  · skip
                    have hz : Hid (r = false) := by show r = false; rw [HZ.out]; simp [z3]
                    clear HZ
                    go_wp2_with (first
                      | (go_at_call 80; (with_reducible refine (rbt_any a1 a2 b1 b2 c1 c2 _ _ F1).mono ?_); rintro e w2 ⟨rfl, hb2⟩; replace hBx := below_step hBx hb2; obtain ⟨k0, k1, k2, k3, k4, k5, k6, k7⟩ := boxes_at ha hb hc hd hBx)
                      | (go_at_call 80; (with_reducible refine (rbt_any a1 a2 b1 b2 d1 d2 _ _ F2).mono ?_); rintro e w2 ⟨rfl, hb2⟩; replace hBx := below_step hBx hb2; obtain ⟨k0, k1, k2, k3, k4, k5, k6, k7⟩ := boxes_at ha hb hc hd hBx)
                      | (go_at_call 80; (with_reducible refine (rbt_any c1 c2 d1 d2 b1 b2 _ _ F4).mono ?_); rintro e w2 ⟨rfl, hb2⟩; replace hBx := below_step hBx hb2; obtain ⟨k0, k1, k2, k3, k4, k5, k6, k7⟩ := boxes_at ha hb hc hd hBx))
                    go_ret
                    exact ⟨congrArg (fun z => Ending.returned (.bool z)) hz.out.symm, HB.out.trans (hBx.mono HB.out.size)⟩
                · have y4 : (s4 == 0) = false := by simp [z4]
                  have x4 : decide (s4 = 0) = false := decide_eq_false z4
                  have hz : Hid (r = false) := by show r = false; rw [HZ.out]; simp [z3, z4]
                  clear HZ
                  go_wp2_with (first
                    | (go_at_call 80; (with_reducible refine (rbt_any a1 a2 b1 b2 c1 c2 _ _ F1).mono ?_); rintro e w2 ⟨rfl, hb2⟩; replace hBx := below_step hBx hb2; obtain ⟨k0, k1, k2, k3, k4, k5, k6, k7⟩ := boxes_at ha hb hc hd hBx)
                    | (go_at_call 80; (with_reducible refine (rbt_any a1 a2 b1 b2 d1 d2 _ _ F2).mono ?_); rintro e w2 ⟨rfl, hb2⟩; replace hBx := below_step hBx hb2; obtain ⟨k0, k1, k2, k3, k4, k5, k6, k7⟩ := boxes_at ha hb hc hd hBx))
                  go_ret
                  exact ⟨congrArg (fun z => Ending.returned (.bool z)) hz.out.symm, HB.out.trans (hBx.mono HB.out.size)⟩
          · have y2 : (s2 == 0) = false := by simp [z2]
            have x2 : decide (s2 = 0) = false := decide_eq_false z2
            by_cases z3 : s3 = 0
            · obtain rfl : s3 = 0 := z3
              cases q3
              rotate_left
              · skip
                have hz : Hid (r = true) := by show r = true; rw [HZ.out]; simp [z2]
                clear HZ
                go_wp2_with (first
                  | (go_at_call 80; (with_reducible refine (rbt_any a1 a2 b1 b2 c1 c2 _ _ F1).mono ?_); rintro e w2 ⟨rfl, hb2⟩; replace hBx := below_step hBx hb2; obtain ⟨k0, k1, k2, k3, k4, k5, k6, k7⟩ := boxes_at ha hb hc hd hBx)
                  | (go_at_call 80; (with_reducible refine (rbt_any c1 c2 d1 d2 a1 a2 _ _ F3).mono ?_); rintro e w2 ⟨rfl, hb2⟩; replace hBx := below_step hBx hb2; obtain ⟨k0, k1, k2, k3, k4, k5, k6, k7⟩ := boxes_at ha hb hc hd hBx))
                go_ret
                exact ⟨congrArg (fun z => Ending.returned (.bool z)) hz.out.symm, HB.out.trans (hBx.mono HB.out.size)⟩
              · skip
                by_cases z4 : s4 = 0
                · obtain rfl : s4 = 0 := z4
                  cases q4
                  rotate_left
                  · skip
                    have hz : Hid (r = true) := by show r = true; rw [HZ.out]; simp [z2]
                    clear HZ
                    go_wp2_with (first
                      | (go_at_call 80; (with_reducible refine (rbt_any a1 a2 b1 b2 c1 c2 _ _ F1).mono ?_); rintro e w2 ⟨rfl, hb2⟩; replace hBx := below_step hBx hb2; obtain ⟨k0, k1, k2, k3, k4, k5, k6, k7⟩ := boxes_at ha hb hc hd hBx)
                      | (go_at_call 80; (with_reducible refine (rbt_any c1 c2 d1 d2 a1 a2 _ _ F3).mono ?_); rintro e w2 ⟨rfl, hb2⟩; replace hBx := below_step hBx hb2; obtain ⟨k0, k1, k2, k3, k4, k5, k6, k7⟩ := boxes_at ha hb hc hd hBx)
                      | (go_at_call 80; (with_reducible refine (rbt_any c1 c2 d1 d2 b1 b2 _ _ F4).mono ?_); rintro e w2 ⟨rfl, hb2⟩; replace hBx := below_step hBx hb2; obtain ⟨k0, k1, k2, k3, k4, k5, k6, k7⟩ := boxes_at ha hb hc hd hBx))
                    go_ret
                    exact ⟨congrArg (fun z => Ending.returned (.bool z)) hz.out.symm, HB.out.trans (hBx.mono HB.out.size)⟩
                  · skip
                    have hz : Hid (r = false) := by show r = false; rw [HZ.out]; simp [z2]
                    clear HZ
                    go_wp2_with (first
                      | (go_at_call 80; (with_reducible refine (rbt_any a1 a2 b1 b2 c1 c2 _ _ F1).mono ?_); rintro e w2 ⟨rfl, hb2⟩; replace hBx := below_step hBx hb2; obtain ⟨k0, k1, k2, k3, k4, k5, k6, k7⟩ := boxes_at ha hb hc hd hBx)
                      | (go_at_call 80; (with_reducible refine (rbt_any c1 c2 d1 d2 a1 a2 _ _ F3).mono ?_); rintro e w2 ⟨rfl, hb2⟩; replace hBx := below_step hBx hb2; obtain ⟨k0, k1, k2, k3, k4, k5, k6, k7⟩ := boxes_at ha hb hc hd hBx)
                      | (go_at_call 80; (with_reducible refine (rbt_any c1 c2 d1 d2 b1 b2 _ _ F4).mono ?_); rintro e w2 ⟨rfl, hb2⟩; replace hBx := below_step hBx hb2; obtain ⟨k0, k1, k2, k3, k4, k5, k6, k7⟩ := boxes_at ha hb hc hd hBx))
                    go_ret
                    exact ⟨congrArg (fun z => Ending.returned (.bool z)) hz.out.symm, HB.out.trans (hBx.mono HB.out.size)⟩
                · have y4 : (s4 == 0) = false := by simp [z4]
                  have x4 : decide (s4 = 0) = false := decide_eq_false z4
                  have hz : Hid (r = false) := by show r = false; rw [HZ.out]; simp [z2, z4]
                  clear HZ
                  go_wp2_with (first
                    | (go_at_call 80; (with_reducible refine (rbt_any a1 a2 b1 b2 c1 c2 _ _ F1).mono ?_); rintro e w2 ⟨rfl, hb2⟩; replace hBx := below_step hBx hb2; obtain ⟨k0, k1, k2, k3, k4, k5, k6, k7⟩ := boxes_at ha hb hc hd hBx)
                    | (go_at_call 80; (with_reducible refine (rbt_any c1 c2 d1 d2 a1 a2 _ _ F3).mono ?_); rintro e w2 ⟨rfl, hb2⟩; replace hBx := below_step hBx hb2; obtain ⟨k0, k1, k2, k3, k4, k5, k6, k7⟩ := boxes_at ha hb hc hd hBx))
                  go_ret
                  exact ⟨congrArg (fun z => Ending.returned (.bool z)) hz.out.symm, HB.out.trans (hBx.mono HB.out.size)⟩
            · have y3 : (s3 == 0) = false := by simp [z3]
              have x3 : decide (s3 = 0) = false := decide_eq_false z3
              by_cases z4 : s4 = 0
              · obtain rfl : s4 = 0 := z4
                cases q4
                rotate_left
                · skip
                  have hz : Hid (r = true) := by show r = true; rw [HZ.out]; simp [z2, z3]
                  clear HZ
                  go_wp2_with (first
                    | (go_at_call 80; (with_reducible refine (rbt_any a1 a2 b1 b2 c1 c2 _ _ F1).mono ?_); rintro e w2 ⟨rfl, hb2⟩; replace hBx := below_step hBx hb2; obtain ⟨k0, k1, k2, k3, k4, k5, k6, k7⟩ := boxes_at ha hb hc hd hBx)
                    | (go_at_call 80; (with_reducible refine (rbt_any c1 c2 d1 d2 b1 b2 _ _ F4).mono ?_); rintro e w2 ⟨rfl, hb2⟩; replace hBx := below_step hBx hb2; obtain ⟨k0, k1, k2, k3, k4, k5, k6, k7⟩ := boxes_at ha hb hc hd hBx))
                  go_ret
                  exact ⟨congrArg (fun z => Ending.returned (.bool z)) hz.out.symm, HB.out.trans (hBx.mono HB.out.size)⟩
                · skip
                  have hz : Hid (r = false) := by show r = false; rw [HZ.out]; simp [z2, z3]
                  clear HZ
                  go_wp2_with (first
                    | (go_at_call 80; (with_reducible refine (rbt_any a1 a2 b1 b2 c1 c2 _ _ F1).mono ?_); rintro e w2 ⟨rfl, hb2⟩; replace hBx := below_step hBx hb2; obtain ⟨k0, k1, k2, k3, k4, k5, k6, k7⟩ := boxes_at ha hb hc hd hBx)
                    | (go_at_call 80; (with_reducible refine (rbt_any c1 c2 d1 d2 b1 b2 _ _ F4).mono ?_); rintro e w2 ⟨rfl, hb2⟩; replace hBx := below_step hBx hb2; obtain ⟨k0, k1, k2, k3, k4, k5, k6, k7⟩ := boxes_at ha hb hc hd hBx))
                  go_ret
                  exact ⟨congrArg (fun z => Ending.returned (.bool z)) hz.out.symm, HB.out.trans (hBx.mono HB.out.size)⟩
              · have y4 : (s4 == 0) = false := by simp [z4]
                have x4 : decide (s4 = 0) = false := decide_eq_false z4
                have hz : Hid (r = false) := by show r = false; rw [HZ.out]; simp [z2, z3, z4]
                clear HZ
                go_wp2_with (first
                  | (go_at_call 80; (with_reducible refine (rbt_any a1 a2 b1 b2 c1 c2 _ _ F1).mono ?_); rintro e w2 ⟨rfl, hb2⟩; replace hBx := below_step hBx hb2; obtain ⟨k0, k1, k2, k3, k4, k5, k6, k7⟩ := boxes_at ha hb hc hd hBx))
                go_ret
                exact ⟨congrArg (fun z => Ending.returned (.bool z)) hz.out.symm, HB.out.trans (hBx.mono HB.out.size)⟩
      · have y1 : (s1 == 0) = false := by simp [z1]
        have x1 : decide (s1 = 0) = false := decide_eq_false z1
        by_cases z2 : s2 = 0
        · obtain rfl : s2 = 0 := z2
          cases q2
          rotate_left
          · skip
            have hz : Hid (r = true) := by show r = true; rw [HZ.out]; simp [z1]
            clear HZ
            go_wp2_with (first
              | (go_at_call 80; (with_reducible refine (rbt_any a1 a2 b1 b2 d1 d2 _ _ F2).mono ?_); rintro e w2 ⟨rfl, hb2⟩; replace hBx := below_step hBx hb2; obtain ⟨k0, k1, k2, k3, k4, k5, k6, k7⟩ := boxes_at ha hb hc hd hBx))
            go_ret
            exact ⟨congrArg (fun z => Ending.returned (.bool z)) hz.out.symm, HB.out.trans (hBx.mono HB.out.size)⟩
          · skip
            by_cases z3 : s3 = 0
            · obtain rfl : s3 = 0 := z3
              cases q3
              rotate_left
              · skip
                have hz : Hid (r = true) := by show r = true; rw [HZ.out]; simp [z1]
                clear HZ
                go_wp2_with (first
                  | (go_at_call 80; (with_reducible refine (rbt_any a1 a2 b1 b2 d1 d2 _ _ F2).mono ?_); rintro e w2 ⟨rfl, hb2⟩; replace hBx := below_step hBx hb2; obtain ⟨k0, k1, k2, k3, k4, k5, k6, k7⟩ := boxes_at ha hb hc hd hBx)
                  | (go_at_call 80; (with_reducible refine (rbt_any c1 c2 d1 d2 a1 a2 _ _ F3).mono ?_); rintro e w2 ⟨rfl, hb2⟩; replace hBx := below_step hBx hb2; obtain ⟨k0, k1, k2, k3, k4, k5, k6, k7⟩ := boxes_at ha hb hc hd hBx))
                go_ret
                exact ⟨congrArg (fun z => Ending.returned (.bool z)) hz.out.symm, HB.out.trans (hBx.mono HB.out.size)⟩
              · skip
                by_cases z4 : s4 = 0
                · obtain rfl : s4 = 0 := z4
                  cases q4
                  rotate_left
                  · skip
                    have hz : Hid (r = true) := by show r = true; rw [HZ.out]; simp [z1]
                    clear HZ
                    go_wp2_with (first
                      | (go_at_call 80; (with_reducible refine (rbt_any a1 a2 b1 b2 d1 d2 _ _ F2).mono ?_); rintro e w2 ⟨rfl, hb2⟩; replace hBx := below_step hBx hb2; obtain ⟨k0, k1, k2, k3, k4, k5, k6, k7⟩ := boxes_at ha hb hc hd hBx)
                      | (go_at_call 80; (with_reducible refine (rbt_any c1 c2 d1 d2 a1 a2 _ _ F3).mono ?_); rintro e w2 ⟨rfl, hb2⟩; replace hBx := below_step hBx hb2; obtain ⟨k0, k1, k2, k3, k4, k5, k6, k7⟩ := boxes_at ha hb hc hd hBx)
                      | (go_at_call 80; (with_reducible refine (rbt_any c1 c2 d1 d2 b1 b2 _ _ F4).mono ?_); rintro e w2 ⟨rfl, hb2⟩; replace hBx := below_step hBx hb2; obtain ⟨k0, k1, k2, k3, k4, k5, k6, k7⟩ := boxes_at ha hb hc hd hBx))
                    go_ret
                    exact ⟨congrArg (fun z => Ending.returned (.bool z)) hz.out.symm, HB.out.trans (hBx.mono HB.out.size)⟩
                  · skip
                    have hz : Hid (r = false) := by show r = false; rw [HZ.out]; simp [z1]
                    clear HZ
                    go_wp2_with (first
                      | (go_at_call 80; (with_reducible refine (rbt_any a1 a2 b1 b2 d1 d2 _ _ F2).mono ?_); rintro e w2 ⟨rfl, hb2⟩; replace hBx := below_step hBx hb2; obtain ⟨k0, k1, k2, k3, k4, k5, k6, k7⟩ := boxes_at ha hb hc hd hBx)
                      | (go_at_call 80; (with_reducible refine (rbt_any c1 c2 d1 d2 a1 a2 _ _ F3).mono ?_); rintro e w2 ⟨rfl, hb2⟩; replace hBx := below_step hBx hb2; obtain ⟨k0, k1, k2, k3, k4, k5, k6, k7⟩ := boxes_at ha hb hc hd hBx)
                      | (go_at_call 80; (with_reducible refine (rbt_any c1 c2 d1 d2 b1 b2 _ _ F4).mono ?_); rintro e w2 ⟨rfl, hb2⟩; replace hBx := below_step hBx hb2; obtain ⟨k0, k1, k2, k3, k4, k5, k6, k7⟩ := boxes_at ha hb hc hd hBx))
                    go_ret
                    exact ⟨congrArg (fun z => Ending.returned (.bool z)) hz.out.symm, HB.out.trans (hBx.mono HB.out.size)⟩
                · have y4 : (s4 == 0) = false := by simp [z4]
                  have x4 : decide (s4 = 0) = false := decide_eq_false z4
                  have hz : Hid (r = false) := by show r = false; rw [HZ.out]; simp [z1, z4]
                  clear HZ
                  go_wp2_with (first
                    | (go_at_call 80; (with_reducible refine (rbt_any a1 a2 b1 b2 d1 d2 _ _ F2).mono ?_); rintro e w2 ⟨rfl, hb2⟩; replace hBx := below_step hBx hb2; obtain ⟨k0, k1, k2, k3, k4, k5, k6, k7⟩ := boxes_at ha hb hc hd hBx)
                    | (go_at_call 80; (with_reducible refine (rbt_any c1 c2 d1 d2 a1 a2 _ _ F3).mono ?_); rintro e w2 ⟨rfl, hb2⟩; replace hBx := below_step hBx hb2; obtain ⟨k0, k1, k2, k3, k4, k5, k6, k7⟩ := boxes_at ha hb hc hd hBx))
                  go_ret
                  exact ⟨congrArg (fun z => Ending.returned (.bool z)) hz.out.symm, HB.out.trans (hBx.mono HB.out.size)⟩
            · have y3 : (s3 == 0) = false := by simp [z3]
              have x3 : decide (s3 = 0) = false := decide_eq_false z3
              by_cases z4 : s4 = 0
              · obtain rfl : s4 = 0 := z4
                cases q4
                rotate_left
                · skip
                  have hz : Hid (r = true) := by show r = true; rw [HZ.out]; simp [z1, z3]
                  clear HZ
                  go_wp2_with (first
                    | (go_at_call 80; (with_reducible refine (rbt_any a1 a2 b1 b2 d1 d2 _ _ F2).mono ?_); rintro e w2 ⟨rfl, hb2⟩; replace hBx := below_step hBx hb2; obtain ⟨k0, k1, k2, k3, k4, k5, k6, k7⟩ := boxes_at ha hb hc hd hBx)
                    | (go_at_call 80; (with_reducible refine (rbt_any c1 c2 d1 d2 b1 b2 _ _ F4).mono ?_); rintro e w2 ⟨rfl, hb2⟩; replace hBx := below_step hBx hb2; obtain ⟨k0, k1, k2, k3, k4, k5, k6, k7⟩ := boxes_at ha hb hc hd hBx))
                  go_ret
                  exact ⟨congrArg (fun z => Ending.returned (.bool z)) hz.out.symm, HB.out.trans (hBx.mono HB.out.size)⟩
                · skip
                  have hz : Hid (r = false) := by show r = false; rw [HZ.out]; simp [z1, z3]
                  clear HZ
                  go_wp2_with (first
                    | (go_at_call 80; (with_reducible refine (rbt_any a1 a2 b1 b2 d1 d2 _ _ F2).mono ?_); rintro e w2 ⟨rfl, hb2⟩; replace hBx := below_step hBx hb2; obtain ⟨k0, k1, k2, k3, k4, k5, k6, k7⟩ := boxes_at ha hb hc hd hBx)
                    | (go_at_call 80; (with_reducible refine (rbt_any c1 c2 d1 d2 b1 b2 _ _ F4).mono ?_); rintro e w2 ⟨rfl, hb2⟩; replace hBx := below_step hBx hb2; obtain ⟨k0, k1, k2, k3, k4, k5, k6, k7⟩ := boxes_at ha hb hc hd hBx))
                  go_ret
                  exact ⟨congrArg (fun z => Ending.returned (.bool z)) hz.out.symm, HB.out.trans (hBx.mono HB.out.size)⟩
              · have y4 : (s4 == 0) = false := by simp [z4]
                have x4 : decide (s4 = 0) = false := decide_eq_false z4
                have hz : Hid (r = false) := by show r = false; rw [HZ.out]; simp [z1, z3, z4]
                clear HZ
                go_wp2_with (first
                  | (go_at_call 80; (with_reducible refine (rbt_any a1 a2 b1 b2 d1 d2 _ _ F2).mono ?_); rintro e w2 ⟨rfl, hb2⟩; replace hBx := below_step hBx hb2; obtain ⟨k0, k1, k2, k3, k4, k5, k6, k7⟩ := boxes_at ha hb hc hd hBx))
                go_ret
                exact ⟨congrArg (fun z => Ending.returned (.bool z)) hz.out.symm, HB.out.trans (hBx.mono HB.out.size)⟩
        · have y2 : (s2 == 0) = false := by simp [z2]
          have x2 : decide (s2 = 0) = false := decide_eq_false z2
          by_cases z3 : s3 = 0
          · obtain rfl : s3 = 0 := z3
            cases q3
            rotate_left
            · skip
              have hz : Hid (r = true) := by show r = true; rw [HZ.out]; simp [z1, z2]
              clear HZ
              go_wp2_with (first
                | (go_at_call 80; (with_reducible refine (rbt_any c1 c2 d1 d2 a1 a2 _ _ F3).mono ?_); rintro e w2 ⟨rfl, hb2⟩; replace hBx := below_step hBx hb2; obtain ⟨k0, k1, k2, k3, k4, k5, k6, k7⟩ := boxes_at ha hb hc hd hBx))
              go_ret
              exact ⟨congrArg (fun z => Ending.returned (.bool z)) hz.out.symm, HB.out.trans (hBx.mono HB.out.size)⟩
            · skip
              by_cases z4 : s4 = 0
              · obtain rfl : s4 = 0 := z4
                cases q4
                rotate_left
                · skip
                  have hz : Hid (r = true) := by show r = true; rw [HZ.out]; simp [z1, z2]
                  clear HZ
                  go_wp2_with (first
                    | (go_at_call 80; (with_reducible refine (rbt_any c1 c2 d1 d2 a1 a2 _ _ F3).mono ?_); rintro e w2 ⟨rfl, hb2⟩; replace hBx := below_step hBx hb2; obtain ⟨k0, k1, k2, k3, k4, k5, k6, k7⟩ := boxes_at ha hb hc hd hBx)
                    | (go_at_call 80; (with_reducible refine (rbt_any c1 c2 d1 d2 b1 b2 _ _ F4).mono ?_); rintro e w2 ⟨rfl, hb2⟩; replace hBx := below_step hBx hb2; obtain ⟨k0, k1, k2, k3, k4, k5, k6, k7⟩ := boxes_at ha hb hc hd hBx))
                  go_ret
                  exact ⟨congrArg (fun z => Ending.returned (.bool z)) hz.out.symm, HB.out.trans (hBx.mono HB.out.size)⟩
                · skip
                  have hz : Hid (r = false) := by show r = false; rw [HZ.out]; simp [z1, z2]
                  clear HZ
                  go_wp2_with (first
                    | (go_at_call 80; (with_reducible refine (rbt_any c1 c2 d1 d2 a1 a2 _ _ F3).mono ?_); rintro e w2 ⟨rfl, hb2⟩; replace hBx := below_step hBx hb2; obtain ⟨k0, k1, k2, k3, k4, k5, k6, k7⟩ := boxes_at ha hb hc hd hBx)
                    | (go_at_call 80; (with_reducible refine (rbt_any c1 c2 d1 d2 b1 b2 _ _ F4).mono ?_); rintro e w2 ⟨rfl, hb2⟩; replace hBx := below_step hBx hb2; obtain ⟨k0, k1, k2, k3, k4, k5, k6, k7⟩ := boxes_at ha hb hc hd hBx))
                  go_ret
                  exact ⟨congrArg (fun z => Ending.returned (.bool z)) hz.out.symm, HB.out.trans (hBx.mono HB.out.size)⟩
              · have y4 : (s4 == 0) = false := by simp [z4]
                have x4 : decide (s4 = 0) = false := decide_eq_false z4
                have hz : Hid (r = false) := by show r = false; rw [HZ.out]; simp [z1, z2, z4]
                clear HZ
                go_wp2_with (first
                  | (go_at_call 80; (with_reducible refine (rbt_any c1 c2 d1 d2 a1 a2 _ _ F3).mono ?_); rintro e w2 ⟨rfl, hb2⟩; replace hBx := below_step hBx hb2; obtain ⟨k0, k1, k2, k3, k4, k5, k6, k7⟩ := boxes_at ha hb hc hd hBx))
                go_ret
                exact ⟨congrArg (fun z => Ending.returned (.bool z)) hz.out.symm, HB.out.trans (hBx.mono HB.out.size)⟩
          · have y3 : (s3 == 0) = false := by simp [z3]
            have x3 : decide (s3 = 0) = false := decide_eq_false z3
            by_cases z4 : s4 = 0
            · obtain rfl : s4 = 0 := z4
              cases q4
              rotate_left
              · skip
                have hz : Hid (r = true) := by show r = true; rw [HZ.out]; simp [z1, z2, z3]
                clear HZ
                go_wp2_with (first
                  | (go_at_call 80; (with_reducible refine (rbt_any c1 c2 d1 d2 b1 b2 _ _ F4).mono ?_); rintro e w2 ⟨rfl, hb2⟩; replace hBx := below_step hBx hb2; obtain ⟨k0, k1, k2, k3, k4, k5, k6, k7⟩ := boxes_at ha hb hc hd hBx))
                go_ret
                exact ⟨congrArg (fun z => Ending.returned (.bool z)) hz.out.symm, HB.out.trans (hBx.mono HB.out.size)⟩
              · skip
                have hz : Hid (r = false) := by show r = false; rw [HZ.out]; simp [z1, z2, z3]
                clear HZ
                go_wp2_with (first
                  | (go_at_call 80; (with_reducible refine (rbt_any c1 c2 d1 d2 b1 b2 _ _ F4).mono ?_); rintro e w2 ⟨rfl, hb2⟩; replace hBx := below_step hBx hb2; obtain ⟨k0, k1, k2, k3, k4, k5, k6, k7⟩ := boxes_at ha hb hc hd hBx))
                go_ret
                exact ⟨congrArg (fun z => Ending.returned (.bool z)) hz.out.symm, HB.out.trans (hBx.mono HB.out.size)⟩
            · have y4 : (s4 == 0) = false := by simp [z4]
              have x4 : decide (s4 = 0) = false := decide_eq_false z4
              have hz : Hid (r = false) := by show r = false; rw [HZ.out]; simp [z1, z2, z3, z4]
              clear HZ
              go_wp2
              go_ret
              exact ⟨congrArg (fun z => Ending.returned (.bool z)) hz.out.symm, HB.out.trans (hBx.mono HB.out.size)⟩
end Go.Proofs.Ytglkpabcflecmaa
