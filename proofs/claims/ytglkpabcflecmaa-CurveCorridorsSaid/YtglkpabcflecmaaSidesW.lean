/- The walk of the law CurveSides. -/
import Derived.Test.YtglkpabcflecmaaSides
namespace Go.Proofs.Ytglkpabcflecmaa
open Go.RowKit Go.Shelf

set_option maxRecDepth 100000 in
set_option maxHeartbeats 8000000 in
theorem sides_walk (a1 a2 b1 b2 c1 c2 d1 d2 v : Int) (w : World) :
    Calls Try.prog 12 #[sp a1 a2, sp b1 b2, sp c1 c2, sp d1 d2, .int .i64 v] w fun e w' => e = .returned (.bool true) ∧ Below w.heap.size w w' := by
  obtain ⟨s1, e1⟩ : ∃ s, s = sideF (a1, a2) (b1, b2) (c1, c2) := ⟨_, rfl⟩
  have E1 : Hid (sideF (a1, a2) (b1, b2) (c1, c2) = s1) := e1.symm
  obtain ⟨s2, e2⟩ : ∃ s, s = - s1 := ⟨_, rfl⟩
  have E2 : Hid (sideF (b1, b2) (a1, a2) (c1, c2) = s2) := by show _ = _; rw [side_swap, e2, e1]
  have E3 : Hid (sideF (b1, b2) (c1, c2) (a1, a2) = s1) := by show _ = _; rw [side_turn, e1]
  have J2 : Hid (IntKind.i64.wrap (-s2) = s1) := by
    show _ = _
    have := side_cases (a1, a2) (b1, b2) (c1, c2)
    rw [← e1] at this
    rw [e2, Int.neg_neg]; exact IntWalk.i64_in _ (by omega)
  obtain ⟨dd, hd⟩ : ∃ s, s = distF (a1, a2) (b1, b2) := ⟨_, rfl⟩
  have D1 : Hid (distF (a1, a2) (b1, b2) = dd) := hd.symm
  have D2 : Hid (distF (b1, b2) (a1, a2) = dd) := by show _ = _; rw [dist_swap, hd]
  obtain ⟨se, hse⟩ : ∃ s, s = seesF (a1, a2) (b1, b2) v := ⟨_, rfl⟩
  have V1 : Hid (seesF (a1, a2) (b1, b2) v = se) := hse.symm
  have V2 : Hid (seesF (b1, b2) (a1, a2) v = se) := by show _ = _; rw [sees_swap, hse]
  obtain ⟨bl, hbl⟩ : ∃ s, s = blkF (a1, a2) (b1, b2) (c1, c2) (d1, d2) := ⟨_, rfl⟩
  have B1 : Hid (blkF (a1, a2) (b1, b2) (c1, c2) (d1, d2) = bl) := hbl.symm
  have B2 : Hid (blkF (b1, b2) (a1, a2) (c1, c2) (d1, d2) = bl) := by show _ = _; rw [blk_swap1, hbl]
  have B3 : Hid (blkF (a1, a2) (b1, b2) (d1, d2) (c1, c2) = bl) := by show _ = _; rw [blk_swap2, hbl]
  have B4 : Hid (blkF (c1, c2) (d1, d2) (a1, a2) (b1, b2) = bl) := by show _ = _; rw [blk_swap3, hbl]
  obtain ⟨va, hva⟩ : ∃ s, s = vp (a1, a2) := ⟨_, rfl⟩
  obtain ⟨vb, hvb⟩ : ∃ s, s = vp (b1, b2) := ⟨_, rfl⟩
  obtain ⟨vc, hvc⟩ : ∃ s, s = vp (c1, c2) := ⟨_, rfl⟩
  have VA : Hid (seesF (a1, a2) (a1, a2) 0 = va) := by show _ = _; rw [sees_self, hva]
  have VB : Hid (seesF (b1, b2) (b1, b2) 0 = vb) := by show _ = _; rw [sees_self, hvb]
  have VC : Hid (seesF (c1, c2) (c1, c2) 0 = vc) := by show _ = _; rw [sees_self, hvc]
  have BE : Hid (blkF (a1, a2) (b1, b2) (b1, b2) (c1, c2) = (va && vb && vc)) := by show _ = _; rw [blk_end, hva, hvb, hvc]
  clear e1 e2 hd hse hbl hva hvb hvc
  obtain ⟨ha, hb, hc, hd, hB⟩ := four_boxes' w (.int .i64 a1) (.int .i64 a2) (.int .i64 b1) (.int .i64 b2) (.int .i64 c1) (.int .i64 c2) (.int .i64 d1) (.int .i64 d2) _ rfl
  go_enter Try.func12, Try.ntmps12
  go_wp2_with fail
  generalize (((w.alloc (.cells #[.int .i64 a1, .int .i64 a2] 43)).alloc (.cells #[.int .i64 b1, .int .i64 b2] 43)).alloc (.cells #[.int .i64 c1, .int .i64 c2] 43)).alloc (.cells #[.int .i64 d1, .int .i64 d2] 43) = w0 at ha hb hc hd hB ⊢
  have la := ha.lt
  have lb := hb.lt
  have lc := hc.lt
  have ld := hd.lt
  have HB := Lib.hid hB
  have k0 : w0.cell? ⟨w.heap.size, 0, none⟩ = some (.int .i64 a1) := ha.cell 0
  have k1 : w0.cell? ⟨w.heap.size, 1, none⟩ = some (.int .i64 a2) := ha.cell 1
  have k2 : w0.cell? ⟨w.heap.size + 1, 0, none⟩ = some (.int .i64 b1) := hb.cell 0
  have k3 : w0.cell? ⟨w.heap.size + 1, 1, none⟩ = some (.int .i64 b2) := hb.cell 1
  have k4 : w0.cell? ⟨w.heap.size + 1 + 1, 0, none⟩ = some (.int .i64 c1) := hc.cell 0
  have k5 : w0.cell? ⟨w.heap.size + 1 + 1, 1, none⟩ = some (.int .i64 c2) := hc.cell 1
  have k6 : w0.cell? ⟨w.heap.size + 1 + 1 + 1, 0, none⟩ = some (.int .i64 d1) := hd.cell 0
  have k7 : w0.cell? ⟨w.heap.size + 1 + 1 + 1, 1, none⟩ = some (.int .i64 d2) := hd.cell 1
  go_cut [53] from 13 to 53 (fun x w' => x = .bool false ∧ Below w0.heap.size w0 w')
  case first =>
    have HJ2 := J2.out
    have hBx : Below w0.heap.size w0 w0.drew := (Below.refl _ _).drew
    clear ha hb hc hd hB
    go_region_held3 (fun w' => w'.cell? ⟨w.heap.size, 0, none⟩ = some (.int .i64 a1) ∧ w'.cell? ⟨w.heap.size, 1, none⟩ = some (.int .i64 a2) ∧ w'.cell? ⟨w.heap.size + 1, 0, none⟩ = some (.int .i64 b1) ∧ w'.cell? ⟨w.heap.size + 1, 1, none⟩ = some (.int .i64 b2) ∧ w'.cell? ⟨w.heap.size + 1 + 1, 0, none⟩ = some (.int .i64 c1) ∧ w'.cell? ⟨w.heap.size + 1 + 1, 1, none⟩ = some (.int .i64 c2))
      (refine ⟨?_, ?_, ?_, ?_, ?_, ?_⟩ <;> exact (Below.cell hBx (by assumption)).trans (by assumption))
      (first
        | (go_at_call 37; (with_reducible refine (side_raw a1 a2 b1 b2 c1 c2 s1 _ E1).mono ?_); rintro e w2 ⟨rfl, hb2⟩; replace hBx := below_step hBx hb2)
        | (go_at_call 37; (with_reducible refine (side_raw b1 b2 a1 a2 c1 c2 s2 _ E2).mono ?_); rintro e w2 ⟨rfl, hb2⟩; replace hBx := below_step hBx hb2)
        | (go_at_call 37; (with_reducible refine (side_raw b1 b2 c1 c2 a1 a2 s1 _ E3).mono ?_); rintro e w2 ⟨rfl, hb2⟩; replace hBx := below_step hBx hb2)
        | (go_at_call 39; (with_reducible refine (dist_raw a1 a2 b1 b2 dd _ D1).mono ?_); rintro e w2 ⟨rfl, hb2⟩; replace hBx := below_step hBx hb2)
        | (go_at_call 39; (with_reducible refine (dist_raw b1 b2 a1 a2 dd _ D2).mono ?_); rintro e w2 ⟨rfl, hb2⟩; replace hBx := below_step hBx hb2)
        | (go_at_call 43; (with_reducible refine (sees_raw a1 a2 b1 b2 v se _ V1).mono ?_); rintro e w2 ⟨rfl, hb2⟩; replace hBx := below_step hBx hb2)
        | (go_at_call 43; (with_reducible refine (sees_raw b1 b2 a1 a2 v se _ V2).mono ?_); rintro e w2 ⟨rfl, hb2⟩; replace hBx := below_step hBx hb2))
    all_goals go_wp2
    all_goals go_meet
    all_goals exact ⟨rfl, hBx⟩
  case rest =>
    obtain ⟨rfl, hBx⟩ := hcut
    clear k0 k1 k2 k3 k4 k5 k6 k7
    obtain ⟨k0, k1, k2, k3, k4, k5, k6, k7⟩ := boxes_at ha hb hc hd hBx
    go_wp2_with (first
      | (go_at_call 41; (with_reducible refine (blocks_raw a1 a2 b1 b2 c1 c2 d1 d2 bl _ B1).mono ?_); rintro e w2 ⟨rfl, hb2⟩; replace hBx := below_step hBx hb2; obtain ⟨k0, k1, k2, k3, k4, k5, k6, k7⟩ := boxes_at ha hb hc hd hBx)
      | (go_at_call 41; (with_reducible refine (blocks_raw b1 b2 a1 a2 c1 c2 d1 d2 bl _ B2).mono ?_); rintro e w2 ⟨rfl, hb2⟩; replace hBx := below_step hBx hb2; obtain ⟨k0, k1, k2, k3, k4, k5, k6, k7⟩ := boxes_at ha hb hc hd hBx)
      | (go_at_call 41; (with_reducible refine (blocks_raw a1 a2 b1 b2 d1 d2 c1 c2 bl _ B3).mono ?_); rintro e w2 ⟨rfl, hb2⟩; replace hBx := below_step hBx hb2; obtain ⟨k0, k1, k2, k3, k4, k5, k6, k7⟩ := boxes_at ha hb hc hd hBx)
      | (go_at_call 41; (with_reducible refine (blocks_raw c1 c2 d1 d2 a1 a2 b1 b2 bl _ B4).mono ?_); rintro e w2 ⟨rfl, hb2⟩; replace hBx := below_step hBx hb2; obtain ⟨k0, k1, k2, k3, k4, k5, k6, k7⟩ := boxes_at ha hb hc hd hBx))
    cases va <;> cases vb <;> cases vc
    all_goals
      go_wp2_with (first
        | (go_at_call 43; (with_reducible refine (sees_raw a1 a2 a1 a2 0 _ _ VA).mono ?_); rintro e w2 ⟨rfl, hb2⟩; replace hBx := below_step hBx hb2; obtain ⟨k0, k1, k2, k3, k4, k5, k6, k7⟩ := boxes_at ha hb hc hd hBx)
        | (go_at_call 43; (with_reducible refine (sees_raw b1 b2 b1 b2 0 _ _ VB).mono ?_); rintro e w2 ⟨rfl, hb2⟩; replace hBx := below_step hBx hb2; obtain ⟨k0, k1, k2, k3, k4, k5, k6, k7⟩ := boxes_at ha hb hc hd hBx)
        | (go_at_call 43; (with_reducible refine (sees_raw c1 c2 c1 c2 0 _ _ VC).mono ?_); rintro e w2 ⟨rfl, hb2⟩; replace hBx := below_step hBx hb2; obtain ⟨k0, k1, k2, k3, k4, k5, k6, k7⟩ := boxes_at ha hb hc hd hBx)
        | (go_at_call 41; (with_reducible refine (blocks_raw a1 a2 b1 b2 b1 b2 c1 c2 _ _ BE).mono ?_); rintro e w2 ⟨rfl, hb2⟩; replace hBx := below_step hBx hb2; obtain ⟨k0, k1, k2, k3, k4, k5, k6, k7⟩ := boxes_at ha hb hc hd hBx)
        | (go_at_call 18; (with_reducible refine (awake_any _).mono ?_); rintro e w2 ⟨rfl, hb2⟩; replace hBx := below_step hBx hb2; obtain ⟨k0, k1, k2, k3, k4, k5, k6, k7⟩ := boxes_at ha hb hc hd hBx))
      go_ret
      exact ⟨rfl, HB.out.trans (hBx.mono HB.out.size)⟩
end Go.Proofs.Ytglkpabcflecmaa
