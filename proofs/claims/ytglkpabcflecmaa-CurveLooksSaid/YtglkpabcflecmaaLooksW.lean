/- The walk of the law CurveLooks. -/
import Derived.Test.YtglkpabcflecmaaRef4
namespace Go.Proofs.Ytglkpabcflecmaa
open Go.RowKit Go.Shelf

set_option maxRecDepth 100000 in
set_option maxHeartbeats 8000000 in
theorem looks_walk (a1 a2 b1 b2 c1 c2 d1 d2 v : Int) (w : World) :
    Calls Try.prog 6 #[sp a1 a2, sp b1 b2, sp c1 c2, sp d1 d2, .int .i64 v] w fun e w' => e = .returned (.bool true) ∧ Below w.heap.size w w' := by
  obtain ⟨s1, e1⟩ : ∃ s, s = sideF (a1, a2) (b1, b2) (c1, c2) := ⟨_, rfl⟩
  have E1 : Hid (sideF (a1, a2) (b1, b2) (c1, c2) = s1) := e1.symm
  obtain ⟨dd, hd⟩ : ∃ s, s = distF (a1, a2) (b1, b2) := ⟨_, rfl⟩
  have D1 : Hid (distF (a1, a2) (b1, b2) = dd) := hd.symm
  obtain ⟨se, hse⟩ : ∃ s, s = seesF (a1, a2) (b1, b2) v := ⟨_, rfl⟩
  have V1 : Hid (seesF (a1, a2) (b1, b2) v = se) := hse.symm
  obtain ⟨bl, hbl⟩ : ∃ s, s = blkF (a1, a2) (b1, b2) (c1, c2) (d1, d2) := ⟨_, rfl⟩
  have B1 : Hid (blkF (a1, a2) (b1, b2) (c1, c2) (d1, d2) = bl) := hbl.symm
  clear e1 hd hse hbl
  obtain ⟨ha, hb, hc, hd, hB⟩ := four_boxes' w (.int .i64 a1) (.int .i64 a2) (.int .i64 b1) (.int .i64 b2) (.int .i64 c1) (.int .i64 c2) (.int .i64 d1) (.int .i64 d2) _ rfl
  go_enter Try.func6, Try.ntmps6
  go_wp2_with fail
  generalize (((w.alloc (.cells #[.int .i64 a1, .int .i64 a2] 43)).alloc (.cells #[.int .i64 b1, .int .i64 b2] 43)).alloc (.cells #[.int .i64 c1, .int .i64 c2] 43)).alloc (.cells #[.int .i64 d1, .int .i64 d2] 43) = w0 at ha hb hc hd hB ⊢
  have la := ha.lt
  have lb := hb.lt
  have lc := hc.lt
  have ld := hd.lt
  have HB := Lib.hid hB
  have k0 : w0.cell? ⟨w.heap.size, 0, none⟩ = some (.int .i64 a1) := ha.cell 0
  have k1 : w0.cell? ⟨w.heap.size, 1, none⟩ = some (.int .i64 a2) := ha.cell 1
  have k2 : w0.cell? ⟨w.heap.size + 1, 0, none⟩ = some (.int .i64 b1) := hb.cell 0
  have k3 : w0.cell? ⟨w.heap.size + 1, 1, none⟩ = some (.int .i64 b2) := hb.cell 1
  have k4 : w0.cell? ⟨w.heap.size + 1 + 1, 0, none⟩ = some (.int .i64 c1) := hc.cell 0
  have k5 : w0.cell? ⟨w.heap.size + 1 + 1, 1, none⟩ = some (.int .i64 c2) := hc.cell 1
  have k6 : w0.cell? ⟨w.heap.size + 1 + 1 + 1, 0, none⟩ = some (.int .i64 d1) := hd.cell 0
  have k7 : w0.cell? ⟨w.heap.size + 1 + 1 + 1, 1, none⟩ = some (.int .i64 d2) := hd.cell 1
  have hBx : Below w0.heap.size w0 w0.drew := (Below.refl _ _).drew
  clear ha hb hc hd hB
  go_region_held3 (fun w' => w'.cell? ⟨w.heap.size, 0, none⟩ = some (.int .i64 a1) ∧ w'.cell? ⟨w.heap.size, 1, none⟩ = some (.int .i64 a2) ∧ w'.cell? ⟨w.heap.size + 1, 0, none⟩ = some (.int .i64 b1) ∧ w'.cell? ⟨w.heap.size + 1, 1, none⟩ = some (.int .i64 b2) ∧ w'.cell? ⟨w.heap.size + 1 + 1, 0, none⟩ = some (.int .i64 c1) ∧ w'.cell? ⟨w.heap.size + 1 + 1, 1, none⟩ = some (.int .i64 c2) ∧ w'.cell? ⟨w.heap.size + 1 + 1 + 1, 0, none⟩ = some (.int .i64 d1) ∧ w'.cell? ⟨w.heap.size + 1 + 1 + 1, 1, none⟩ = some (.int .i64 d2))
    (refine ⟨?_, ?_, ?_, ?_, ?_, ?_, ?_, ?_⟩ <;> exact (Below.cell hBx (by assumption)).trans (by assumption))
    (first
      | (go_at_call 37; (with_reducible refine (side_raw a1 a2 b1 b2 c1 c2 s1 _ E1).mono ?_); rintro e w2 ⟨rfl, hb2⟩; replace hBx := below_step hBx hb2)
      | (go_at_call 38; (with_reducible refine (rside_any a1 a2 b1 b2 c1 c2 s1 _ E1).mono ?_); rintro e w2 ⟨rfl, hb2⟩; replace hBx := below_step hBx hb2)
      | (go_at_call 39; (with_reducible refine (dist_raw a1 a2 b1 b2 dd _ D1).mono ?_); rintro e w2 ⟨rfl, hb2⟩; replace hBx := below_step hBx hb2)
      | (go_at_call 40; (with_reducible refine (rdist_any a1 a2 b1 b2 dd _ D1).mono ?_); rintro e w2 ⟨rfl, hb2⟩; replace hBx := below_step hBx hb2)
      | (go_at_call 41; (with_reducible refine (blocks_raw a1 a2 b1 b2 c1 c2 d1 d2 bl _ B1).mono ?_); rintro e w2 ⟨rfl, hb2⟩; replace hBx := below_step hBx hb2)
      | (go_at_call 42; (with_reducible refine (rblocks_any a1 a2 b1 b2 c1 c2 d1 d2 bl _ B1).mono ?_); rintro e w2 ⟨rfl, hb2⟩; replace hBx := below_step hBx hb2)
      | (go_at_call 43; (with_reducible refine (sees_raw a1 a2 b1 b2 v se _ V1).mono ?_); rintro e w2 ⟨rfl, hb2⟩; replace hBx := below_step hBx hb2)
      | (go_at_call 44; (with_reducible refine (rsees_any a1 a2 b1 b2 v se _ V1).mono ?_); rintro e w2 ⟨rfl, hb2⟩; replace hBx := below_step hBx hb2)
      | (go_at_call 18; (with_reducible refine (awake_any _).mono ?_); rintro e w2 ⟨rfl, hb2⟩; replace hBx := below_step hBx hb2))
  all_goals go_wp2
  all_goals go_ret
  all_goals exact ⟨rfl, HB.out.trans (hBx.mono HB.out.size)⟩
end Go.Proofs.Ytglkpabcflecmaa
