/- The reference's cell of a point. -/
import Derived.Test.YtaehfildhmljeaaCll
namespace Go.Proofs.Ytaehfildhmljeaa
open Go.RowKit Go.Shelf

set_option maxRecDepth 100000 in
set_option maxHeartbeats 4000000 in
theorem rcell_any (x y v s : Int) (w : World) (hx : okc x) (hy : okc y) (h1 : 1 ≤ s) (h2 : s ≤ 16777216) :
    Calls Try.prog 70 #[.agg #[.int .i64 x, .int .i64 y, .int .i64 v], .int .i64 s] w fun e w' => e = .returned (.agg #[.int .i64 (x / s), .int .i64 (y / s)]) ∧ Below w.heap.size w w' := by
  obtain ⟨x1, x2⟩ := hx
  obtain ⟨y1, y2⟩ := hy
  have HS0 : ¬ s = 0 := by omega
  have FX := Lib.hid (fun W => (rmod_any x s W (by omega) (by omega)).mono (R' := fun e w'' => e = .returned (.int .i64 (x % s)) ∧ w'' = W) fun _ _ h => ⟨h.1, h.2.symm⟩)
  have FY := Lib.hid (fun W => (rmod_any y s W (by omega) (by omega)).mono (R' := fun e w'' => e = .returned (.int .i64 (y % s)) ∧ w'' = W) fun _ _ h => ⟨h.1, h.2.symm⟩)
  have mx := Int.emod_nonneg x HS0
  have mx2 := Int.emod_lt_of_pos x (show 0 < s by omega)
  have my := Int.emod_nonneg y HS0
  have my2 := Int.emod_lt_of_pos y (show 0 < s by omega)
  have qx : (x - x % s).tdiv s = x / s := by
    have e : x - x % s = x / s * s := by have := Int.emod_def x s; rw [Int.mul_comm] at this; omega
    rw [e, Int.mul_tdiv_cancel _ HS0]
  have qy : (y - y % s).tdiv s = y / s := by
    have e : y - y % s = y / s * s := by have := Int.emod_def y s; rw [Int.mul_comm] at this; omega
    rw [e, Int.mul_tdiv_cancel _ HS0]
  obtain ⟨m1, hm1⟩ : ∃ m, m = x % s := ⟨_, rfl⟩
  obtain ⟨m2, hm2⟩ : ∃ m, m = y % s := ⟨_, rfl⟩
  rw [← hm1] at FX mx mx2 qx
  rw [← hm2] at FY my my2 qy
  clear hm1 hm2
  have px : -16777216 ≤ x / s ∧ x / s ≤ 16777216 := by
    constructor
    · exact Int.le_ediv_of_mul_le (by omega) (by have : (-16777216 : Int) * s ≤ -16777216 * 1 := Int.mul_le_mul_of_nonpos_left (by omega) (by omega); omega)
    · exact Int.le_of_lt_add_one (Int.ediv_lt_of_lt_mul (by omega) (by have : (16777216 + 1 : Int) * 1 ≤ (16777216 + 1) * s := Int.mul_le_mul_of_nonneg_left (by omega) (by omega); omega))
  have py : -16777216 ≤ y / s ∧ y / s ≤ 16777216 := by
    constructor
    · exact Int.le_ediv_of_mul_le (by omega) (by have : (-16777216 : Int) * s ≤ -16777216 * 1 := Int.mul_le_mul_of_nonpos_left (by omega) (by omega); omega)
    · exact Int.le_of_lt_add_one (Int.ediv_lt_of_lt_mul (by omega) (by have : (16777216 + 1 : Int) * 1 ≤ (16777216 + 1) * s := Int.mul_le_mul_of_nonneg_left (by omega) (by omega); omega))
  obtain ⟨p, hp⟩ : ∃ p, p = x / s := ⟨_, rfl⟩
  obtain ⟨q, hq⟩ : ∃ q, q = y / s := ⟨_, rfl⟩
  rw [← hp] at qx px ⊢
  rw [← hq] at qy py ⊢
  obtain ⟨px1, px2⟩ := px
  obtain ⟨py1, py2⟩ := py
  have w1 : IntKind.i64.wrap (x - m1) = x - m1 := IntWalk.i64_in _ (by omega)
  have w2 : IntKind.i64.wrap (y - m2) = y - m2 := IntWalk.i64_in _ (by omega)
  have w3 : IntKind.i64.wrap p = p := IntWalk.i64_in _ (by omega)
  have w4 : IntKind.i64.wrap q = q := IntWalk.i64_in _ (by omega)
  clear hp hq
  go_enter Try.func70, Try.ntmps70
  go_upto_region 1 with fail
  have hb := BoxAt.new w 69 #[.int .i64 x, .int .i64 y, .int .i64 v]
  have hb2 := hb.alloc (.cells #[.int .i64 0, .int .i64 0] 24)
  have hr2 : BoxAt ((w.alloc (.cells #[.int .i64 x, .int .i64 y, .int .i64 v] 69)).alloc (.cells #[.int .i64 0, .int .i64 0] 24)) (w.heap.size + 1) 24 #[.int .i64 0, .int .i64 0] := box_at (by simp) 24 _
  have hB : Below w.heap.size w ((w.alloc (.cells #[.int .i64 x, .int .i64 y, .int .i64 v] 69)).alloc (.cells #[.int .i64 0, .int .i64 0] 24)) := ((Below.refl _ w).alloc (Nat.le_refl _) _).alloc (by simp) _
  obtain ⟨L2, hL2⟩ : ∃ q, q = w.heap.size := ⟨_, rfl⟩
  obtain ⟨L4, hL4⟩ : ∃ q, q = w.heap.size + 1 := ⟨_, rfl⟩
  have hge : w.heap.size ≤ L4 := by omega
  have hne : L2 ≠ L4 := by omega
  rw [← hL2] at hb2
  rw [← hL4] at hr2
  have HB := Lib.hid hB
  rw [← hL4]
  rw [← hL2]
  clear hb hL2 hL4 hB
  generalize (w.alloc (.cells #[.int .i64 x, .int .i64 y, .int .i64 v] 69)).alloc (.cells #[.int .i64 0, .int .i64 0] 24) = wx at *
  have c0 : wx.cell? ⟨L2, 0, none⟩ = some (.int .i64 x) := hb2.cell 0
  have c1 : wx.cell? ⟨L2, 1, none⟩ = some (.int .i64 y) := hb2.cell 1
  have d0 : wx.drew.cell? ⟨L4, 0, none⟩ = some (.int .i64 0) := hr2.drew.cell 0
  have d1 : wx.drew.cell? ⟨L4, 1, none⟩ = some (.int .i64 0) := hr2.drew.cell 1
  have f0 : wx.drew.frozen? ⟨L4, 0, none⟩ = false := hr2.drew.frozen 0
  have f1 : wx.drew.frozen? ⟨L4, 1, none⟩ = false := hr2.drew.frozen 1
  have l2 := hb2.lt
  have l4 : L4 < wx.drew.heap.size := hr2.lt
  go_still_tail 19, (by kernel_rfl)
  still_call (FX.out _)
  repeat still_step
  still_call (FY.out _)
  repeat still_step
  refine wpStill_nil ?_
  change wpList _ _ _ _ _ wx.drew
  have hr3 := ((hr2.drew).set 0 (.int .i64 p)).set 1 (.int .i64 q)
  have HB3 := Lib.hid (bset (p := ⟨L4, 1, none⟩) hge (bset (p := ⟨L4, 0, none⟩) hge (Below.drew HB.out) (.int .i64 p)) (.int .i64 q))
  clear c0 c1 l2 hb2 hr2 HB
  generalize wx.drew = wz at *
  go_wp2
  have z0 := hr3.cell 0
  have z1 := hr3.cell 1
  generalize (wz.setCell ⟨L4, 0, none⟩ (.int .i64 p)).setCell ⟨L4, 1, none⟩ (.int .i64 q) = wy at *
  replace z0 : wy.cell? ⟨L4, 0, none⟩ = some (.int .i64 p) := z0
  replace z1 : wy.cell? ⟨L4, 1, none⟩ = some (.int .i64 q) := z1
  exact bodyPost_ret (v := .agg #[.int .i64 p, .int .i64 q]) (by simp [results, Try.results70, go_sem, z0, z1]) rfl ⟨rfl, HB3.out⟩
end Go.Proofs.Ytaehfildhmljeaa
