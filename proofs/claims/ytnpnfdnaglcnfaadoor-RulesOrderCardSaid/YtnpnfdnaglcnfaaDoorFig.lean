/- The numbers that a node has in a text; the node with these numbers. -/
import Derived.Test.YtnpnfdnaglcnfaaDoorNod
import Derived.StillTailTactics
namespace Go.Proofs.YtnpnfdnaglcnfaaDoor
open Go.RowKit Go.Shelf

theorem fig_two (op : Int) (h : op = 6 ∨ op = 7 ∨ op = 8) (w : World) : Calls Tryd.prog 64 #[.agg #[iv op, iv 0, iv 0, iv 0, iv 0, iv 0]] w fun e w' => ∃ g, e = .returned (.slice (some ⟨g, 0, none⟩) 2 2) ∧ BoxAt w' g 2 #[iv 0, iv 0] ∧ w.heap.size ≤ g ∧ Below w.heap.size w w' := by
  have hx := BoxAt.new (w.alloc (.cells #[iv op, iv 0, iv 0, iv 0, iv 0, iv 0] 61)) 2 #[iv 0, iv 0]
  rw [World.size_alloc] at hx
  have HX := Lib.hid hx
  have HB := Lib.hid (((Below.refl _ w).alloc (Nat.le_refl _) (.cells #[iv op, iv 0, iv 0, iv 0, iv 0, iv 0] 61)).alloc (by simp) (.cells #[iv 0, iv 0] 2))
  clear hx
  rcases h with rfl | rfl | rfl
  all_goals go_enter Tryd.func64, Tryd.ntmps64
  all_goals go_wp2
  all_goals go_ret
  all_goals exact ⟨_, rfl, HX.out, by omega, HB.out⟩
theorem fig_three (w : World) : Calls Tryd.prog 64 #[.agg #[iv 2, iv 0, iv 0, iv 0, iv 0, iv 0]] w fun e w' => ∃ g, e = .returned (.slice (some ⟨g, 0, none⟩) 3 3) ∧ BoxAt w' g 2 #[iv 0, iv 0, iv 0] ∧ w.heap.size ≤ g ∧ Below w.heap.size w w' := by
  have hx := BoxAt.new (w.alloc (.cells #[iv 2, iv 0, iv 0, iv 0, iv 0, iv 0] 61)) 2 #[iv 0, iv 0, iv 0]
  rw [World.size_alloc] at hx
  have HX := Lib.hid hx
  have HB := Lib.hid (((Below.refl _ w).alloc (Nat.le_refl _) (.cells #[iv 2, iv 0, iv 0, iv 0, iv 0, iv 0] 61)).alloc (by simp) (.cells #[iv 0, iv 0, iv 0] 2))
  clear hx
  go_enter Tryd.func64, Tryd.ntmps64
  go_wp2
  go_ret
  exact ⟨_, rfl, HX.out, by omega, HB.out⟩
theorem fig_none (op : Int) (h : op = 1 ∨ op = 3 ∨ op = 4 ∨ op = 5) (w : World) : Calls Tryd.prog 64 #[.agg #[iv op, iv 0, iv 0, iv 0, iv 0, iv 0]] w fun e w' => e = .returned (.slice none 0 0) ∧ Below w.heap.size w w' := by
  have HB := Lib.hid ((Below.refl _ w).alloc (Nat.le_refl _) (.cells #[iv op, iv 0, iv 0, iv 0, iv 0, iv 0] 61))
  rcases h with rfl | rfl | rfl | rfl
  all_goals go_enter Tryd.func64, Tryd.ntmps64
  all_goals go_wp2
  all_goals go_ret
  all_goals exact ⟨rfl, HB.out⟩
theorem node_none (op : Int) (h : op = 1 ∨ op = 3 ∨ op = 4 ∨ op = 5) (v : Value) (w : World) : Calls Tryd.prog 97 #[iv op, v] w fun e w' => e = .returned (ndV ⟨op, 0, 0, 0, 0, 0⟩) ∧ Below w.heap.size w w' := by
  have hb := (BoxAt.new w 61 #[iv 0, iv 0, iv 0, iv 0, iv 0, iv 0])
  rcases h with rfl | rfl | rfl | rfl
  all_goals go_enter Tryd.func97, Tryd.ntmps97
  all_goals go_wp2
  all_goals exact bodyPost_ret (v := ndV _) (by simp [results, Tryd.results97, go_sem]) rfl ⟨rfl, by
    repeat (first | exact Below.refl _ _ | refine Below.setCell ?_ (by first | omega | (simp; omega) | simp) _ | refine Below.alloc ?_ (by first | omega | (simp; omega) | simp) _)⟩
theorem set6 {W : World} {B : Nat} {b0 b1 b2 b3 b4 b5 : Value} (a0 a1 a2 a3 a4 a5 : Value) (h : BoxAt W B 61 #[b0, b1, b2, b3, b4, b5]) :
    BoxAt ((((((W.setCell ⟨B, 0, none⟩ a0).setCell ⟨B, 1, none⟩ a1).setCell ⟨B, 2, none⟩ a2).setCell ⟨B, 3, none⟩ a3).setCell ⟨B, 4, none⟩ a4).setCell ⟨B, 5, none⟩ a5) B 61 #[a0, a1, a2, a3, a4, a5] :=
  (((((h.set 0 a0).set 1 a1).set 2 a2).set 3 a3).set 4 a4).set 5 a5
theorem below6 {A W : World} {n B : Nat} (a0 a1 a2 a3 a4 a5 : Value) (h : Below n A W) (hB : n ≤ B) :
    Below n A ((((((W.setCell ⟨B, 0, none⟩ a0).setCell ⟨B, 1, none⟩ a1).setCell ⟨B, 2, none⟩ a2).setCell ⟨B, 3, none⟩ a3).setCell ⟨B, 4, none⟩ a4).setCell ⟨B, 5, none⟩ a5) :=
  bset (p := ⟨B, 5, none⟩) hB (bset (p := ⟨B, 4, none⟩) hB (bset (p := ⟨B, 3, none⟩) hB (bset (p := ⟨B, 2, none⟩) hB (bset (p := ⟨B, 1, none⟩) hB (bset (p := ⟨B, 0, none⟩) hB h a0) a1) a2) a3) a4) a5
set_option maxRecDepth 100000 in
set_option maxHeartbeats 4000000 in
theorem node_two (op : Int) (h : op = 6 ∨ op = 7 ∨ op = 8) (g c : Nat) (x y : Int) (w : World) (hg : BoxAt w g 2 #[iv x, iv y]) : Calls Tryd.prog 97 #[iv op, .slice (some ⟨g, 0, none⟩) 2 c] w fun e w' => e = .returned (ndV ⟨op, 0, 0, 0, x, y⟩) ∧ Below w.heap.size w w' := by
  have HG := Lib.hid (hg.alloc (.cells #[iv 0, iv 0, iv 0, iv 0, iv 0, iv 0] 61))
  have HN := Lib.hid (BoxAt.new w 61 #[iv 0, iv 0, iv 0, iv 0, iv 0, iv 0])
  have HB := Lib.hid ((Below.refl _ w).alloc (Nat.le_refl _) (.cells #[iv 0, iv 0, iv 0, iv 0, iv 0, iv 0] 61))
  have hne : g ≠ w.heap.size := by have := hg.lt; omega
  obtain ⟨Bn, hBn⟩ : ∃ q, q = w.heap.size := ⟨_, rfl⟩
  have hwB : w.heap.size ≤ Bn := by omega
  rw [← hBn] at HN hne
  have HBn := Lib.hid hBn.symm
  clear hg hBn
  rcases h with rfl | rfl | rfl
  · go_enter Tryd.func97, Tryd.ntmps97
    go_wp2
    rw [HBn.out]
    generalize w.alloc (.cells #[iv 0, iv 0, iv 0, iv 0, iv 0, iv 0] 61) = wx at *
    have c0 : wx.drew.cell? ⟨g, 0, none⟩ = some (iv x) := HG.out.cell 0
    have c1 : wx.drew.cell? ⟨g, 1, none⟩ = some (iv y) := HG.out.cell 1
    have l1 : g < wx.drew.heap.size := HG.out.lt
    go_still_tail 8, (by kernel_rfl)
    repeat still_step
    have HN2 : Hid (BoxAt wx.drew Bn 61 #[iv 0, iv 0, iv 0, iv 0, iv 0, iv 0]) := HN
    have HB2 : Hid (Below w.heap.size w wx.drew) := Lib.hid HB.out.drew
    have d0 : wx.drew.cell? ⟨Bn, 0, none⟩ = some (iv 0) := HN.out.cell 0
    have f0 : wx.drew.frozen? ⟨Bn, 0, none⟩ = false := HN.out.frozen 0
    have d1 : wx.drew.cell? ⟨Bn, 1, none⟩ = some (iv 0) := HN.out.cell 1
    have f1 : wx.drew.frozen? ⟨Bn, 1, none⟩ = false := HN.out.frozen 1
    have d2 : wx.drew.cell? ⟨Bn, 2, none⟩ = some (iv 0) := HN.out.cell 2
    have f2 : wx.drew.frozen? ⟨Bn, 2, none⟩ = false := HN.out.frozen 2
    have d3 : wx.drew.cell? ⟨Bn, 3, none⟩ = some (iv 0) := HN.out.cell 3
    have f3 : wx.drew.frozen? ⟨Bn, 3, none⟩ = false := HN.out.frozen 3
    have d4 : wx.drew.cell? ⟨Bn, 4, none⟩ = some (iv 0) := HN.out.cell 4
    have f4 : wx.drew.frozen? ⟨Bn, 4, none⟩ = false := HN.out.frozen 4
    have d5 : wx.drew.cell? ⟨Bn, 5, none⟩ = some (iv 0) := HN.out.cell 5
    have f5 : wx.drew.frozen? ⟨Bn, 5, none⟩ = false := HN.out.frozen 5
    have l2 : Bn < wx.drew.heap.size := HN.out.lt
    clear HN HB l1 HG c0 c1
    change wpList _ _ _ _ _ wx.drew
    generalize wx.drew = wz at *
    go_wp2
    have hbx := set6 (iv 6) (iv 0) (iv 0) (iv 0) (iv x) (iv y) HN2.out
    have HB3 := Lib.hid (below6 (iv 6) (iv 0) (iv 0) (iv 0) (iv x) (iv y) HB2.out hwB)
    generalize ((((((wz.setCell ⟨Bn, 0, none⟩ (iv 6)).setCell ⟨Bn, 1, none⟩ (iv 0)).setCell ⟨Bn, 2, none⟩ (iv 0)).setCell ⟨Bn, 3, none⟩ (iv 0)).setCell ⟨Bn, 4, none⟩ (iv x)).setCell ⟨Bn, 5, none⟩ (iv y)) = wf at *
    have z0 : wf.cell? ⟨Bn, 0, none⟩ = some (iv 6) := hbx.cell 0
    have z1 : wf.cell? ⟨Bn, 1, none⟩ = some (iv 0) := hbx.cell 1
    have z2 : wf.cell? ⟨Bn, 2, none⟩ = some (iv 0) := hbx.cell 2
    have z3 : wf.cell? ⟨Bn, 3, none⟩ = some (iv 0) := hbx.cell 3
    have z4 : wf.cell? ⟨Bn, 4, none⟩ = some (iv x) := hbx.cell 4
    have z5 : wf.cell? ⟨Bn, 5, none⟩ = some (iv y) := hbx.cell 5
    exact bodyPost_ret (v := ndV ⟨6, 0, 0, 0, x, y⟩) (by simp [results, Tryd.results97, go_sem, z0, z1, z2, z3, z4, z5]) rfl ⟨rfl, HB3.out⟩
  · go_enter Tryd.func97, Tryd.ntmps97
    go_wp2
    rw [HBn.out]
    generalize w.alloc (.cells #[iv 0, iv 0, iv 0, iv 0, iv 0, iv 0] 61) = wx at *
    have c0 : wx.drew.cell? ⟨g, 0, none⟩ = some (iv x) := HG.out.cell 0
    have c1 : wx.drew.cell? ⟨g, 1, none⟩ = some (iv y) := HG.out.cell 1
    have l1 : g < wx.drew.heap.size := HG.out.lt
    go_still_tail 8, (by kernel_rfl)
    repeat still_step
    have HN2 : Hid (BoxAt wx.drew Bn 61 #[iv 0, iv 0, iv 0, iv 0, iv 0, iv 0]) := HN
    have HB2 : Hid (Below w.heap.size w wx.drew) := Lib.hid HB.out.drew
    have d0 : wx.drew.cell? ⟨Bn, 0, none⟩ = some (iv 0) := HN.out.cell 0
    have f0 : wx.drew.frozen? ⟨Bn, 0, none⟩ = false := HN.out.frozen 0
    have d1 : wx.drew.cell? ⟨Bn, 1, none⟩ = some (iv 0) := HN.out.cell 1
    have f1 : wx.drew.frozen? ⟨Bn, 1, none⟩ = false := HN.out.frozen 1
    have d2 : wx.drew.cell? ⟨Bn, 2, none⟩ = some (iv 0) := HN.out.cell 2
    have f2 : wx.drew.frozen? ⟨Bn, 2, none⟩ = false := HN.out.frozen 2
    have d3 : wx.drew.cell? ⟨Bn, 3, none⟩ = some (iv 0) := HN.out.cell 3
    have f3 : wx.drew.frozen? ⟨Bn, 3, none⟩ = false := HN.out.frozen 3
    have d4 : wx.drew.cell? ⟨Bn, 4, none⟩ = some (iv 0) := HN.out.cell 4
    have f4 : wx.drew.frozen? ⟨Bn, 4, none⟩ = false := HN.out.frozen 4
    have d5 : wx.drew.cell? ⟨Bn, 5, none⟩ = some (iv 0) := HN.out.cell 5
    have f5 : wx.drew.frozen? ⟨Bn, 5, none⟩ = false := HN.out.frozen 5
    have l2 : Bn < wx.drew.heap.size := HN.out.lt
    clear HN HB l1 HG c0 c1
    change wpList _ _ _ _ _ wx.drew
    generalize wx.drew = wz at *
    go_wp2
    have hbx := set6 (iv 7) (iv 0) (iv 0) (iv 0) (iv x) (iv y) HN2.out
    have HB3 := Lib.hid (below6 (iv 7) (iv 0) (iv 0) (iv 0) (iv x) (iv y) HB2.out hwB)
    generalize ((((((wz.setCell ⟨Bn, 0, none⟩ (iv 7)).setCell ⟨Bn, 1, none⟩ (iv 0)).setCell ⟨Bn, 2, none⟩ (iv 0)).setCell ⟨Bn, 3, none⟩ (iv 0)).setCell ⟨Bn, 4, none⟩ (iv x)).setCell ⟨Bn, 5, none⟩ (iv y)) = wf at *
    have z0 : wf.cell? ⟨Bn, 0, none⟩ = some (iv 7) := hbx.cell 0
    have z1 : wf.cell? ⟨Bn, 1, none⟩ = some (iv 0) := hbx.cell 1
    have z2 : wf.cell? ⟨Bn, 2, none⟩ = some (iv 0) := hbx.cell 2
    have z3 : wf.cell? ⟨Bn, 3, none⟩ = some (iv 0) := hbx.cell 3
    have z4 : wf.cell? ⟨Bn, 4, none⟩ = some (iv x) := hbx.cell 4
    have z5 : wf.cell? ⟨Bn, 5, none⟩ = some (iv y) := hbx.cell 5
    exact bodyPost_ret (v := ndV ⟨7, 0, 0, 0, x, y⟩) (by simp [results, Tryd.results97, go_sem, z0, z1, z2, z3, z4, z5]) rfl ⟨rfl, HB3.out⟩
  · go_enter Tryd.func97, Tryd.ntmps97
    go_wp2
    rw [HBn.out]
    generalize w.alloc (.cells #[iv 0, iv 0, iv 0, iv 0, iv 0, iv 0] 61) = wx at *
    have c0 : wx.drew.cell? ⟨g, 0, none⟩ = some (iv x) := HG.out.cell 0
    have c1 : wx.drew.cell? ⟨g, 1, none⟩ = some (iv y) := HG.out.cell 1
    have l1 : g < wx.drew.heap.size := HG.out.lt
    go_still_tail 8, (by kernel_rfl)
    repeat still_step
    have HN2 : Hid (BoxAt wx.drew Bn 61 #[iv 0, iv 0, iv 0, iv 0, iv 0, iv 0]) := HN
    have HB2 : Hid (Below w.heap.size w wx.drew) := Lib.hid HB.out.drew
    have d0 : wx.drew.cell? ⟨Bn, 0, none⟩ = some (iv 0) := HN.out.cell 0
    have f0 : wx.drew.frozen? ⟨Bn, 0, none⟩ = false := HN.out.frozen 0
    have d1 : wx.drew.cell? ⟨Bn, 1, none⟩ = some (iv 0) := HN.out.cell 1
    have f1 : wx.drew.frozen? ⟨Bn, 1, none⟩ = false := HN.out.frozen 1
    have d2 : wx.drew.cell? ⟨Bn, 2, none⟩ = some (iv 0) := HN.out.cell 2
    have f2 : wx.drew.frozen? ⟨Bn, 2, none⟩ = false := HN.out.frozen 2
    have d3 : wx.drew.cell? ⟨Bn, 3, none⟩ = some (iv 0) := HN.out.cell 3
    have f3 : wx.drew.frozen? ⟨Bn, 3, none⟩ = false := HN.out.frozen 3
    have d4 : wx.drew.cell? ⟨Bn, 4, none⟩ = some (iv 0) := HN.out.cell 4
    have f4 : wx.drew.frozen? ⟨Bn, 4, none⟩ = false := HN.out.frozen 4
    have d5 : wx.drew.cell? ⟨Bn, 5, none⟩ = some (iv 0) := HN.out.cell 5
    have f5 : wx.drew.frozen? ⟨Bn, 5, none⟩ = false := HN.out.frozen 5
    have l2 : Bn < wx.drew.heap.size := HN.out.lt
    clear HN HB l1 HG c0 c1
    change wpList _ _ _ _ _ wx.drew
    generalize wx.drew = wz at *
    go_wp2
    have hbx := set6 (iv 8) (iv 0) (iv 0) (iv 0) (iv x) (iv y) HN2.out
    have HB3 := Lib.hid (below6 (iv 8) (iv 0) (iv 0) (iv 0) (iv x) (iv y) HB2.out hwB)
    generalize ((((((wz.setCell ⟨Bn, 0, none⟩ (iv 8)).setCell ⟨Bn, 1, none⟩ (iv 0)).setCell ⟨Bn, 2, none⟩ (iv 0)).setCell ⟨Bn, 3, none⟩ (iv 0)).setCell ⟨Bn, 4, none⟩ (iv x)).setCell ⟨Bn, 5, none⟩ (iv y)) = wf at *
    have z0 : wf.cell? ⟨Bn, 0, none⟩ = some (iv 8) := hbx.cell 0
    have z1 : wf.cell? ⟨Bn, 1, none⟩ = some (iv 0) := hbx.cell 1
    have z2 : wf.cell? ⟨Bn, 2, none⟩ = some (iv 0) := hbx.cell 2
    have z3 : wf.cell? ⟨Bn, 3, none⟩ = some (iv 0) := hbx.cell 3
    have z4 : wf.cell? ⟨Bn, 4, none⟩ = some (iv x) := hbx.cell 4
    have z5 : wf.cell? ⟨Bn, 5, none⟩ = some (iv y) := hbx.cell 5
    exact bodyPost_ret (v := ndV ⟨8, 0, 0, 0, x, y⟩) (by simp [results, Tryd.results97, go_sem, z0, z1, z2, z3, z4, z5]) rfl ⟨rfl, HB3.out⟩
set_option maxRecDepth 100000 in
set_option maxHeartbeats 4000000 in
theorem node_three (g c : Nat) (x y z : Int) (w : World) (hg : BoxAt w g 2 #[iv x, iv y, iv z]) : Calls Tryd.prog 97 #[iv 2, .slice (some ⟨g, 0, none⟩) 3 c] w fun e w' => e = .returned (ndV ⟨2, x, y, z, 0, 0⟩) ∧ Below w.heap.size w w' := by
  have HG := Lib.hid (hg.alloc (.cells #[iv 0, iv 0, iv 0, iv 0, iv 0, iv 0] 61))
  have HN := Lib.hid (BoxAt.new w 61 #[iv 0, iv 0, iv 0, iv 0, iv 0, iv 0])
  have HB := Lib.hid ((Below.refl _ w).alloc (Nat.le_refl _) (.cells #[iv 0, iv 0, iv 0, iv 0, iv 0, iv 0] 61))
  have hne : g ≠ w.heap.size := by have := hg.lt; omega
  obtain ⟨Bn, hBn⟩ : ∃ q, q = w.heap.size := ⟨_, rfl⟩
  have hwB : w.heap.size ≤ Bn := by omega
  rw [← hBn] at HN hne
  have HBn := Lib.hid hBn.symm
  clear hg hBn
  go_enter Tryd.func97, Tryd.ntmps97
  go_wp2
  rw [HBn.out]
  generalize w.alloc (.cells #[iv 0, iv 0, iv 0, iv 0, iv 0, iv 0] 61) = wx at *
  have c0 : wx.drew.cell? ⟨g, 0, none⟩ = some (iv x) := HG.out.cell 0
  have c1 : wx.drew.cell? ⟨g, 1, none⟩ = some (iv y) := HG.out.cell 1
  have c2 : wx.drew.cell? ⟨g, 2, none⟩ = some (iv z) := HG.out.cell 2
  have l1 : g < wx.drew.heap.size := HG.out.lt
  go_still_tail 11, (by kernel_rfl)
  repeat still_step
  have HN2 : Hid (BoxAt wx.drew Bn 61 #[iv 0, iv 0, iv 0, iv 0, iv 0, iv 0]) := HN
  have HB2 : Hid (Below w.heap.size w wx.drew) := Lib.hid HB.out.drew
  have d0 : wx.drew.cell? ⟨Bn, 0, none⟩ = some (iv 0) := HN.out.cell 0
  have f0 : wx.drew.frozen? ⟨Bn, 0, none⟩ = false := HN.out.frozen 0
  have d1 : wx.drew.cell? ⟨Bn, 1, none⟩ = some (iv 0) := HN.out.cell 1
  have f1 : wx.drew.frozen? ⟨Bn, 1, none⟩ = false := HN.out.frozen 1
  have d2 : wx.drew.cell? ⟨Bn, 2, none⟩ = some (iv 0) := HN.out.cell 2
  have f2 : wx.drew.frozen? ⟨Bn, 2, none⟩ = false := HN.out.frozen 2
  have d3 : wx.drew.cell? ⟨Bn, 3, none⟩ = some (iv 0) := HN.out.cell 3
  have f3 : wx.drew.frozen? ⟨Bn, 3, none⟩ = false := HN.out.frozen 3
  have d4 : wx.drew.cell? ⟨Bn, 4, none⟩ = some (iv 0) := HN.out.cell 4
  have f4 : wx.drew.frozen? ⟨Bn, 4, none⟩ = false := HN.out.frozen 4
  have d5 : wx.drew.cell? ⟨Bn, 5, none⟩ = some (iv 0) := HN.out.cell 5
  have f5 : wx.drew.frozen? ⟨Bn, 5, none⟩ = false := HN.out.frozen 5
  have l2 : Bn < wx.drew.heap.size := HN.out.lt
  clear HN HB l1 HG c0 c1 c2
  change wpList _ _ _ _ _ wx.drew
  generalize wx.drew = wz at *
  go_wp2
  have hbx := set6 (iv 2) (iv x) (iv y) (iv z) (iv 0) (iv 0) HN2.out
  have HB3 := Lib.hid (below6 (iv 2) (iv x) (iv y) (iv z) (iv 0) (iv 0) HB2.out hwB)
  generalize ((((((wz.setCell ⟨Bn, 0, none⟩ (iv 2)).setCell ⟨Bn, 1, none⟩ (iv x)).setCell ⟨Bn, 2, none⟩ (iv y)).setCell ⟨Bn, 3, none⟩ (iv z)).setCell ⟨Bn, 4, none⟩ (iv 0)).setCell ⟨Bn, 5, none⟩ (iv 0)) = wf at *
  have z0 : wf.cell? ⟨Bn, 0, none⟩ = some (iv 2) := hbx.cell 0
  have z1 : wf.cell? ⟨Bn, 1, none⟩ = some (iv x) := hbx.cell 1
  have z2 : wf.cell? ⟨Bn, 2, none⟩ = some (iv y) := hbx.cell 2
  have z3 : wf.cell? ⟨Bn, 3, none⟩ = some (iv z) := hbx.cell 3
  have z4 : wf.cell? ⟨Bn, 4, none⟩ = some (iv 0) := hbx.cell 4
  have z5 : wf.cell? ⟨Bn, 5, none⟩ = some (iv 0) := hbx.cell 5
  exact bodyPost_ret (v := ndV ⟨2, x, y, z, 0, 0⟩) (by simp [results, Tryd.results97, go_sem, z0, z1, z2, z3, z4, z5]) rfl ⟨rfl, HB3.out⟩
end Go.Proofs.YtnpnfdnaglcnfaaDoor
