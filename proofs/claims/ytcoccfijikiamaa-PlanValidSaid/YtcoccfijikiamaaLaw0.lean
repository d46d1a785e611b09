/- The laws' own small functions: car, acts, Mod64, made. -/
import Derived.Test.YtcoccfijikiamaaTl
namespace Go.Proofs.Ytcoccfijikiamaa
open Go.RowKit Go.Shelf

/-- The chapter's car. -/
def kCar : Car := ⟨4000, 20, 60, 30, 1⟩
theorem kCar_ok : kCar.ok := by unfold Car.ok kCar; decide
set_option maxRecDepth 100000 in
set_option maxHeartbeats 4000000 in
theorem lcar_any (w : World) : Calls Try.prog 18 #[] w fun e w' => e = .returned (cv kCar) ∧ Below w.heap.size w w' := by
  go_enter Try.func18, Try.ntmps18
  go_wp2
  exact bodyPost_ret (v := cv kCar) (by simp [results, Try.results18, go_sem, kCar]) rfl ⟨rfl, by
    repeat (first | exact Below.refl _ _ | refine Below.setCell ?_ (by first | omega | (simp; omega) | simp) _ | refine Below.alloc ?_ (by first | omega | (simp; omega) | simp) _)⟩
set_option maxRecDepth 100000 in
set_option maxHeartbeats 4000000 in
theorem acts_any (A : Option Addr) (n c : Nat) (w : World) : Calls Try.prog 19 #[.slice A n c] w fun e w' => e = .returned (pv A n c) ∧ Below w.heap.size w w' := by
  go_enter Try.func19, Try.ntmps19
  go_wp2
  exact bodyPost_ret (v := pv A n c) (by simp [results, Try.results19, go_sem]) rfl ⟨rfl, by
    repeat (first | exact Below.refl _ _ | refine Below.setCell ?_ (by first | omega | (simp; omega) | simp) _ | refine Below.alloc ?_ (by first | omega | (simp; omega) | simp) _)⟩
/-- The kit's remainder. -/
def md (n m : Int) : Int := if n.tmod m < 0 then n.tmod m + m else n.tmod m
theorem tmod_in (n : Int) {m : Int} (hm : 0 < m) : -m < n.tmod m ∧ n.tmod m < m := by
  refine ⟨?_, Int.tmod_lt_of_pos n hm⟩
  rcases Int.le_total 0 n with h | h
  · have := Int.tmod_nonneg m h
    omega
  · have h5 := Int.tmod_lt_of_pos (-n) hm
    rw [Int.neg_tmod] at h5
    omega
theorem md_in (n : Int) {m : Int} (hm : 0 < m) : 0 ≤ md n m ∧ md n m < m := by
  have := tmod_in n hm
  unfold md
  omega
set_option maxHeartbeats 4000000 in
theorem mod64_any (n m : Int) (hm : 0 < m) (hm2 : m ≤ 4000000000000000000) (w : World) : Calls Try.prog 25 #[iv n, iv m] w fun e w' => e = .returned (iv (md n m)) ∧ w' = w := by
  obtain ⟨h2, h1⟩ := tmod_in n hm
  have h3 : ¬ m = 0 := by omega
  have h4 : ¬ m = -1 := by omega
  unfold md
  by_cases h : n.tmod m < 0
  · rw [if_pos h]
    go_enter Try.func25, Try.ntmps25
    go_wp2
    all_goals go_ret
    all_goals exact ⟨rfl, rfl⟩
  · rw [if_neg h]
    go_enter Try.func25, Try.ntmps25
    go_wp2
    all_goals go_ret
    all_goals exact ⟨rfl, rfl⟩
/-- The car made of numbers. -/
def mkCar (a b c d : Int) : Car := ⟨300 + md a 4700, 1 + md b 30, 50 + md c 41, 20 + md d 101, 0⟩
theorem mkCar_ok (a b c d : Int) : (mkCar a b c d).ok := by
  have h1 := md_in a (m := 4700) (by decide)
  have h2 := md_in b (m := 30) (by decide)
  have h3 := md_in c (m := 41) (by decide)
  have h4 := md_in d (m := 101) (by decide)
  unfold Car.ok mkCar
  dsimp only
  omega
set_option maxRecDepth 100000 in
set_option maxHeartbeats 4000000 in
theorem made_any (a b c d : Int) (w : World) : Calls Try.prog 24 #[.agg #[iv a, iv b, iv c, iv d]] w fun e w' => e = .returned (cv (mkCar a b c d)) ∧ Below w.heap.size w w' := by
  have hB : Below w.heap.size w ((w.alloc (.cells #[iv a, iv b, iv c, iv d] 44)).alloc (.cells #[iv 0, iv 0, iv 0, iv 0, iv 0] 23)) := ((Below.refl _ w).alloc (Nat.le_refl _) _).alloc (by simp) _
  have HB := Lib.hid hB
  have HX := Lib.hid ((BoxAt.new w 44 #[iv a, iv b, iv c, iv d]).alloc (.cells #[iv 0, iv 0, iv 0, iv 0, iv 0] 23))
  have HY : Hid (BoxAt ((w.alloc (.cells #[iv a, iv b, iv c, iv d] 44)).alloc (.cells #[iv 0, iv 0, iv 0, iv 0, iv 0] 23)) (w.heap.size + 1) 23 #[iv 0, iv 0, iv 0, iv 0, iv 0]) := Lib.hid (by
    have h := BoxAt.new (w.alloc (.cells #[iv a, iv b, iv c, iv d] 44)) 23 #[iv 0, iv 0, iv 0, iv 0, iv 0]
    rw [World.size_alloc] at h
    exact h)
  have H1 := Lib.hid (fun W => mod64_any a 4700 (by decide) (by decide) W)
  have H2 := Lib.hid (fun W => mod64_any b 30 (by decide) (by decide) W)
  have H3 := Lib.hid (fun W => mod64_any c 41 (by decide) (by decide) W)
  have H4 := Lib.hid (fun W => mod64_any d 101 (by decide) (by decide) W)
  unfold mkCar
  have q1 := md_in a (m := 4700) (by decide)
  have q2 := md_in b (m := 30) (by decide)
  have q3 := md_in c (m := 41) (by decide)
  have q4 := md_in d (m := 101) (by decide)
  generalize md a 4700 = r1 at *
  generalize md b 30 = r2 at *
  generalize md c 41 = r3 at *
  generalize md d 101 = r4 at *
  have e1 : IntKind.i64.wrap (300 + r1) = 300 + r1 := IntWalk.i64_in _ (by omega)
  have e2 : IntKind.i64.wrap (1 + r2) = 1 + r2 := IntWalk.i64_in _ (by omega)
  have e3 : IntKind.i64.wrap (50 + r3) = 50 + r3 := IntWalk.i64_in _ (by omega)
  have e4 : IntKind.i64.wrap (20 + r4) = 20 + r4 := IntWalk.i64_in _ (by omega)
  clear hB
  go_enter Try.func24, Try.ntmps24
  go_upto_region 1 with fail
  generalize (w.alloc (.cells #[iv a, iv b, iv c, iv d] 44)).alloc (.cells #[iv 0, iv 0, iv 0, iv 0, iv 0] 23) = w0 at *
  have x0 : w0.cell? ⟨w.heap.size, 0, none⟩ = some (iv a) := HX.out.cell 0
  have x1 : w0.cell? ⟨w.heap.size, 1, none⟩ = some (iv b) := HX.out.cell 1
  have x2 : w0.cell? ⟨w.heap.size, 2, none⟩ = some (iv c) := HX.out.cell 2
  have x3 : w0.cell? ⟨w.heap.size, 3, none⟩ = some (iv d) := HX.out.cell 3
  have lx := HX.out.lt
  go_still_tail 17, (by kernel_rfl)
  still_call (H1.out _)
  repeat still_step
  still_call (H2.out _)
  repeat still_step
  still_call (H3.out _)
  repeat still_step
  still_call (H4.out _)
  repeat still_step
  refine wpStill_nil ?_
  change wpList _ _ _ _ _ w0.drew
  have HB2 := Lib.hid (Below.drew HB.out)
  have HY2 := Lib.hid (HY.out.drew)
  clear x0 x1 x2 x3 lx e1 e2 e3 e4
  generalize w0.drew = w1 at *
  have y0 : w1.cell? ⟨w.heap.size + 1, 0, none⟩ = some (iv 0) := HY2.out.cell 0
  have y1 : w1.cell? ⟨w.heap.size + 1, 1, none⟩ = some (iv 0) := HY2.out.cell 1
  have y2 : w1.cell? ⟨w.heap.size + 1, 2, none⟩ = some (iv 0) := HY2.out.cell 2
  have y3 : w1.cell? ⟨w.heap.size + 1, 3, none⟩ = some (iv 0) := HY2.out.cell 3
  have y4 : w1.cell? ⟨w.heap.size + 1, 4, none⟩ = some (iv 0) := HY2.out.cell 4
  have f0 := HY2.out.frozen 0
  have f1 := HY2.out.frozen 1
  have f2 := HY2.out.frozen 2
  have f3 := HY2.out.frozen 3
  have f4 := HY2.out.frozen 4
  have ly := HY2.out.lt
  go_wp2
  have HZ := Lib.hid (((((HY2.out.set 0 (iv (300 + r1))).set 1 (iv (1 + r2))).set 2 (iv (50 + r3))).set 3 (iv (20 + r4))).set 4 (iv 0))
  have HBz := Lib.hid (bset (p := ⟨w.heap.size + 1, 4, none⟩) (by simp) (bset (p := ⟨w.heap.size + 1, 3, none⟩) (by simp) (bset (p := ⟨w.heap.size + 1, 2, none⟩) (by simp) (bset (p := ⟨w.heap.size + 1, 1, none⟩) (by simp) (bset (p := ⟨w.heap.size + 1, 0, none⟩) (by simp) HB2.out (iv (300 + r1))) (iv (1 + r2))) (iv (50 + r3))) (iv (20 + r4))) (iv 0))
  clear y0 y1 y2 y3 y4 f0 f1 f2 f3 f4 ly HY2 HB2
  generalize ((((w1.setCell ⟨w.heap.size + 1, 0, none⟩ (iv (300 + r1))).setCell ⟨w.heap.size + 1, 1, none⟩ (iv (1 + r2))).setCell ⟨w.heap.size + 1, 2, none⟩ (iv (50 + r3))).setCell ⟨w.heap.size + 1, 3, none⟩ (iv (20 + r4))).setCell ⟨w.heap.size + 1, 4, none⟩ (iv 0) = wz at *
  have z0 : wz.cell? ⟨w.heap.size + 1, 0, none⟩ = some (iv (300 + r1)) := HZ.out.cell 0
  have z1 : wz.cell? ⟨w.heap.size + 1, 1, none⟩ = some (iv (1 + r2)) := HZ.out.cell 1
  have z2 : wz.cell? ⟨w.heap.size + 1, 2, none⟩ = some (iv (50 + r3)) := HZ.out.cell 2
  have z3 : wz.cell? ⟨w.heap.size + 1, 3, none⟩ = some (iv (20 + r4)) := HZ.out.cell 3
  have z4 : wz.cell? ⟨w.heap.size + 1, 4, none⟩ = some (iv 0) := HZ.out.cell 4
  exact bodyPost_ret (v := cv ⟨300 + r1, 1 + r2, 50 + r3, 20 + r4, 0⟩) (by simp [results, Try.results24, go_sem, z0, z1, z2, z3, z4]) rfl ⟨rfl, HBz.out⟩
end Go.Proofs.Ytcoccfijikiamaa
