/- The reference's 'outside', 'meet' and 'common'. -/
import Derived.Test.YtglkpabcflecmaaCoA
import Derived.Test.YtglkpabcflecmaaRef1
import Derived.Test.YtglkpabcflecmaaCoB
namespace Go.Proofs.Ytglkpabcflecmaa
open Go.RowKit Go.Shelf

abbrev strC (A : Cor) : Array Value := #[.int .i64 A.x, .int .i64 A.y, .int .i64 A.p, .int .i64 A.q, .int .i64 A.l, .int .i64 A.h, .int .i64 A.a, .int .i64 A.b]
abbrev strV (A : Cor) : Value := .agg (strC A)
theorem str_boxes (w : World) (A B : Cor) : BoxAt ((w.alloc (.cells (strC A) 109)).alloc (.cells (strC B) 109)) w.heap.size 109 (strC A) ∧ BoxAt ((w.alloc (.cells (strC A) 109)).alloc (.cells (strC B) 109)) (w.heap.size + 1) 109 (strC B) ∧ Below w.heap.size w ((w.alloc (.cells (strC A) 109)).alloc (.cells (strC B) 109)) := by
  have h2 := BoxAt.new (w.alloc (.cells (strC A) 109)) 109 (strC B)
  rw [World.size_alloc] at h2
  exact ⟨(BoxAt.new w 109 (strC A)).alloc _, h2, ((Below.refl _ w).alloc (Nat.le_refl _) _).alloc (by simp) _⟩
theorem str_cells {W : World} {g : Nat} {A : Cor} (h : BoxAt W g 109 (strC A)) : W.cell? ⟨g, 0, none⟩ = some (.int .i64 A.x) ∧ W.cell? ⟨g, 1, none⟩ = some (.int .i64 A.y) ∧ W.cell? ⟨g, 2, none⟩ = some (.int .i64 A.p) ∧ W.cell? ⟨g, 3, none⟩ = some (.int .i64 A.q) ∧ W.cell? ⟨g, 4, none⟩ = some (.int .i64 A.l) ∧ W.cell? ⟨g, 5, none⟩ = some (.int .i64 A.h) ∧ W.cell? ⟨g, 6, none⟩ = some (.int .i64 A.a) ∧ W.cell? ⟨g, 7, none⟩ = some (.int .i64 A.b) :=
  ⟨h.cell 0, h.cell 1, h.cell 2, h.cell 3, h.cell 4, h.cell 5, h.cell 6, h.cell 7⟩

/-- The least and the greatest of the first k. -/
def mnF (X : Nat → Int) : Nat → Int
  | 0 => 0
  | 1 => X 0
  | k + 2 => min (mnF X (k + 1)) (X (k + 1))
def mxF (X : Nat → Int) : Nat → Int
  | 0 => 0
  | 1 => X 0
  | k + 2 => max (mxF X (k + 1)) (X (k + 1))
/-- The corner k of B, along an axis. -/
def crn (bs a b h t0 t1 : Int) : Nat → Int
  | 0 => bs + a * t0 + h * t1
  | 1 => bs + b * t0 + h * t1
  | 2 => bs + a * t0 + -h * t1
  | _ => bs + b * t0 + -h * t1
theorem crn_low (bs a b h t0 t1 : Int) : mnF (crn bs a b h t0 t1) 4 = bs + min (t0 * a) (t0 * b) + min (t1 * -h) (t1 * h) := by
  simp only [mnF, crn, Int.mul_comm t0, Int.mul_comm t1, Int.neg_mul]
  omega
theorem crn_high (bs a b h t0 t1 : Int) : mxF (crn bs a b h t0 t1) 4 = bs + max (t0 * a) (t0 * b) + max (t1 * -h) (t1 * h) := by
  simp only [mxF, crn, Int.mul_comm t0, Int.mul_comm t1, Int.neg_mul]
  omega
theorem low_crn (A B : Cor) (u v : Int) : A.lowK B u v 2 = mnF (crn (A.base B u v) B.a B.b B.h (Cor.tn u v B 0) (Cor.tn u v B 1)) 4 := by
  rw [crn_low]; rfl
theorem high_crn (A B : Cor) (u v : Int) : A.highK B u v 2 = mxF (crn (A.base B u v) B.a B.b B.h (Cor.tn u v B 0) (Cor.tn u v B 1)) 4 := by
  rw [crn_high]; rfl

set_option maxRecDepth 100000 in
set_option maxHeartbeats 8000000 in
theorem outside_any (A B : Cor) (hA : A.Ok) (hB : B.Ok) (hf : A.farB B = false) (w : World) :
    Calls Try.prog 97 #[strV A, strV B] w fun e w' => e = .returned (.bool (A.sepB B)) ∧ Below w.heap.size w w' := by
  obtain ⟨b1, b2, hB0⟩ := str_boxes w A B
  obtain ⟨w0, hw0⟩ : ∃ x, x = (w.alloc (.cells (strC A) 109)).alloc (.cells (strC B) 109) := ⟨_, rfl⟩
  rw [← hw0] at b1 b2 hB0
  have HW0 := Lib.hid hw0
  clear hw0
  have hw1 := hA.x
  have hw2 := hA.y
  have hw3 := hB.x
  have hw4 := hB.y
  have HM := Lib.hid (fun W => rminus_any B.x B.y A.x A.y W hw3 hw4 hw1 hw2)
  obtain ⟨ll0, ll1⟩ := Cor.ll_bd hA hB
  have hS : A.sepB B = ((decide (A.highK B A.p A.q 2 < A.a * (A.l * B.l)) || decide (A.b * (A.l * B.l) < A.lowK B A.p A.q 2)) || (decide (A.highK B (-A.q) A.p 2 < -A.h * (A.l * B.l)) || decide (A.h * (A.l * B.l) < A.lowK B (-A.q) A.p 2))) := rfl
  rw [low_crn, low_crn, high_crn, high_crn] at hS
  obtain ⟨⟨x1, x2⟩, x3, x4⟩ := Cor.ax_bd hA 0
  obtain ⟨⟨z1, z2⟩, z3, z4⟩ := Cor.ax_bd hB 0
  obtain ⟨y1, y2⟩ := Cor.d2_bd hA hB
  have bs0 := Cor.base_bd hA hB hf 0
  have bs1 := Cor.base_bd hA hB hf 1
  have t00 := Cor.tlo_bd hA hB 0 0
  have t01 := Cor.tlo_bd hA hB 0 1
  have t10 := Cor.tlo_bd hA hB 1 0
  have t11 := Cor.tlo_bd hA hB 1 1
  have v0 := Cor.lll_bd hA hB 0
  have v1 := Cor.lll_bd hA hB 1
  dsimp only [Cor.ax, Cor.ay, Cor.lo, Cor.hi, if_true] at x1 x2 x3 x4 z1 z2 z3 z4 bs0 bs1 t00 t01 t10 t11 v0 v1
  simp only [Nat.one_ne_zero, if_false, if_true] at bs0 bs1 t00 t01 t10 t11 v0 v1
  have a1 := hA.l1
  have a2 := hB.l1
  have a3 := hB.h0
  have a4 := hB.h1
  have a5 := hA.h0
  have a6 := hA.h1
  have o1 : okd A.p := by unfold okd; omega
  have o2 : okd A.q := by unfold okd; omega
  have o3 : okd B.p := by unfold okd; omega
  have o4 : okd B.q := by unfold okd; omega
  have o5 : okd (-B.q) := by unfold okd; omega
  obtain ⟨vx, hvx⟩ : ∃ z, z = B.x - A.x := ⟨_, rfl⟩
  obtain ⟨vy, hvy⟩ : ∃ z, z = B.y - A.y := ⟨_, rfl⟩
  rw [← hvx] at y1
  rw [← hvy] at y2
  rw [← hvx, ← hvy] at HM
  obtain ⟨g0, hg0⟩ : ∃ z, z = A.base B A.p A.q := ⟨_, rfl⟩
  obtain ⟨g1, hg1⟩ : ∃ z, z = A.base B (-A.q) A.p := ⟨_, rfl⟩
  obtain ⟨T00, hT00⟩ : ∃ z, z = Cor.tn A.p A.q B 0 := ⟨_, rfl⟩
  obtain ⟨T01, hT01⟩ : ∃ z, z = Cor.tn A.p A.q B 1 := ⟨_, rfl⟩
  obtain ⟨T10, hT10⟩ : ∃ z, z = Cor.tn (-A.q) A.p B 0 := ⟨_, rfl⟩
  obtain ⟨T11, hT11⟩ : ∃ z, z = Cor.tn (-A.q) A.p B 1 := ⟨_, rfl⟩
  rw [← hg0, ← hg1, ← hT00, ← hT01, ← hT10, ← hT11] at hS
  rw [← hg0] at bs0
  rw [← hg1] at bs1
  rw [← hT00] at t00
  rw [← hT01] at t01
  rw [← hT10] at t10
  rw [← hT11] at t11
  obtain ⟨d0, hd0⟩ : ∃ z, z = vx * A.p + vy * A.q := ⟨_, rfl⟩
  obtain ⟨d1, hd1⟩ : ∃ z, z = A.p * vy - A.q * vx := ⟨_, rfl⟩
  have HD1 := Lib.hid (fun W => rdot_n vx vy A.p A.q d0 W y1 y2 o1 o2 hd0.symm)
  have HD2 := Lib.hid (fun W => rdot_n B.p B.q A.p A.q T00 W o3 o4 o1 o2 (by rw [hT00]; show _ = A.p * B.p + A.q * B.q; grind))
  have HD3 := Lib.hid (fun W => rdot_n (-B.q) B.p A.p A.q T01 W o5 o3 o1 o2 (by rw [hT01]; show _ = A.p * -B.q + A.q * B.p; grind))
  have HC1 := Lib.hid (fun W => rcross_n A.p A.q vx vy d1 W o1 o2 y1 y2 hd1.symm)
  have HC2 := Lib.hid (fun W => rcross_n A.p A.q B.p B.q T10 W o1 o2 o3 o4 (by rw [hT10]; show _ = -A.q * B.p + A.p * B.q; grind))
  have HC3 := Lib.hid (fun W => rcross_n A.p A.q (-B.q) B.p T11 W o1 o2 o5 o3 (by rw [hT11]; show _ = -A.q * -B.q + A.p * B.p; grind))
  have e0 : B.l * d0 = g0 := by rw [hg0, hd0, hvx, hvy]; unfold Cor.base; grind
  have e1 : B.l * d1 = g1 := by rw [hg1, hd1, hvx, hvy]; unfold Cor.base; grind
  obtain ⟨LL, hLL⟩ : ∃ z, z = A.l * B.l := ⟨_, rfl⟩
  rw [← hLL] at hS v0 v1 ll0 ll1
  have hwll : IntKind.i64.wrap (A.l * B.l) = LL := by rw [← hLL]; exact IntWalk.i64_in _ (by omega)
  have we0 : IntKind.i64.wrap (B.l * d0) = g0 := by rw [e0]; exact IntWalk.i64_in _ (by omega)
  have we1 : IntKind.i64.wrap (B.l * d1) = g1 := by rw [e1]; exact IntWalk.i64_in _ (by omega)
  obtain ⟨p0, hp0⟩ : ∃ z, z = B.a * T00 := ⟨_, rfl⟩
  obtain ⟨p1, hp1⟩ : ∃ z, z = B.b * T00 := ⟨_, rfl⟩
  obtain ⟨q0, hq0⟩ : ∃ z, z = B.a * T10 := ⟨_, rfl⟩
  obtain ⟨q1, hq1⟩ : ∃ z, z = B.b * T10 := ⟨_, rfl⟩
  obtain ⟨k0, hk0⟩ : ∃ z, z = B.h * T01 := ⟨_, rfl⟩
  obtain ⟨k1, hk1⟩ : ∃ z, z = B.h * T11 := ⟨_, rfl⟩
  rw [Int.mul_comm T00, Int.mul_comm T00, ← hp0, ← hp1] at t00
  rw [Int.mul_comm T10, Int.mul_comm T10, ← hq0, ← hq1] at t10
  rw [Int.mul_comm T01, Int.mul_comm T01, ← hk0] at t01
  rw [Int.mul_comm T11, Int.mul_comm T11, ← hk1] at t11
  have hk2 : -B.h * T01 = -k0 := by rw [hk0]; exact Int.neg_mul _ _
  have hk3 : -B.h * T11 = -k1 := by rw [hk1]; exact Int.neg_mul _ _
  have wp0 : IntKind.i64.wrap (B.a * T00) = p0 := by rw [← hp0]; exact IntWalk.i64_in _ (by omega)
  have wp1 : IntKind.i64.wrap (B.b * T00) = p1 := by rw [← hp1]; exact IntWalk.i64_in _ (by omega)
  have wq0 : IntKind.i64.wrap (B.a * T10) = q0 := by rw [← hq0]; exact IntWalk.i64_in _ (by omega)
  have wq1 : IntKind.i64.wrap (B.b * T10) = q1 := by rw [← hq1]; exact IntWalk.i64_in _ (by omega)
  have wk0 : IntKind.i64.wrap (B.h * T01) = k0 := by rw [← hk0]; exact IntWalk.i64_in _ (by omega)
  have wk1 : IntKind.i64.wrap (B.h * T11) = k1 := by rw [← hk1]; exact IntWalk.i64_in _ (by omega)
  have wk2 : IntKind.i64.wrap (-B.h * T01) = -k0 := by rw [hk2]; exact IntWalk.i64_in _ (by omega)
  have wk3 : IntKind.i64.wrap (-B.h * T11) = -k1 := by rw [hk3]; exact IntWalk.i64_in _ (by omega)
  obtain ⟨X, hX⟩ : ∃ X, X = crn g0 B.a B.b B.h T00 T01 := ⟨_, rfl⟩
  obtain ⟨Y, hY⟩ : ∃ Y, Y = crn g1 B.a B.b B.h T10 T11 := ⟨_, rfl⟩
  rw [← hX, ← hY] at hS
  have X0 : g0 + p0 + k0 = X 0 := by rw [hX, hp0, hk0]; rfl
  have X1 : g0 + p1 + k0 = X 1 := by rw [hX, hp1, hk0]; rfl
  have X2 : g0 + p0 + -k0 = X 2 := by rw [hX, hp0, ← hk2]; rfl
  have X3 : g0 + p1 + -k0 = X 3 := by rw [hX, hp1, ← hk2]; rfl
  have Y0 : g1 + q0 + k1 = Y 0 := by rw [hY, hq0, hk1]; rfl
  have Y1 : g1 + q1 + k1 = Y 1 := by rw [hY, hq1, hk1]; rfl
  have Y2 : g1 + q0 + -k1 = Y 2 := by rw [hY, hq0, ← hk3]; rfl
  have Y3 : g1 + q1 + -k1 = Y 3 := by rw [hY, hq1, ← hk3]; rfl
  have hwX0 : IntKind.i64.wrap (g0 + p0 + k0) = X 0 := by rw [X0]; exact IntWalk.i64_in _ (by omega)
  have hwX1 : IntKind.i64.wrap (g0 + p1 + k0) = X 1 := by rw [X1]; exact IntWalk.i64_in _ (by omega)
  have hwX2 : IntKind.i64.wrap (g0 + p0 + -k0) = X 2 := by rw [X2]; exact IntWalk.i64_in _ (by omega)
  have hwX3 : IntKind.i64.wrap (g0 + p1 + -k0) = X 3 := by rw [X3]; exact IntWalk.i64_in _ (by omega)
  have hwY0 : IntKind.i64.wrap (g1 + q0 + k1) = Y 0 := by rw [Y0]; exact IntWalk.i64_in _ (by omega)
  have hwY1 : IntKind.i64.wrap (g1 + q1 + k1) = Y 1 := by rw [Y1]; exact IntWalk.i64_in _ (by omega)
  have hwY2 : IntKind.i64.wrap (g1 + q0 + -k1) = Y 2 := by rw [Y2]; exact IntWalk.i64_in _ (by omega)
  have hwY3 : IntKind.i64.wrap (g1 + q1 + -k1) = Y 3 := by rw [Y3]; exact IntWalk.i64_in _ (by omega)
  obtain ⟨P, hP⟩ : ∃ z, z = A.a * LL := ⟨_, rfl⟩
  obtain ⟨Q, hQ⟩ : ∃ z, z = A.b * LL := ⟨_, rfl⟩
  obtain ⟨R, hR⟩ : ∃ z, z = A.h * LL := ⟨_, rfl⟩
  have hR2 : -A.h * LL = -R := by rw [hR]; exact Int.neg_mul _ _
  rw [← hP, ← hQ, ← hR, hR2] at hS
  rw [← hP, ← hQ] at v0
  rw [← hR, hR2] at v1
  have wP : IntKind.i64.wrap (A.a * LL) = P := by rw [← hP]; exact IntWalk.i64_in _ (by omega)
  have wQ : IntKind.i64.wrap (A.b * LL) = Q := by rw [← hQ]; exact IntWalk.i64_in _ (by omega)
  have wR : IntKind.i64.wrap (A.h * LL) = R := by rw [← hR]; exact IntWalk.i64_in _ (by omega)
  have wR2 : IntKind.i64.wrap (-A.h * LL) = -R := by rw [hR2]; exact IntWalk.i64_in _ (by omega)
  have hnq : IntKind.i64.wrap (-B.q) = -B.q := IntWalk.i64_in _ (by omega)
  have wg0 : IntKind.i64.wrap (g0 + p0) = g0 + p0 := IntWalk.i64_in _ (by omega)
  have wg1 : IntKind.i64.wrap (g0 + p1) = g0 + p1 := IntWalk.i64_in _ (by omega)
  have wg2 : IntKind.i64.wrap (g1 + q0) = g1 + q0 := IntWalk.i64_in _ (by omega)
  have wg3 : IntKind.i64.wrap (g1 + q1) = g1 + q1 := IntWalk.i64_in _ (by omega)
  have HS := Lib.hid hS
  clear hS hP hQ hR hR2 X0 X1 X2 X3 Y0 Y1 Y2 Y3 hX hY hp0 hp1 hq0 hq1 hk0 hk1 hk2 hk3 hLL e0 e1 hd0 hd1 hg0 hg1 hT00 hT01 hT10 hT11 hvx hvy hw1 hw2 hw3 hw4 o1 o2 o3 o4 o5 y1 y2 hA hB hf
  obtain ⟨r, hr⟩ : ∃ r, r = A.sepB B := ⟨_, rfl⟩
  rw [← hr] at HS ⊢
  clear hr
  go_enter Try.func97, Try.ntmps97
  go_upto_region 1 with fail
  rw [← HW0.out]
  have k0' : w0.cell? ⟨w.heap.size, 0, none⟩ = some (.int .i64 A.x) := b1.cell 0
  have k1' : w0.cell? ⟨w.heap.size, 1, none⟩ = some (.int .i64 A.y) := b1.cell 1
  have m0 : w0.cell? ⟨w.heap.size + 1, 0, none⟩ = some (.int .i64 B.x) := b2.cell 0
  have m1 : w0.cell? ⟨w.heap.size + 1, 1, none⟩ = some (.int .i64 B.y) := b2.cell 1
  have m2 : w0.cell? ⟨w.heap.size + 1, 2, none⟩ = some (.int .i64 B.p) := b2.cell 2
  have m3 : w0.cell? ⟨w.heap.size + 1, 3, none⟩ = some (.int .i64 B.q) := b2.cell 3
  have l1 := b1.lt
  have l2 := b2.lt
  go_upto_region 2 with fail
  have hb1 : Below w0.heap.size w0 (w0.alloc (.cells #[.int .i64 (-B.q), .int .i64 B.p] 43)) := (Below.refl _ _).alloc (Nat.le_refl _) _
  have bn := BoxAt.new w0 43 #[.int .i64 (-B.q), .int .i64 B.p]
  go_upto_region 3 with (go_at_call 48; (with_reducible refine (HM.out _).mono ?_); rintro e wm ⟨rfl, hbm⟩)
  have hb2 := below_step hb1 hbm
  have hb3 := hb2.alloc hb2.size (.cells #[.int .i64 vx, .int .i64 vy] 43)
  have bn2 := (box_step bn hbm).alloc (.cells #[.int .i64 vx, .int .i64 vy] 43)
  have bm := BoxAt.new wm 43 #[.int .i64 vx, .int .i64 vy]
  have HB3 := Lib.hid (below_step hB0 hb3)
  have b13 := box_step b1 hb3
  have b23 := box_step b2 hb3
  obtain ⟨Ln, hLn⟩ : ∃ z, z = w0.heap.size := ⟨_, rfl⟩
  obtain ⟨Lm, hLm⟩ : ∃ z, z = wm.heap.size := ⟨_, rfl⟩
  rw [← hLn] at bn2 ⊢
  rw [← hLm] at bm ⊢
  clear hLn hLm hb1 hb2 hb3 hbm bn b1 b2 hB0 k0' k1' m0 m1 m2 m3 l1 l2 HM hnq
  generalize wm.alloc (.cells #[.int .i64 vx, .int .i64 vy] 43) = wd at *
  have HW : Hid (∀ W, Below wd.heap.size wd W → BoxAt W w.heap.size 109 (strC A) ∧ BoxAt W (w.heap.size + 1) 109 (strC B) ∧ BoxAt W Ln 43 #[.int .i64 (-B.q), .int .i64 B.p] ∧ BoxAt W Lm 43 #[.int .i64 vx, .int .i64 vy]) := Lib.hid (fun W hW => ⟨box_step b13 hW, box_step b23 hW, box_step bn2 hW, box_step bm hW⟩)
  clear b13 b23 bn2 bm
  go_wp2
  have I : ((Value.int .i64 0) = .int .i64 0 ∧ (Value.int .i64 0) = .int .i64 (mnF X 0) ∧ (Value.int .i64 0) = .int .i64 (mxF X 0) ∧ (Value.int .i64 0) = .int .i64 (mnF Y 0) ∧ (Value.int .i64 0) = .int .i64 (mxF Y 0)) ∧ Hid (Below wd.heap.size wd wd) := ⟨⟨rfl, rfl, rfl, rfl, rfl⟩, Lib.hid (Below.refl _ _)⟩
  go_loopw [7, 8, 9, 10, 11] (fun lx hx ly hy iv wr => ((iv = .int .i64 0 ∧ lx = .int .i64 (mnF X 0) ∧ hx = .int .i64 (mxF X 0) ∧ ly = .int .i64 (mnF Y 0) ∧ hy = .int .i64 (mxF Y 0)) ∨ (iv = .int .i64 1 ∧ lx = .int .i64 (mnF X 1) ∧ hx = .int .i64 (mxF X 1) ∧ ly = .int .i64 (mnF Y 1) ∧ hy = .int .i64 (mxF Y 1)) ∨ (iv = .int .i64 2 ∧ lx = .int .i64 (mnF X 2) ∧ hx = .int .i64 (mxF X 2) ∧ ly = .int .i64 (mnF Y 2) ∧ hy = .int .i64 (mxF Y 2)) ∨ (iv = .int .i64 3 ∧ lx = .int .i64 (mnF X 3) ∧ hx = .int .i64 (mxF X 3) ∧ ly = .int .i64 (mnF Y 3) ∧ hy = .int .i64 (mxF Y 3)) ∨ (iv = .int .i64 4 ∧ lx = .int .i64 (mnF X 4) ∧ hx = .int .i64 (mxF X 4) ∧ ly = .int .i64 (mnF Y 4) ∧ hy = .int .i64 (mxF Y 4))) ∧ Hid (Below wd.heap.size wd wr)) (fun _ _ _ _ iv _ => 5 - (intOf iv).toNat)
  case atStart => exact ⟨Or.inl I.1, I.2⟩
  case round =>
    clear I
    obtain ⟨wr, rfl⟩ : ∃ x : World, x = wr := ⟨_, rfl⟩
    obtain ⟨hrel, HX⟩ := hrel
    obtain ⟨f1, f2, f3, f4⟩ := HW.out _ HX.out
    obtain ⟨c0, c1, c2, c3, c4, c5, c6, c7⟩ := str_cells f1
    obtain ⟨j0, j1, j2, j3, j4, j5, j6, j7⟩ := str_cells f2
    have n0 : wr.cell? ⟨Ln, 0, none⟩ = some (.int .i64 (-B.q)) := f3.cell 0
    have n1 : wr.cell? ⟨Ln, 1, none⟩ = some (.int .i64 B.p) := f3.cell 1
    have s0 : wr.cell? ⟨Lm, 0, none⟩ = some (.int .i64 vx) := f4.cell 0
    have s1 : wr.cell? ⟨Lm, 1, none⟩ = some (.int .i64 vy) := f4.cell 1
    have r1 := f1.lt
    have r2 := f2.lt
    have r3 := f3.lt
    have r4 := f4.lt
    clear f1 f2 f3 f4
    rcases hrel with ⟨rfl, rfl, rfl, rfl, rfl⟩ | ⟨rfl, rfl, rfl, rfl, rfl⟩ | ⟨rfl, rfl, rfl, rfl, rfl⟩ | ⟨rfl, rfl, rfl, rfl, rfl⟩ | ⟨rfl, rfl, rfl, rfl, rfl⟩
    · clear wP wQ wR wR2 hwll v0 v1
      go_upto_region 7 with fail
      go_quiet (fail)
      have HX1 : Hid (Below wd.heap.size wd (wr.drewN nq)) := Lib.hid (below_drewN HX.out _)
      clear c0 c1 c2 c3 c4 c5 c6 c7 j0 j1 j2 j3 j4 j5 j6 j7 n0 n1 s0 s1 r1 r2 r3 r4
      generalize wr.drewN nq = w1 at *
      obtain ⟨f1, f2, f3, f4⟩ := HW.out _ HX1.out
      obtain ⟨c0, c1, c2, c3, c4, c5, c6, c7⟩ := str_cells f1
      obtain ⟨j0, j1, j2, j3, j4, j5, j6, j7⟩ := str_cells f2
      have n0 : w1.cell? ⟨Ln, 0, none⟩ = some (.int .i64 (-B.q)) := f3.cell 0
      have n1 : w1.cell? ⟨Ln, 1, none⟩ = some (.int .i64 B.p) := f3.cell 1
      have s0 : w1.cell? ⟨Lm, 0, none⟩ = some (.int .i64 vx) := f4.cell 0
      have s1 : w1.cell? ⟨Lm, 1, none⟩ = some (.int .i64 vy) := f4.cell 1
      have r1 := f1.lt
      have r2 := f2.lt
      have r3 := f3.lt
      have r4 := f4.lt
      clear f1 f2 f3 f4
      go_upto_region 12 with fail
      go_cut [14] from 48 to 69 (fun v w' => v = .int .i64 (X 0) ∧ Below w1.heap.size w1 w')
      case first =>
        have hBx : Below w1.heap.size w1 w1.drew := (Below.refl _ _).drew
        go_region_held3 (fun w' => w'.cell? ⟨w.heap.size, 2, none⟩ = some (.int .i64 A.p) ∧ w'.cell? ⟨w.heap.size, 3, none⟩ = some (.int .i64 A.q) ∧ w'.cell? ⟨w.heap.size + 1, 2, none⟩ = some (.int .i64 B.p) ∧ w'.cell? ⟨w.heap.size + 1, 3, none⟩ = some (.int .i64 B.q) ∧ w'.cell? ⟨w.heap.size + 1, 4, none⟩ = some (.int .i64 B.l) ∧ w'.cell? ⟨Ln, 0, none⟩ = some (.int .i64 (-B.q)) ∧ w'.cell? ⟨Ln, 1, none⟩ = some (.int .i64 B.p) ∧ w'.cell? ⟨Lm, 0, none⟩ = some (.int .i64 vx) ∧ w'.cell? ⟨Lm, 1, none⟩ = some (.int .i64 vy))
          (refine ⟨?_, ?_, ?_, ?_, ?_, ?_, ?_, ?_, ?_⟩ <;> exact (Below.cell hBx (by assumption)).trans (by assumption))
          (first
            | (go_at_call 65; (with_reducible refine (HD1.out _).mono ?_); rintro e w7 ⟨rfl, hb7⟩; replace hBx := below_step hBx hb7)
            | (go_at_call 65; (with_reducible refine (HD2.out _).mono ?_); rintro e w7 ⟨rfl, hb7⟩; replace hBx := below_step hBx hb7)
            | (go_at_call 65; (with_reducible refine (HD3.out _).mono ?_); rintro e w7 ⟨rfl, hb7⟩; replace hBx := below_step hBx hb7))
        all_goals go_wp2
        all_goals go_meet
        all_goals exact ⟨rfl, hBx⟩
      case rest =>
        obtain ⟨w2, rfl⟩ : ∃ x : World, x = wc := ⟨_, rfl⟩
        obtain ⟨rfl, hb7⟩ := hcut
        clear c0 c1 c2 c3 c4 c5 c6 c7 j0 j1 j2 j3 j4 j5 j6 j7 n0 n1 s0 s1 r1 r2 r3 r4
        have HX2 := Lib.hid (below_step HX1.out hb7)
        clear hb7
        obtain ⟨f1, f2, f3, f4⟩ := HW.out _ HX2.out
        obtain ⟨c0, c1, c2, c3, c4, c5, c6, c7⟩ := str_cells f1
        obtain ⟨j0, j1, j2, j3, j4, j5, j6, j7⟩ := str_cells f2
        have n0 : w2.cell? ⟨Ln, 0, none⟩ = some (.int .i64 (-B.q)) := f3.cell 0
        have n1 : w2.cell? ⟨Ln, 1, none⟩ = some (.int .i64 B.p) := f3.cell 1
        have s0 : w2.cell? ⟨Lm, 0, none⟩ = some (.int .i64 vx) := f4.cell 0
        have s1 : w2.cell? ⟨Lm, 1, none⟩ = some (.int .i64 vy) := f4.cell 1
        have r1 := f1.lt
        have r2 := f2.lt
        have r3 := f3.lt
        have r4 := f4.lt
        clear f1 f2 f3 f4
        go_upto_region 13 with fail
        go_cut [15] from 70 to 91 (fun v w' => v = .int .i64 (Y 0) ∧ Below w2.heap.size w2 w')
        case first =>
          have hBx : Below w2.heap.size w2 w2.drew := (Below.refl _ _).drew
          go_region_held3 (fun w' => w'.cell? ⟨w.heap.size, 2, none⟩ = some (.int .i64 A.p) ∧ w'.cell? ⟨w.heap.size, 3, none⟩ = some (.int .i64 A.q) ∧ w'.cell? ⟨w.heap.size + 1, 2, none⟩ = some (.int .i64 B.p) ∧ w'.cell? ⟨w.heap.size + 1, 3, none⟩ = some (.int .i64 B.q) ∧ w'.cell? ⟨w.heap.size + 1, 4, none⟩ = some (.int .i64 B.l) ∧ w'.cell? ⟨Ln, 0, none⟩ = some (.int .i64 (-B.q)) ∧ w'.cell? ⟨Ln, 1, none⟩ = some (.int .i64 B.p) ∧ w'.cell? ⟨Lm, 0, none⟩ = some (.int .i64 vx) ∧ w'.cell? ⟨Lm, 1, none⟩ = some (.int .i64 vy))
            (refine ⟨?_, ?_, ?_, ?_, ?_, ?_, ?_, ?_, ?_⟩ <;> exact (Below.cell hBx (by assumption)).trans (by assumption))
            (first
              | (go_at_call 75; (with_reducible refine (HC1.out _).mono ?_); rintro e w7 ⟨rfl, hb7⟩; replace hBx := below_step hBx hb7)
              | (go_at_call 75; (with_reducible refine (HC2.out _).mono ?_); rintro e w7 ⟨rfl, hb7⟩; replace hBx := below_step hBx hb7)
              | (go_at_call 75; (with_reducible refine (HC3.out _).mono ?_); rintro e w7 ⟨rfl, hb7⟩; replace hBx := below_step hBx hb7))
          all_goals go_wp2
          all_goals go_meet
          all_goals exact ⟨rfl, hBx⟩
        case rest =>
          obtain ⟨w3, rfl⟩ : ∃ x : World, x = wc := ⟨_, rfl⟩
          obtain ⟨rfl, hb7⟩ := hcut
          clear c0 c1 c2 c3 c4 c5 c6 c7 j0 j1 j2 j3 j4 j5 j6 j7 n0 n1 s0 s1 r1 r2 r3 r4
          have HX3 := Lib.hid (below_step HX2.out hb7)
          clear hb7
          go_wp2
          go_roundw
          case rel => exact ⟨Or.inr (Or.inl ⟨rfl, (by first | rfl | (rw [if_min]; rfl) | (simp [mnF])), (by first | rfl | (rw [if_max]; rfl) | (simp [mxF])), (by first | rfl | (rw [if_min]; rfl) | (simp [mnF])), (by first | rfl | (rw [if_max]; rfl) | (simp [mxF]))⟩), HX3⟩
          case measure => simp [intOf]
    · clear wP wQ wR wR2 hwll v0 v1
      go_upto_region 7 with fail
      go_quiet (fail)
      have HX1 : Hid (Below wd.heap.size wd (wr.drewN nq)) := Lib.hid (below_drewN HX.out _)
      clear c0 c1 c2 c3 c4 c5 c6 c7 j0 j1 j2 j3 j4 j5 j6 j7 n0 n1 s0 s1 r1 r2 r3 r4
      generalize wr.drewN nq = w1 at *
      obtain ⟨f1, f2, f3, f4⟩ := HW.out _ HX1.out
      obtain ⟨c0, c1, c2, c3, c4, c5, c6, c7⟩ := str_cells f1
      obtain ⟨j0, j1, j2, j3, j4, j5, j6, j7⟩ := str_cells f2
      have n0 : w1.cell? ⟨Ln, 0, none⟩ = some (.int .i64 (-B.q)) := f3.cell 0
      have n1 : w1.cell? ⟨Ln, 1, none⟩ = some (.int .i64 B.p) := f3.cell 1
      have s0 : w1.cell? ⟨Lm, 0, none⟩ = some (.int .i64 vx) := f4.cell 0
      have s1 : w1.cell? ⟨Lm, 1, none⟩ = some (.int .i64 vy) := f4.cell 1
      have r1 := f1.lt
      have r2 := f2.lt
      have r3 := f3.lt
      have r4 := f4.lt
      clear f1 f2 f3 f4
      go_upto_region 12 with fail
      go_cut [14] from 48 to 69 (fun v w' => v = .int .i64 (X 1) ∧ Below w1.heap.size w1 w')
      case first =>
        have hBx : Below w1.heap.size w1 w1.drew := (Below.refl _ _).drew
        go_region_held3 (fun w' => w'.cell? ⟨w.heap.size, 2, none⟩ = some (.int .i64 A.p) ∧ w'.cell? ⟨w.heap.size, 3, none⟩ = some (.int .i64 A.q) ∧ w'.cell? ⟨w.heap.size + 1, 2, none⟩ = some (.int .i64 B.p) ∧ w'.cell? ⟨w.heap.size + 1, 3, none⟩ = some (.int .i64 B.q) ∧ w'.cell? ⟨w.heap.size + 1, 4, none⟩ = some (.int .i64 B.l) ∧ w'.cell? ⟨Ln, 0, none⟩ = some (.int .i64 (-B.q)) ∧ w'.cell? ⟨Ln, 1, none⟩ = some (.int .i64 B.p) ∧ w'.cell? ⟨Lm, 0, none⟩ = some (.int .i64 vx) ∧ w'.cell? ⟨Lm, 1, none⟩ = some (.int .i64 vy))
          (refine ⟨?_, ?_, ?_, ?_, ?_, ?_, ?_, ?_, ?_⟩ <;> exact (Below.cell hBx (by assumption)).trans (by assumption))
          (first
            | (go_at_call 65; (with_reducible refine (HD1.out _).mono ?_); rintro e w7 ⟨rfl, hb7⟩; replace hBx := below_step hBx hb7)
            | (go_at_call 65; (with_reducible refine (HD2.out _).mono ?_); rintro e w7 ⟨rfl, hb7⟩; replace hBx := below_step hBx hb7)
            | (go_at_call 65; (with_reducible refine (HD3.out _).mono ?_); rintro e w7 ⟨rfl, hb7⟩; replace hBx := below_step hBx hb7))
        all_goals go_wp2
        all_goals go_meet
        all_goals exact ⟨rfl, hBx⟩
      case rest =>
        obtain ⟨w2, rfl⟩ : ∃ x : World, x = wc := ⟨_, rfl⟩
        obtain ⟨rfl, hb7⟩ := hcut
        clear c0 c1 c2 c3 c4 c5 c6 c7 j0 j1 j2 j3 j4 j5 j6 j7 n0 n1 s0 s1 r1 r2 r3 r4
        have HX2 := Lib.hid (below_step HX1.out hb7)
        clear hb7
        obtain ⟨f1, f2, f3, f4⟩ := HW.out _ HX2.out
        obtain ⟨c0, c1, c2, c3, c4, c5, c6, c7⟩ := str_cells f1
        obtain ⟨j0, j1, j2, j3, j4, j5, j6, j7⟩ := str_cells f2
        have n0 : w2.cell? ⟨Ln, 0, none⟩ = some (.int .i64 (-B.q)) := f3.cell 0
        have n1 : w2.cell? ⟨Ln, 1, none⟩ = some (.int .i64 B.p) := f3.cell 1
        have s0 : w2.cell? ⟨Lm, 0, none⟩ = some (.int .i64 vx) := f4.cell 0
        have s1 : w2.cell? ⟨Lm, 1, none⟩ = some (.int .i64 vy) := f4.cell 1
        have r1 := f1.lt
        have r2 := f2.lt
        have r3 := f3.lt
        have r4 := f4.lt
        clear f1 f2 f3 f4
        go_upto_region 13 with fail
        go_cut [15] from 70 to 91 (fun v w' => v = .int .i64 (Y 1) ∧ Below w2.heap.size w2 w')
        case first =>
          have hBx : Below w2.heap.size w2 w2.drew := (Below.refl _ _).drew
          go_region_held3 (fun w' => w'.cell? ⟨w.heap.size, 2, none⟩ = some (.int .i64 A.p) ∧ w'.cell? ⟨w.heap.size, 3, none⟩ = some (.int .i64 A.q) ∧ w'.cell? ⟨w.heap.size + 1, 2, none⟩ = some (.int .i64 B.p) ∧ w'.cell? ⟨w.heap.size + 1, 3, none⟩ = some (.int .i64 B.q) ∧ w'.cell? ⟨w.heap.size + 1, 4, none⟩ = some (.int .i64 B.l) ∧ w'.cell? ⟨Ln, 0, none⟩ = some (.int .i64 (-B.q)) ∧ w'.cell? ⟨Ln, 1, none⟩ = some (.int .i64 B.p) ∧ w'.cell? ⟨Lm, 0, none⟩ = some (.int .i64 vx) ∧ w'.cell? ⟨Lm, 1, none⟩ = some (.int .i64 vy))
            (refine ⟨?_, ?_, ?_, ?_, ?_, ?_, ?_, ?_, ?_⟩ <;> exact (Below.cell hBx (by assumption)).trans (by assumption))
            (first
              | (go_at_call 75; (with_reducible refine (HC1.out _).mono ?_); rintro e w7 ⟨rfl, hb7⟩; replace hBx := below_step hBx hb7)
              | (go_at_call 75; (with_reducible refine (HC2.out _).mono ?_); rintro e w7 ⟨rfl, hb7⟩; replace hBx := below_step hBx hb7)
              | (go_at_call 75; (with_reducible refine (HC3.out _).mono ?_); rintro e w7 ⟨rfl, hb7⟩; replace hBx := below_step hBx hb7))
          all_goals go_wp2
          all_goals go_meet
          all_goals exact ⟨rfl, hBx⟩
        case rest =>
          obtain ⟨w3, rfl⟩ : ∃ x : World, x = wc := ⟨_, rfl⟩
          obtain ⟨rfl, hb7⟩ := hcut
          clear c0 c1 c2 c3 c4 c5 c6 c7 j0 j1 j2 j3 j4 j5 j6 j7 n0 n1 s0 s1 r1 r2 r3 r4
          have HX3 := Lib.hid (below_step HX2.out hb7)
          clear hb7
          go_wp2
          go_roundw
          case rel => exact ⟨Or.inr (Or.inr (Or.inl ⟨rfl, (by first | rfl | (rw [if_min]; rfl) | (simp [mnF])), (by first | rfl | (rw [if_max]; rfl) | (simp [mxF])), (by first | rfl | (rw [if_min]; rfl) | (simp [mnF])), (by first | rfl | (rw [if_max]; rfl) | (simp [mxF]))⟩)), HX3⟩
          case measure => simp [intOf]
    · clear wP wQ wR wR2 hwll v0 v1
      go_upto_region 7 with fail
      go_quiet (fail)
      have HX1 : Hid (Below wd.heap.size wd (wr.drewN nq)) := Lib.hid (below_drewN HX.out _)
      clear c0 c1 c2 c3 c4 c5 c6 c7 j0 j1 j2 j3 j4 j5 j6 j7 n0 n1 s0 s1 r1 r2 r3 r4
      generalize wr.drewN nq = w1 at *
      obtain ⟨f1, f2, f3, f4⟩ := HW.out _ HX1.out
      obtain ⟨c0, c1, c2, c3, c4, c5, c6, c7⟩ := str_cells f1
      obtain ⟨j0, j1, j2, j3, j4, j5, j6, j7⟩ := str_cells f2
      have n0 : w1.cell? ⟨Ln, 0, none⟩ = some (.int .i64 (-B.q)) := f3.cell 0
      have n1 : w1.cell? ⟨Ln, 1, none⟩ = some (.int .i64 B.p) := f3.cell 1
      have s0 : w1.cell? ⟨Lm, 0, none⟩ = some (.int .i64 vx) := f4.cell 0
      have s1 : w1.cell? ⟨Lm, 1, none⟩ = some (.int .i64 vy) := f4.cell 1
      have r1 := f1.lt
      have r2 := f2.lt
      have r3 := f3.lt
      have r4 := f4.lt
      clear f1 f2 f3 f4
      go_upto_region 12 with fail
      go_cut [14] from 48 to 69 (fun v w' => v = .int .i64 (X 2) ∧ Below w1.heap.size w1 w')
      case first =>
        have hBx : Below w1.heap.size w1 w1.drew := (Below.refl _ _).drew
        go_region_held3 (fun w' => w'.cell? ⟨w.heap.size, 2, none⟩ = some (.int .i64 A.p) ∧ w'.cell? ⟨w.heap.size, 3, none⟩ = some (.int .i64 A.q) ∧ w'.cell? ⟨w.heap.size + 1, 2, none⟩ = some (.int .i64 B.p) ∧ w'.cell? ⟨w.heap.size + 1, 3, none⟩ = some (.int .i64 B.q) ∧ w'.cell? ⟨w.heap.size + 1, 4, none⟩ = some (.int .i64 B.l) ∧ w'.cell? ⟨Ln, 0, none⟩ = some (.int .i64 (-B.q)) ∧ w'.cell? ⟨Ln, 1, none⟩ = some (.int .i64 B.p) ∧ w'.cell? ⟨Lm, 0, none⟩ = some (.int .i64 vx) ∧ w'.cell? ⟨Lm, 1, none⟩ = some (.int .i64 vy))
          (refine ⟨?_, ?_, ?_, ?_, ?_, ?_, ?_, ?_, ?_⟩ <;> exact (Below.cell hBx (by assumption)).trans (by assumption))
          (first
            | (go_at_call 65; (with_reducible refine (HD1.out _).mono ?_); rintro e w7 ⟨rfl, hb7⟩; replace hBx := below_step hBx hb7)
            | (go_at_call 65; (with_reducible refine (HD2.out _).mono ?_); rintro e w7 ⟨rfl, hb7⟩; replace hBx := below_step hBx hb7)
            | (go_at_call 65; (with_reducible refine (HD3.out _).mono ?_); rintro e w7 ⟨rfl, hb7⟩; replace hBx := below_step hBx hb7))
        all_goals go_wp2
        all_goals go_meet
        all_goals exact ⟨rfl, hBx⟩
      case rest =>
        obtain ⟨w2, rfl⟩ : ∃ x : World, x = wc := ⟨_, rfl⟩
        obtain ⟨rfl, hb7⟩ := hcut
        clear c0 c1 c2 c3 c4 c5 c6 c7 j0 j1 j2 j3 j4 j5 j6 j7 n0 n1 s0 s1 r1 r2 r3 r4
        have HX2 := Lib.hid (below_step HX1.out hb7)
        clear hb7
        obtain ⟨f1, f2, f3, f4⟩ := HW.out _ HX2.out
        obtain ⟨c0, c1, c2, c3, c4, c5, c6, c7⟩ := str_cells f1
        obtain ⟨j0, j1, j2, j3, j4, j5, j6, j7⟩ := str_cells f2
        have n0 : w2.cell? ⟨Ln, 0, none⟩ = some (.int .i64 (-B.q)) := f3.cell 0
        have n1 : w2.cell? ⟨Ln, 1, none⟩ = some (.int .i64 B.p) := f3.cell 1
        have s0 : w2.cell? ⟨Lm, 0, none⟩ = some (.int .i64 vx) := f4.cell 0
        have s1 : w2.cell? ⟨Lm, 1, none⟩ = some (.int .i64 vy) := f4.cell 1
        have r1 := f1.lt
        have r2 := f2.lt
        have r3 := f3.lt
        have r4 := f4.lt
        clear f1 f2 f3 f4
        go_upto_region 13 with fail
        go_cut [15] from 70 to 91 (fun v w' => v = .int .i64 (Y 2) ∧ Below w2.heap.size w2 w')
        case first =>
          have hBx : Below w2.heap.size w2 w2.drew := (Below.refl _ _).drew
          go_region_held3 (fun w' => w'.cell? ⟨w.heap.size, 2, none⟩ = some (.int .i64 A.p) ∧ w'.cell? ⟨w.heap.size, 3, none⟩ = some (.int .i64 A.q) ∧ w'.cell? ⟨w.heap.size + 1, 2, none⟩ = some (.int .i64 B.p) ∧ w'.cell? ⟨w.heap.size + 1, 3, none⟩ = some (.int .i64 B.q) ∧ w'.cell? ⟨w.heap.size + 1, 4, none⟩ = some (.int .i64 B.l) ∧ w'.cell? ⟨Ln, 0, none⟩ = some (.int .i64 (-B.q)) ∧ w'.cell? ⟨Ln, 1, none⟩ = some (.int .i64 B.p) ∧ w'.cell? ⟨Lm, 0, none⟩ = some (.int .i64 vx) ∧ w'.cell? ⟨Lm, 1, none⟩ = some (.int .i64 vy))
            (refine ⟨?_, ?_, ?_, ?_, ?_, ?_, ?_, ?_, ?_⟩ <;> exact (Below.cell hBx (by assumption)).trans (by assumption))
            (first
              | (go_at_call 75; (with_reducible refine (HC1.out _).mono ?_); rintro e w7 ⟨rfl, hb7⟩; replace hBx := below_step hBx hb7)
              | (go_at_call 75; (with_reducible refine (HC2.out _).mono ?_); rintro e w7 ⟨rfl, hb7⟩; replace hBx := below_step hBx hb7)
              | (go_at_call 75; (with_reducible refine (HC3.out _).mono ?_); rintro e w7 ⟨rfl, hb7⟩; replace hBx := below_step hBx hb7))
          all_goals go_wp2
          all_goals go_meet
          all_goals exact ⟨rfl, hBx⟩
        case rest =>
          obtain ⟨w3, rfl⟩ : ∃ x : World, x = wc := ⟨_, rfl⟩
          obtain ⟨rfl, hb7⟩ := hcut
          clear c0 c1 c2 c3 c4 c5 c6 c7 j0 j1 j2 j3 j4 j5 j6 j7 n0 n1 s0 s1 r1 r2 r3 r4
          have HX3 := Lib.hid (below_step HX2.out hb7)
          clear hb7
          go_wp2
          go_roundw
          case rel => exact ⟨Or.inr (Or.inr (Or.inr (Or.inl ⟨rfl, (by first | rfl | (rw [if_min]; rfl) | (simp [mnF])), (by first | rfl | (rw [if_max]; rfl) | (simp [mxF])), (by first | rfl | (rw [if_min]; rfl) | (simp [mnF])), (by first | rfl | (rw [if_max]; rfl) | (simp [mxF]))⟩))), HX3⟩
          case measure => simp [intOf]
    · clear wP wQ wR wR2 hwll v0 v1
      go_upto_region 7 with fail
      go_quiet (fail)
      have HX1 : Hid (Below wd.heap.size wd (wr.drewN nq)) := Lib.hid (below_drewN HX.out _)
      clear c0 c1 c2 c3 c4 c5 c6 c7 j0 j1 j2 j3 j4 j5 j6 j7 n0 n1 s0 s1 r1 r2 r3 r4
      generalize wr.drewN nq = w1 at *
      obtain ⟨f1, f2, f3, f4⟩ := HW.out _ HX1.out
      obtain ⟨c0, c1, c2, c3, c4, c5, c6, c7⟩ := str_cells f1
      obtain ⟨j0, j1, j2, j3, j4, j5, j6, j7⟩ := str_cells f2
      have n0 : w1.cell? ⟨Ln, 0, none⟩ = some (.int .i64 (-B.q)) := f3.cell 0
      have n1 : w1.cell? ⟨Ln, 1, none⟩ = some (.int .i64 B.p) := f3.cell 1
      have s0 : w1.cell? ⟨Lm, 0, none⟩ = some (.int .i64 vx) := f4.cell 0
      have s1 : w1.cell? ⟨Lm, 1, none⟩ = some (.int .i64 vy) := f4.cell 1
      have r1 := f1.lt
      have r2 := f2.lt
      have r3 := f3.lt
      have r4 := f4.lt
      clear f1 f2 f3 f4
      go_upto_region 12 with fail
      go_cut [14] from 48 to 69 (fun v w' => v = .int .i64 (X 3) ∧ Below w1.heap.size w1 w')
      case first =>
        have hBx : Below w1.heap.size w1 w1.drew := (Below.refl _ _).drew
        go_region_held3 (fun w' => w'.cell? ⟨w.heap.size, 2, none⟩ = some (.int .i64 A.p) ∧ w'.cell? ⟨w.heap.size, 3, none⟩ = some (.int .i64 A.q) ∧ w'.cell? ⟨w.heap.size + 1, 2, none⟩ = some (.int .i64 B.p) ∧ w'.cell? ⟨w.heap.size + 1, 3, none⟩ = some (.int .i64 B.q) ∧ w'.cell? ⟨w.heap.size + 1, 4, none⟩ = some (.int .i64 B.l) ∧ w'.cell? ⟨Ln, 0, none⟩ = some (.int .i64 (-B.q)) ∧ w'.cell? ⟨Ln, 1, none⟩ = some (.int .i64 B.p) ∧ w'.cell? ⟨Lm, 0, none⟩ = some (.int .i64 vx) ∧ w'.cell? ⟨Lm, 1, none⟩ = some (.int .i64 vy))
          (refine ⟨?_, ?_, ?_, ?_, ?_, ?_, ?_, ?_, ?_⟩ <;> exact (Below.cell hBx (by assumption)).trans (by assumption))
          (first
            | (go_at_call 65; (with_reducible refine (HD1.out _).mono ?_); rintro e w7 ⟨rfl, hb7⟩; replace hBx := below_step hBx hb7)
            | (go_at_call 65; (with_reducible refine (HD2.out _).mono ?_); rintro e w7 ⟨rfl, hb7⟩; replace hBx := below_step hBx hb7)
            | (go_at_call 65; (with_reducible refine (HD3.out _).mono ?_); rintro e w7 ⟨rfl, hb7⟩; replace hBx := below_step hBx hb7))
        all_goals go_wp2
        all_goals go_meet
        all_goals exact ⟨rfl, hBx⟩
      case rest =>
        obtain ⟨w2, rfl⟩ : ∃ x : World, x = wc := ⟨_, rfl⟩
        obtain ⟨rfl, hb7⟩ := hcut
        clear c0 c1 c2 c3 c4 c5 c6 c7 j0 j1 j2 j3 j4 j5 j6 j7 n0 n1 s0 s1 r1 r2 r3 r4
        have HX2 := Lib.hid (below_step HX1.out hb7)
        clear hb7
        obtain ⟨f1, f2, f3, f4⟩ := HW.out _ HX2.out
        obtain ⟨c0, c1, c2, c3, c4, c5, c6, c7⟩ := str_cells f1
        obtain ⟨j0, j1, j2, j3, j4, j5, j6, j7⟩ := str_cells f2
        have n0 : w2.cell? ⟨Ln, 0, none⟩ = some (.int .i64 (-B.q)) := f3.cell 0
        have n1 : w2.cell? ⟨Ln, 1, none⟩ = some (.int .i64 B.p) := f3.cell 1
        have s0 : w2.cell? ⟨Lm, 0, none⟩ = some (.int .i64 vx) := f4.cell 0
        have s1 : w2.cell? ⟨Lm, 1, none⟩ = some (.int .i64 vy) := f4.cell 1
        have r1 := f1.lt
        have r2 := f2.lt
        have r3 := f3.lt
        have r4 := f4.lt
        clear f1 f2 f3 f4
        go_upto_region 13 with fail
        go_cut [15] from 70 to 91 (fun v w' => v = .int .i64 (Y 3) ∧ Below w2.heap.size w2 w')
        case first =>
          have hBx : Below w2.heap.size w2 w2.drew := (Below.refl _ _).drew
          go_region_held3 (fun w' => w'.cell? ⟨w.heap.size, 2, none⟩ = some (.int .i64 A.p) ∧ w'.cell? ⟨w.heap.size, 3, none⟩ = some (.int .i64 A.q) ∧ w'.cell? ⟨w.heap.size + 1, 2, none⟩ = some (.int .i64 B.p) ∧ w'.cell? ⟨w.heap.size + 1, 3, none⟩ = some (.int .i64 B.q) ∧ w'.cell? ⟨w.heap.size + 1, 4, none⟩ = some (.int .i64 B.l) ∧ w'.cell? ⟨Ln, 0, none⟩ = some (.int .i64 (-B.q)) ∧ w'.cell? ⟨Ln, 1, none⟩ = some (.int .i64 B.p) ∧ w'.cell? ⟨Lm, 0, none⟩ = some (.int .i64 vx) ∧ w'.cell? ⟨Lm, 1, none⟩ = some (.int .i64 vy))
            (refine ⟨?_, ?_, ?_, ?_, ?_, ?_, ?_, ?_, ?_⟩ <;> exact (Below.cell hBx (by assumption)).trans (by assumption))
            (first
              | (go_at_call 75; (with_reducible refine (HC1.out _).mono ?_); rintro e w7 ⟨rfl, hb7⟩; replace hBx := below_step hBx hb7)
              | (go_at_call 75; (with_reducible refine (HC2.out _).mono ?_); rintro e w7 ⟨rfl, hb7⟩; replace hBx := below_step hBx hb7)
              | (go_at_call 75; (with_reducible refine (HC3.out _).mono ?_); rintro e w7 ⟨rfl, hb7⟩; replace hBx := below_step hBx hb7))
          all_goals go_wp2
          all_goals go_meet
          all_goals exact ⟨rfl, hBx⟩
        case rest =>
          obtain ⟨w3, rfl⟩ : ∃ x : World, x = wc := ⟨_, rfl⟩
          obtain ⟨rfl, hb7⟩ := hcut
          clear c0 c1 c2 c3 c4 c5 c6 c7 j0 j1 j2 j3 j4 j5 j6 j7 n0 n1 s0 s1 r1 r2 r3 r4
          have HX3 := Lib.hid (below_step HX2.out hb7)
          clear hb7
          go_wp2
          go_roundw
          case rel => exact ⟨Or.inr (Or.inr (Or.inr (Or.inr (⟨rfl, (by first | rfl | (rw [if_min]; rfl) | (simp [mnF])), (by first | rfl | (rw [if_max]; rfl) | (simp [mxF])), (by first | rfl | (rw [if_min]; rfl) | (simp [mnF])), (by first | rfl | (rw [if_max]; rfl) | (simp [mxF]))⟩)))), HX3⟩
          case measure => simp [intOf]
    · clear HD1 HD2 HD3 HC1 HC2 HC3 we0 we1 wp0 wp1 wq0 wq1 wk0 wk1 wk2 wk3 hwX0 hwX1 hwX2 hwX3 hwY0 hwY1 hwY2 hwY3 wg0 wg1 wg2 wg3
      have hS := HS.out
      have HBX := Lib.hid (below_step HB3.out HX.out)
      generalize mnF X 4 = lX at *
      generalize mxF X 4 = hX at *
      generalize mnF Y 4 = lY at *
      generalize mxF Y 4 = hY at *
      have wna : IntKind.i64.wrap (-A.h) = -A.h := IntWalk.i64_in _ (by omega)
      clear HS
      by_cases h1 : hX < P
      · have hb : r = true := by rw [hS, decide_eq_true h1]; rfl
        clear hS
        go_wp2
        go_ret
        exact ⟨by simp [hb], HBX.out⟩
      · by_cases h2 : Q < lX
        · have hb : r = true := by rw [hS, decide_eq_true h2]; simp
          clear hS
          go_wp2
          go_ret
          exact ⟨by simp, HBX.out⟩
        · by_cases h3 : hY < -R
          · have hb : r = true := by rw [hS, decide_eq_true h3]; simp
            clear hS
            go_wp2
            go_ret
            exact ⟨by simp, HBX.out⟩
          · by_cases h4 : R < lY
            · have hb : r = true := by rw [hS, decide_eq_true h4]; simp
              clear hS
              go_wp2
              go_ret
              exact ⟨by simp, HBX.out⟩
            · have hb : r = false := by rw [hS, decide_eq_false h1, decide_eq_false h2, decide_eq_false h3, decide_eq_false h4]; rfl
              clear hS
              go_wp2
              go_ret
              exact ⟨by simp, HBX.out⟩
end Go.Proofs.Ytglkpabcflecmaa
namespace Go.Proofs.Ytglkpabcflecmaa
open Go.RowKit Go.Shelf

set_option maxRecDepth 100000 in
set_option maxHeartbeats 8000000 in
theorem rmeet_any (A B : Cor) (hA : A.Ok) (hB : B.Ok) (w : World) :
    Calls Try.prog 85 #[strV A, strV B] w fun e w' => e = .returned (.bool (A.meetB B)) ∧ Below w.heap.size w w' := by
  obtain ⟨b1, b2, hB0⟩ := str_boxes w A B
  obtain ⟨w0, hw0⟩ : ∃ x, x = (w.alloc (.cells (strC A) 109)).alloc (.cells (strC B) 109) := ⟨_, rfl⟩
  rw [← hw0] at b1 b2 hB0
  have HW0 := Lib.hid hw0
  clear hw0
  have hw1 := hA.x
  have hw2 := hA.y
  have hw3 := hB.x
  have hw4 := hB.y
  have HM := Lib.hid (fun W => rminus_any B.x B.y A.x A.y W hw3 hw4 hw1 hw2)
  obtain ⟨y1, y2⟩ := Cor.d2_bd hA hB
  obtain ⟨r0, r1⟩ := Cor.reach_bd hA hB
  have hr : A.l + B.l + A.h + B.h = A.reach B := by unfold Cor.reach; omega
  have hd2 : A.d2 B = (B.x - A.x) * (B.x - A.x) + (B.y - A.y) * (B.y - A.y) := rfl
  obtain ⟨vx, hvx⟩ : ∃ z, z = B.x - A.x := ⟨_, rfl⟩
  obtain ⟨vy, hvy⟩ : ∃ z, z = B.y - A.y := ⟨_, rfl⟩
  rw [← hvx] at y1 hd2
  rw [← hvy] at y2 hd2
  rw [← hvx, ← hvy] at HM
  have HD := Lib.hid (fun W => rdot_n vx vy vx vy (A.d2 B) W y1 y2 y1 y2 hd2.symm)
  obtain ⟨f, hf⟩ : ∃ f, f = A.farB B := ⟨_, rfl⟩
  obtain ⟨s, hs⟩ : ∃ s, s = A.sepB B := ⟨_, rfl⟩
  obtain ⟨t, ht⟩ : ∃ s, s = B.sepB A := ⟨_, rfl⟩
  have hm : A.meetB B = (!f && (!s && !t)) := by rw [hf, hs, ht]; rfl
  have hfd : f = decide (A.reach B * A.reach B < A.d2 B) := hf
  rw [hm]
  have HS1 : Hid (f = false → ∀ W, Calls Try.prog 97 #[strV A, strV B] W fun e w' => e = .returned (.bool s) ∧ Below W.heap.size W w') := Lib.hid (fun h W => by
    have := outside_any A B hA hB (hf.symm.trans h) W
    rw [← hs] at this
    exact this)
  have HS2 : Hid (f = false → ∀ W, Calls Try.prog 97 #[strV B, strV A] W fun e w' => e = .returned (.bool t) ∧ Below W.heap.size W w') := Lib.hid (fun h W => by
    have := outside_any B A hB hA ((Cor.far_sym B A).trans (hf.symm.trans h)) W
    rw [← ht] at this
    exact this)
  have a1 := hA.l0
  have a2 := hA.l1
  have a3 := hB.l0
  have a4 := hB.l1
  have a5 := hA.h0
  have a6 := hA.h1
  have a7 := hB.h0
  have a8 := hB.h1
  clear hm hf hs ht hvx hvy hd2 y1 y2 hw1 hw2 hw3 hw4 hA hB
  generalize A.reach B = r at *
  generalize A.d2 B = d at *
  have m1 := Int.mul_le_mul r1 r1 r0 (by omega)
  have m0 := Int.mul_nonneg r0 r0
  obtain ⟨rr, hrr⟩ : ∃ z, z = r * r := ⟨_, rfl⟩
  rw [← hrr] at hfd m1 m0
  have wrr : IntKind.i64.wrap (r * r) = rr := by rw [← hrr]; exact IntWalk.i64_in _ (by omega)
  have HR := Lib.hid hr
  clear hrr hr
  have k0 : w0.cell? ⟨w.heap.size, 0, none⟩ = some (.int .i64 A.x) := b1.cell 0
  have k1 : w0.cell? ⟨w.heap.size, 1, none⟩ = some (.int .i64 A.y) := b1.cell 1
  have m0' : w0.cell? ⟨w.heap.size + 1, 0, none⟩ = some (.int .i64 B.x) := b2.cell 0
  have m1' : w0.cell? ⟨w.heap.size + 1, 1, none⟩ = some (.int .i64 B.y) := b2.cell 1
  have l1 := b1.lt
  have l2 := b2.lt
  have hsum : IntKind.i64.wrap (A.l + B.l + A.h + B.h) = r := by rw [HR.out]; exact IntWalk.i64_in _ (by omega)
  have HSUM := Lib.hid hsum
  clear hsum
  go_enter Try.func85, Try.ntmps85
  go_upto_region 1 with fail
  rw [← HW0.out]
  go_upto_region 2 with (go_at_call 48; (with_reducible refine (HM.out _).mono ?_); rintro e wm ⟨rfl, hbm⟩)
  have hb3 := hbm.alloc hbm.size (.cells #[.int .i64 vx, .int .i64 vy] 43)
  have bm := BoxAt.new wm 43 #[.int .i64 vx, .int .i64 vy]
  have HB3 := Lib.hid (below_step hB0 hb3)
  have b13 := box_step b1 hb3
  have b23 := box_step b2 hb3
  obtain ⟨Lm, hLm⟩ : ∃ z, z = wm.heap.size := ⟨_, rfl⟩
  rw [← hLm] at bm ⊢
  clear hLm hb3 hbm b1 b2 hB0 k0 k1 m0' m1' l1 l2 HM
  generalize wm.alloc (.cells #[.int .i64 vx, .int .i64 vy] 43) = wd at *
  have HW : Hid (∀ W, Below wd.heap.size wd W → BoxAt W w.heap.size 109 (strC A) ∧ BoxAt W (w.heap.size + 1) 109 (strC B)) := Lib.hid (fun W hW => ⟨box_step b13 hW, box_step b23 hW⟩)
  obtain ⟨c0, c1, c2, c3, c4, c5, c6, c7⟩ := str_cells b13
  obtain ⟨j0, j1, j2, j3, j4, j5, j6, j7⟩ := str_cells b23
  have s0 : wd.cell? ⟨Lm, 0, none⟩ = some (.int .i64 vx) := bm.cell 0
  have s1 : wd.cell? ⟨Lm, 1, none⟩ = some (.int .i64 vy) := bm.cell 1
  have r1' := b13.lt
  have r2 := b23.lt
  have r3 := bm.lt
  clear b13 b23 bm
  go_upto_region 3 with fail
  rw [HR.out]
  clear HSUM HR
  cases f with
  | true =>
    have hlt : ¬ d ≤ rr := by have := of_decide_eq_true hfd.symm; omega
    clear hfd HS1 HS2
    go_wp2_with (go_at_call 65; (with_reducible refine (HD.out _).mono ?_); rintro e wa ⟨rfl, hba⟩)
    go_ret
    exact ⟨by simp, below_step HB3.out hba⟩
  | false =>
    have hle : d ≤ rr := by have := of_decide_eq_false hfd.symm; omega
    have HT1 := Lib.hid (HS1.out rfl)
    have HT2 := Lib.hid (HS2.out rfl)
    clear hfd HS1 HS2
    cases s with
    | true =>
      go_wp2_with (first
        | (go_at_call 65; (with_reducible refine (HD.out _).mono ?_); rintro e wa ⟨rfl, hba⟩; obtain ⟨u1, u2⟩ := HW.out _ hba; obtain ⟨x0, x1, x2, x3, x4, x5, x6, x7⟩ := str_cells u1; obtain ⟨z0, z1, z2, z3, z4, z5, z6, z7⟩ := str_cells u2; have q1 := u1.lt; have q2 := u2.lt)
        | (go_at_call 97; (with_reducible refine (HT1.out _).mono ?_); rintro e wb ⟨rfl, hbb⟩))
      go_ret
      exact ⟨by simp, below_step (below_step HB3.out hba) hbb⟩
    | false =>
      go_wp2_with (first
        | (go_at_call 65; (with_reducible refine (HD.out _).mono ?_); rintro e wa ⟨rfl, hba⟩; obtain ⟨u1, u2⟩ := HW.out _ hba; obtain ⟨x0, x1, x2, x3, x4, x5, x6, x7⟩ := str_cells u1; obtain ⟨z0, z1, z2, z3, z4, z5, z6, z7⟩ := str_cells u2; have q1 := u1.lt; have q2 := u2.lt)
        | (go_at_call 97; (with_reducible refine (HT1.out _).mono ?_); rintro e wb ⟨rfl, hbb⟩; obtain ⟨u3, u4⟩ := HW.out _ (below_step hba hbb); obtain ⟨g0, g1, g2, g3, g4, g5, g6, g7⟩ := str_cells u3; obtain ⟨i0, i1, i2, i3, i4, i5, i6, i7⟩ := str_cells u4; have q3 := u3.lt; have q4 := u4.lt)
        | (go_at_call 97; (with_reducible refine (HT2.out _).mono ?_); rintro e wc ⟨rfl, hbc⟩))
      go_ret
      exact ⟨by simp, below_step (below_step (below_step HB3.out hba) hbb) hbc⟩
end Go.Proofs.Ytglkpabcflecmaa
namespace Go.Proofs.Ytglkpabcflecmaa
open Go.RowKit Go.Shelf

theorem str_set2 {W : World} {g : Nat} {A : Cor} (h : BoxAt W g 109 (strC A)) (s t : Int) : BoxAt ((W.setCell ⟨g, 6, none⟩ (.int .i64 s)).setCell ⟨g, 7, none⟩ (.int .i64 t)) g 109 (strC (A.cut s t)) := (h.set 6 _).set 7 _
theorem str_other2 {W : World} {g g' : Nat} {A : Cor} (h : BoxAt W g 109 (strC A)) (hne : g ≠ g') (s t : Int) : BoxAt ((W.setCell ⟨g', 6, none⟩ (.int .i64 s)).setCell ⟨g', 7, none⟩ (.int .i64 t)) g 109 (strC A) := (h.other hne 6 _).other hne 7 _
theorem str_below2 {W0 W : World} {n h : Nat} (hb : Below n W0 W) (hh : n ≤ h) (a b : Int) : Below n W0 ((W.setCell ⟨h, 6, none⟩ (.int .i64 a)).setCell ⟨h, 7, none⟩ (.int .i64 b)) := (hb.setCell (p := ⟨h, 6, none⟩) hh _).setCell (p := ⟨h, 7, none⟩) hh _

set_option maxRecDepth 100000 in
set_option maxHeartbeats 8000000 in
theorem rcommon_any (A B : Cor) (hA : A.Ok) (hB : B.Ok) (w : World) :
    Calls Try.prog 86 #[strV A, strV B] w fun e w' => e = .returned (.tuple #[.int .i64 (max 0 ((A.fromN B : Int) - 1)), .int .i64 (min A.l (A.l - (A.cutN B : Int) + 1))]) ∧ Below w.heap.size w w' := by
  obtain ⟨b1, b2, hB0⟩ := str_boxes w A B
  have hs0 : ((w.alloc (.cells (strC A) 109)).alloc (.cells (strC B) 109)).heap.size = w.heap.size + 2 := by simp
  obtain ⟨w0, hw0⟩ : ∃ x, x = (w.alloc (.cells (strC A) 109)).alloc (.cells (strC B) 109) := ⟨_, rfl⟩
  rw [← hw0] at b1 b2 hB0 hs0
  have HW0 := Lib.hid hw0
  clear hw0
  have hn := Cor.n_eq hA
  have l0 := hA.l0
  have l1 := hA.l1
  have F1 : A.fromN B = srch (fun k => (A.cut 0 (k : Int)).meetB B) 0 A.n := rfl
  have F2 : A.cutN B = srch (fun k => (A.cut (A.l - (k : Int)) A.l).meetB B) 0 A.n := rfl
  have f1 := Cor.fromN_le A B
  have f2 := Cor.cutN_le A B
  have HM1 : Hid (∀ k : Nat, k ≤ A.n → ∀ W, Calls Try.prog 85 #[strV (A.cut 0 (k : Int)), strV B] W fun e w' => e = .returned (.bool ((A.cut 0 (k : Int)).meetB B)) ∧ Below W.heap.size W w') := Lib.hid (fun k hk W => rmeet_any _ B (hA.cut (by omega) (by omega) (by omega) (by omega)) hB W)
  have HM2 : Hid (∀ k : Nat, k ≤ A.n → ∀ W, Calls Try.prog 85 #[strV (A.cut (A.l - (k : Int)) A.l), strV B] W fun e w' => e = .returned (.bool ((A.cut (A.l - (k : Int)) A.l).meetB B)) ∧ Below W.heap.size W w') := Lib.hid (fun k hk W => rmeet_any _ B (hA.cut (by omega) (by omega) (by omega) (by omega)) hB W)
  obtain ⟨P1, hP1⟩ : ∃ P : Nat → Bool, P = fun k : Nat => (A.cut 0 (k : Int)).meetB B := ⟨_, rfl⟩
  obtain ⟨P2, hP2⟩ : ∃ P : Nat → Bool, P = fun k : Nat => (A.cut (A.l - (k : Int)) A.l).meetB B := ⟨_, rfl⟩
  rw [← hP1] at F1
  rw [← hP2] at F2
  have HQ1 : Hid (∀ k : Nat, (A.cut 0 (k : Int)).meetB B = P1 k) := Lib.hid (fun k => by rw [hP1])
  have HQ2 : Hid (∀ k : Nat, (A.cut (A.l - (k : Int)) A.l).meetB B = P2 k) := Lib.hid (fun k => by rw [hP2])
  clear hP1 hP2
  generalize A.fromN B = G1 at *
  generalize A.cutN B = G2 at *
  generalize A.n = n at *
  have HF1 := Lib.hid F1
  have HF2 := Lib.hid F2
  have HN := Lib.hid hn
  have n1 : n ≤ 1048576 := by omega
  have I : ∃ i j : Nat, i ≤ j ∧ j ≤ n ∧ (Value.int .i64 0) = .int .i64 i ∧ (Value.int .i64 A.l) = .int .i64 j ∧ Hid (srch P1 i j = srch P1 0 n) ∧ Hid (∃ s t, BoxAt w0 w.heap.size 109 (strC (A.cut s t))) ∧ Hid (BoxAt w0 (w.heap.size + 1) 109 (strC B)) ∧ Hid (Below w.heap.size w w0) := ⟨0, n, by omega, by omega, rfl, by rw [hn], Lib.hid rfl, Lib.hid ⟨A.a, A.b, b1⟩, Lib.hid b2, Lib.hid hB0⟩
  have k4 : w0.cell? ⟨w.heap.size, 4, none⟩ = some (.int .i64 A.l) := b1.cell 4
  have kl := b1.lt
  clear hA hB F1 F2 hn b1 b2 hB0 f1 f2 hs0
  go_enter Try.func86, Try.ntmps86
  go_upto_region 1 with fail
  rw [← HW0.out]
  go_quiet (fail)
  have I2 : ∃ i j : Nat, i ≤ j ∧ j ≤ n ∧ (Value.int .i64 0) = .int .i64 i ∧ (Value.int .i64 A.l) = .int .i64 j ∧ Hid (srch P1 i j = srch P1 0 n) ∧ Hid (∃ s t, BoxAt (w0.drewN nq) w.heap.size 109 (strC (A.cut s t))) ∧ Hid (BoxAt (w0.drewN nq) (w.heap.size + 1) 109 (strC B)) ∧ Hid (Below w.heap.size w (w0.drewN nq)) := by
    obtain ⟨i, j, h1, h2, h3, h4, h5, h6, h7, h8⟩ := I
    obtain ⟨s, t, h6⟩ := h6.out
    exact ⟨i, j, h1, h2, h3, h4, h5, Lib.hid ⟨s, t, h6⟩, Lib.hid h7.out, Lib.hid (below_drewN h8.out _)⟩
  clear I k4 kl
  generalize w0.drewN nq = w1 at *
  go_wp2
  go_loopw [6, 7] (fun iv jv wr => ∃ i j : Nat, i ≤ j ∧ j ≤ n ∧ iv = .int .i64 i ∧ jv = .int .i64 j ∧ Hid (srch P1 i j = srch P1 0 n) ∧ Hid (∃ s t, BoxAt wr w.heap.size 109 (strC (A.cut s t))) ∧ Hid (BoxAt wr (w.heap.size + 1) 109 (strC B)) ∧ Hid (Below w.heap.size w wr)) (fun iv jv _ => (intOf jv).toNat - (intOf iv).toNat)
  case atStart => exact I2
  case round =>
    clear I2
    obtain ⟨wr, rfl⟩ : ∃ x : World, x = wr := ⟨_, rfl⟩
    obtain ⟨i, j, hij, hjn, rfl, rfl, HS, HA, HBB, HX⟩ := hrel
    by_cases h : i < j
    · have h' : (i : Int) < (j : Int) := by omega
      obtain ⟨m, hm⟩ : ∃ m, m = (i + j) / 2 := ⟨_, rfl⟩
      have hmi : ((i : Int) + (j : Int)) / 2 = (m : Int) := by omega
      have hmt : ((i : Int) + (j : Int)).tdiv 2 = (m : Int) := by rw [Int.tdiv_eq_ediv_of_nonneg (by omega)]; exact hmi
      have hmj : m < j := by omega
      have him : i ≤ m := by omega
      obtain ⟨t, ht⟩ : ∃ t, t = P1 m := ⟨_, rfl⟩
      have HC := Lib.hid (HM1.out m (by omega))
      rw [HQ1.out, ← ht] at HC
      have HR : Hid ((t = true → srch P1 i m = srch P1 0 n) ∧ (t = false → srch P1 (m + 1) j = srch P1 0 n)) := by
        refine ⟨fun h1 => ?_, fun h1 => ?_⟩
        · rw [← HS.out, srch_yes h (by rw [← hm, ← ht, h1]), hm]
        · rw [← HS.out, srch_no h (by rw [← hm, ← ht, h1]), hm]
      obtain ⟨s0, t0, bA⟩ := HA.out
      obtain ⟨c0, c1, c2, c3, c4, c5, c6, c7⟩ := str_cells bA
      have z6 := bA.frozen 6
      have z7 := bA.frozen 7
      have zl := bA.lt
      clear hm ht HS
      go_upto_region 4 with fail
      have bA2 := str_set2 bA 0 (m : Int)
      have bB2 := str_other2 HBB.out (show w.heap.size + 1 ≠ w.heap.size by omega) 0 (m : Int)
      have hX2 := str_below2 HX.out (Nat.le_refl _) 0 (m : Int)
      clear c0 c1 c2 c3 c4 c5 c6 c7 z6 z7 zl hmi hmt bA HA HBB HX
      generalize (wr.setCell ⟨w.heap.size, 6, none⟩ (.int .i64 0)).setCell ⟨w.heap.size, 7, none⟩ (.int .i64 (m : Int)) = w2 at *
      change BoxAt w2 w.heap.size 109 (strC (A.cut 0 (m : Int))) at bA2
      obtain ⟨c0, c1, c2, c3, c4, c5, c6, c7⟩ := str_cells bA2
      obtain ⟨d0, d1, d2, d3, d4, d5, d6, d7⟩ := str_cells bB2
      have q1 := bA2.lt
      have q2 := bB2.lt
      have HA2 := Lib.hid bA2
      have HB2 := Lib.hid bB2
      have HX2 := Lib.hid hX2
      clear bA2 bB2 hX2
      cases t with
      | true =>
        have HR1 := Lib.hid (HR.out.1 rfl)
        clear HR
        go_wp2_with (go_at_call 85; (with_reducible refine (HC.out _).mono ?_); rintro e w3 ⟨rfl, hb3⟩; have k7 : w3.cell? ⟨w.heap.size, 7, none⟩ = some (.int .i64 (m : Int)) := (box_step HA2.out hb3).cell 7; have kl := (box_step HA2.out hb3).lt)
        go_roundw
        case rel => exact ⟨i, m, by omega, by omega, rfl, rfl, HR1, Lib.hid ⟨0, (m : Int), box_step HA2.out hb3⟩, Lib.hid (box_step HB2.out hb3), Lib.hid (below_step HX2.out hb3)⟩
        case measure => simp [intOf]; omega
      | false =>
        have HR1 := Lib.hid (HR.out.2 rfl)
        clear HR
        go_wp2_with (go_at_call 85; (with_reducible refine (HC.out _).mono ?_); rintro e w3 ⟨rfl, hb3⟩; have k7 : w3.cell? ⟨w.heap.size, 7, none⟩ = some (.int .i64 (m : Int)) := (box_step HA2.out hb3).cell 7; have kl := (box_step HA2.out hb3).lt)
        go_roundw
        case rel => exact ⟨m + 1, j, by omega, by omega, by go_num, rfl, HR1, Lib.hid ⟨0, (m : Int), box_step HA2.out hb3⟩, Lib.hid (box_step HB2.out hb3), Lib.hid (below_step HX2.out hb3)⟩
        case measure => simp [intOf]; omega
    · have h' : ¬ (i : Int) < (j : Int) := by omega
      have hs : G1 = i := by rw [HF1.out, ← HS.out]; exact srch_end (by omega)
      obtain ⟨s0, t0, bA⟩ := HA.out
      have k4 : wr.cell? ⟨w.heap.size, 4, none⟩ = some (.int .i64 A.l) := bA.cell 4
      have kl := bA.lt
      have HA1 := Lib.hid bA
      have HI := Lib.hid hs
      clear HS HM1 HQ1 HA bA hs
      go_upto_region 8 with fail
      have hfr0 : (if (1 : Int) < (i : Int) then (i : Int) - 1 else 0) = max 0 ((G1 : Int) - 1) := by rw [HI.out]; split <;> omega
      rw [hfr0]
      clear HI hfr0 HF1
      go_quiet (fail)
      have I : ∃ i j : Nat, i ≤ j ∧ j ≤ n ∧ (Value.int .i64 0) = .int .i64 (A.l - (j : Int)) ∧ (Value.int .i64 A.l) = .int .i64 (A.l - (i : Int)) ∧ Hid (srch P2 i j = srch P2 0 n) ∧ Hid (∃ s t, BoxAt (wr.drewN nq) w.heap.size 109 (strC (A.cut s t))) ∧ Hid (BoxAt (wr.drewN nq) (w.heap.size + 1) 109 (strC B)) ∧ Hid (Below w.heap.size w (wr.drewN nq)) := ⟨0, n, by omega, by omega, by rw [← HN.out]; simp, by simp, Lib.hid rfl, Lib.hid ⟨s0, t0, HA1.out⟩, Lib.hid HBB.out, Lib.hid (below_drewN HX.out _)⟩
      clear k4 kl HA1 HBB HX
      generalize wr.drewN nq = w1 at *
      go_wp2
      go_loopw [6, 7] (fun iv jv wr => ∃ i j : Nat, i ≤ j ∧ j ≤ n ∧ iv = .int .i64 (A.l - (j : Int)) ∧ jv = .int .i64 (A.l - (i : Int)) ∧ Hid (srch P2 i j = srch P2 0 n) ∧ Hid (∃ s t, BoxAt wr w.heap.size 109 (strC (A.cut s t))) ∧ Hid (BoxAt wr (w.heap.size + 1) 109 (strC B)) ∧ Hid (Below w.heap.size w wr)) (fun iv jv _ => (intOf jv - intOf iv).toNat)
      case atStart => exact I
      case round =>
        clear I
        obtain ⟨wr, rfl⟩ : ∃ x : World, x = wr := ⟨_, rfl⟩
        obtain ⟨i, j, hij, hjn, rfl, rfl, HS, HA, HBB, HX⟩ := hrel
        have hn := HN.out
        by_cases h : i < j
        · have h' : A.l - (j : Int) < A.l - (i : Int) := by omega
          obtain ⟨m, hm⟩ : ∃ m, m = (i + j) / 2 := ⟨_, rfl⟩
          have hmi : (A.l - (j : Int) + (A.l - (i : Int)) + 1) / 2 = A.l - (m : Int) := by omega
          have hmt : (A.l - (j : Int) + (A.l - (i : Int)) + 1).tdiv 2 = A.l - (m : Int) := by rw [Int.tdiv_eq_ediv_of_nonneg (by omega)]; exact hmi
          have hmj : m < j := by omega
          have him : i ≤ m := by omega
          obtain ⟨t, ht⟩ : ∃ t, t = P2 m := ⟨_, rfl⟩
          have HC := Lib.hid (HM2.out m (by omega))
          rw [HQ2.out, ← ht] at HC
          have HR : Hid ((t = true → srch P2 i m = srch P2 0 n) ∧ (t = false → srch P2 (m + 1) j = srch P2 0 n)) := by
            refine ⟨fun h1 => ?_, fun h1 => ?_⟩
            · rw [← HS.out, srch_yes h (by rw [← hm, ← ht, h1]), hm]
            · rw [← HS.out, srch_no h (by rw [← hm, ← ht, h1]), hm]
          obtain ⟨s0, t0, bA⟩ := HA.out
          obtain ⟨c0, c1, c2, c3, c4x, c5, c6, c7⟩ := str_cells bA
          have z6 := bA.frozen 6
          have z7 := bA.frozen 7
          have zl := bA.lt
          have c4 : wr.cell? ⟨w.heap.size, 4, none⟩ = some (.int .i64 A.l) := c4x
          clear c4x
          clear hm ht HS
          go_upto_region 11 with fail
          have bA2 := str_set2 bA (A.l - (m : Int)) A.l
          have bB2 := str_other2 HBB.out (show w.heap.size + 1 ≠ w.heap.size by omega) (A.l - (m : Int)) A.l
          have hX2 := str_below2 HX.out (Nat.le_refl _) (A.l - (m : Int)) A.l
          clear c0 c1 c2 c3 c4 c5 c6 c7 z6 z7 zl hmi hmt bA HA HBB HX
          generalize (wr.setCell ⟨w.heap.size, 6, none⟩ (.int .i64 (A.l - (m : Int)))).setCell ⟨w.heap.size, 7, none⟩ (.int .i64 A.l) = w2 at *
          change BoxAt w2 w.heap.size 109 (strC (A.cut (A.l - (m : Int)) A.l)) at bA2
          obtain ⟨c0, c1, c2, c3, c4, c5, c6, c7⟩ := str_cells bA2
          obtain ⟨d0, d1, d2, d3, d4, d5, d6, d7⟩ := str_cells bB2
          have q1 := bA2.lt
          have q2 := bB2.lt
          have HA2 := Lib.hid bA2
          have HB2 := Lib.hid bB2
          have HX2 := Lib.hid hX2
          clear bA2 bB2 hX2
          cases t with
          | true =>
            have HR1 := Lib.hid (HR.out.1 rfl)
            clear HR
            go_wp2_with (go_at_call 85; (with_reducible refine (HC.out _).mono ?_); rintro e w3 ⟨rfl, hb3⟩; have k7 : w3.cell? ⟨w.heap.size, 6, none⟩ = some (.int .i64 (A.l - (m : Int))) := (box_step HA2.out hb3).cell 6; have kl := (box_step HA2.out hb3).lt)
            go_roundw
            case rel => exact ⟨i, m, by omega, by omega, rfl, rfl, HR1, Lib.hid ⟨_, _, box_step HA2.out hb3⟩, Lib.hid (box_step HB2.out hb3), Lib.hid (below_step HX2.out hb3)⟩
            case measure => simp [intOf]; omega
          | false =>
            have HR1 := Lib.hid (HR.out.2 rfl)
            clear HR
            go_wp2_with (go_at_call 85; (with_reducible refine (HC.out _).mono ?_); rintro e w3 ⟨rfl, hb3⟩; have k7 : w3.cell? ⟨w.heap.size, 6, none⟩ = some (.int .i64 (A.l - (m : Int))) := (box_step HA2.out hb3).cell 6; have kl := (box_step HA2.out hb3).lt)
            go_roundw
            case rel => exact ⟨m + 1, j, by omega, by omega, rfl, congrArg (Value.int .i64) (by omega), HR1, Lib.hid ⟨_, _, box_step HA2.out hb3⟩, Lib.hid (box_step HB2.out hb3), Lib.hid (below_step HX2.out hb3)⟩
            case measure => simp [intOf]; omega
        · have h' : ¬ A.l - (j : Int) < A.l - (i : Int) := by omega
          have hs : G2 = j := by rw [HF2.out, ← HS.out, srch_end (by omega)]; omega
          obtain ⟨s0, t0, bA⟩ := HA.out
          have k4 : wr.cell? ⟨w.heap.size, 4, none⟩ = some (.int .i64 A.l) := bA.cell 4
          have kl := bA.lt
          have HI := Lib.hid hs
          clear HS HM2 HQ2 HA bA hs
          go_upto_region 14 with fail
          go_quiet (fail)
          have HXE := Lib.hid (below_drewN HX.out nq)
          generalize wr.drewN nq = we at *
          go_wp2
          all_goals have hg := HI.out
          all_goals exact bodyPost_ret (v := .tuple #[.int .i64 (max 0 ((G1 : Int) - 1)), .int .i64 (min A.l (A.l - (G2 : Int) + 1))]) (by simp [results, Try.results86, go_sem] <;> omega) rfl ⟨rfl, HXE.out⟩
end Go.Proofs.Ytglkpabcflecmaa
