/- The walk of the law CurveKnown. -/
import Derived.Test.YtglkpabcflecmaaKnoC
import Derived.StillTailTactics
namespace Go.Proofs.Ytglkpabcflecmaa
open Go.RowKit Go.Shelf

theorem lst_alloc {W : World} {A : Option Addr} {m : Nat} {f : Nat → Int} {o : Obj} (h : Lst W A m f) : Lst (W.alloc o) A m f := h.below ((Below.refl _ W).alloc (Nat.le_refl _) o)
theorem qs_alloc {W : World} {R : Option Addr} {L : List Quad} {o : Obj} (h : Qs W R L) : Qs (W.alloc o) R L := h.below ((Below.refl _ W).alloc (Nat.le_refl _) o)

theorem pts_alloc' {W : World} {g off n : Nat} {X Y : Nat → Int} {o : Obj} (hp : Pts W g off n X Y) (hn : 0 < n) : Pts (W.alloc o) g off n X Y := hp.below ((Below.refl _ W).alloc (Nat.le_refl _) o) (hp.lt hn)
theorem pts_drew' {W : World} {g off n : Nat} {X Y : Nat → Int} (hp : Pts W g off n X Y) : Pts W.drew g off n X Y := hp
theorem box_set1' {W : World} {g : Nat} {v : Value} (h : BoxAt W g 24 #[.slice none 0 0]) : BoxAt (W.setCell ⟨g, 0, none⟩ v) g 24 #[v] := h.set 0 _
theorem pts_set1' {W : World} {g off n h : Nat} {X Y : Nat → Int} {v : Value} (hp : Pts W g off n X Y) (hne : g ≠ h) : Pts (W.setCell ⟨h, 0, none⟩ v) g off n X Y := fun i hi =>
  ⟨(World.cell?_of_block (Below.heap_setCell _ _ _ _ hne)).trans (hp i hi).1, (World.cell?_of_block (Below.heap_setCell _ _ _ _ hne)).trans (hp i hi).2⟩
theorem pts_step1' {W W' : World} {g off n : Nat} {X Y : Nat → Int} (hp : Pts W g off n X Y) (hn : 0 < n) (hb : Below W.heap.size W W') : Pts W' g off n X Y := hp.below hb (hp.lt hn)
theorem box_at {W : World} {b : Nat} (h : b = W.heap.size) (t : TypeId) (cs : Array Value) : BoxAt (W.alloc (.cells cs t)) b t cs := by subst h; exact BoxAt.new W t cs
theorem box_newd (W : World) (t : TypeId) (cs : Array Value) : BoxAt (W.alloc (.cells cs t)).drew W.heap.size t cs := BoxAt.new W t cs
theorem pts_step2 {W W' : World} {o : Obj} {g off n : Nat} {X Y : Nat → Int} (hp : Pts W g off n X Y) (hn : 0 < n) (hb : Below (W.alloc o).heap.size (W.alloc o) W') : Pts W' g off n X Y :=
  (hp.below ((Below.refl _ W).alloc (Nat.le_refl _) o) (hp.lt hn)).below hb (by have := hp.lt hn; simp; omega)

set_option maxRecDepth 100000 in
set_option maxHeartbeats 8000000 in
theorem known_walk (w : World) : Calls Try.prog 9 #[] w fun e w' => e = .returned (.bool true) ∧ Below w.heap.size w w' := by
  have hB := Below.refl w.heap.size w
  go_enter Try.func9, Try.ntmps9
  go_upto_region 2 with (go_at_call 54; (with_reducible refine (bent_any _).mono ?_); rintro e w1 ⟨g, c', rfl, hp, hb1, hg⟩; replace hB := below_step hB hb1)
  have lg := hp.lt (by decide)
  have qe := BoxAt.new w1 24 #[.slice (some ⟨g, 0, none⟩) 3 c']
  have hb2 : Below w1.heap.size w1 (w1.alloc (.cells #[.slice (some ⟨g, 0, none⟩) 3 c'] 24)) := (Below.refl _ _).alloc (Nat.le_refl _) _
  have HP := Lib.hid (hp.below hb2 lg)
  replace hB := below_step hB hb2
  obtain ⟨Le, hLe⟩ : ∃ z, z = w1.heap.size := ⟨_, rfl⟩
  rw [← hLe] at qe ⊢
  clear hLe hp hb1 hb2 hg lg
  generalize w1.alloc (.cells #[.slice (some ⟨g, 0, none⟩) 3 c'] 24) = w2 at *
  have HE : Hid (∀ W, Below w2.heap.size w2 W → W.cell? ⟨Le, 0, none⟩ = some (.slice (some ⟨g, 0, none⟩) 3 c') ∧ Le < W.heap.size ∧ Pts W g 0 3 BX BY) := Lib.hid (fun W hW => ⟨(box_step qe hW).cell 0, (box_step qe hW).lt, HP.out.below hW (HP.out.lt (by decide))⟩)
  have HB2 := Lib.hid hB
  have hBx := Below.refl w2.heap.size w2
  have k2 := (HE.out _ hBx).1
  have l2 := (HE.out _ hBx).2.1
  clear hB qe HP
  go_upto_region 4 with (first
    | (go_at_call 18; (with_reducible refine (awake_any _).mono ?_); rintro e w3 ⟨rfl, hb3⟩; replace hBx := below_step hBx hb3; have k3 := (HE.out _ hBx).1; have l3 := (HE.out _ hBx).2.1)
    | (go_at_call 20; (with_reducible refine (chk_B _ _ _ (HE.out _ hBx).2.2).mono ?_); rintro e w4 ⟨rfl, hb4⟩; replace hBx := below_step hBx hb4; have k4 := (HE.out _ hBx).1; have l4 := (HE.out _ hBx).2.1)
    | (go_at_call 25; (with_reducible refine (pcs_B _ _ _ (HE.out _ hBx).2.2).mono ?_); rintro e w5 ⟨R5, c5, rfl, hl5, hb5⟩; replace hBx := below_step hBx hb5; have k5 := (HE.out _ hBx).1; have l5 := (HE.out _ hBx).2.1)
    | (go_at_call 24; (with_reducible refine (same_55 _ _ _ _ _ (lst_alloc hl5) (BoxAt.new _ 2 _)).mono ?_); rintro e w6 ⟨rfl, hb6⟩; replace hBx := below_step2 hBx hb6; have k6 := (HE.out _ hBx).1; have l6 := (HE.out _ hBx).2.1)
    | (go_at_call 55; (with_reducible refine (of_k1 _ _ _ (BoxAt.new _ 2 _)).mono ?_); rintro e w7 ⟨g7, c7, rfl, hp7, hb7, hg7, hc7⟩; replace hBx := below_step2 hBx hb7; have k7 := (HE.out _ hBx).1; have l7 := (HE.out _ hBx).2.1)
    | (go_at_call 20; (with_reducible refine (chk_k1 _ _ _ hp7).mono ?_); rintro e w8 ⟨rfl, hb8⟩; replace hBx := below_step hBx hb8; have k8 := (HE.out _ hBx).1; have l8 := (HE.out _ hBx).2.1)
    | (go_at_call 55; (with_reducible refine (of_k2 _ _ _ (BoxAt.new _ 2 _)).mono ?_); rintro e w9 ⟨g9, c9, rfl, hp9, hb9, hg9, hc9⟩; replace hBx := below_step2 hBx hb9; have k9 := (HE.out _ hBx).1; have l9 := (HE.out _ hBx).2.1)
    | (go_at_call 20; (with_reducible refine (chk_k2 _ _ _ hp9).mono ?_); rintro e w10 ⟨rfl, hb10⟩; replace hBx := below_step hBx hb10; have k10 := (HE.out _ hBx).1; have l10 := (HE.out _ hBx).2.1)
    | (go_at_call 55; (with_reducible refine (of_k3 _ _ _ (BoxAt.new _ 2 _)).mono ?_); rintro e w11 ⟨g11, c11, rfl, hp11, hb11, hg11, hc11⟩; replace hBx := below_step2 hBx hb11; have k11 := (HE.out _ hBx).1; have l11 := (HE.out _ hBx).2.1)
    | (go_at_call 20; (with_reducible refine (chk_k3 _ _ _ hp11).mono ?_); rintro e w12 ⟨rfl, hb12⟩; replace hBx := below_step hBx hb12; have k12 := (HE.out _ hBx).1; have l12 := (HE.out _ hBx).2.1))
  clear k2 l2 k3 l3 k4 l4 k5 l5 k6 l6 k7 l7 k8 l8 k9 l9 k10 l10 k11 l11 hb3 hb4 hb5 hb6 hb7 hb8 hb9 hb10 hb11 hb12 hp7 hp9 hp11 hl5 hg7 hg9 hg11 hc7 hc9 hc11
  go_upto_region 9 with (first
    | (go_at_call 29; (with_reducible refine (pc_1 _ _ _ (HE.out _ hBx).2.2).mono ?_); rintro e w13 ⟨rfl, hb13⟩; replace hBx := below_step hBx hb13; have k13 := (HE.out _ hBx).1; have l13 := (HE.out _ hBx).2.1)
    | (go_at_call 29; (with_reducible refine (pc_2 _ _ _ (HE.out _ hBx).2.2).mono ?_); rintro e w14 ⟨rfl, hb14⟩; replace hBx := below_step hBx hb14; have k14 := (HE.out _ hBx).1; have l14 := (HE.out _ hBx).2.1)
    | (go_at_call 29; (with_reducible refine (pc_3 _ _ _ (HE.out _ hBx).2.2).mono ?_); rintro e w15 ⟨rfl, hb15⟩; replace hBx := below_step hBx hb15; have k15 := (HE.out _ hBx).1; have l15 := (HE.out _ hBx).2.1)
    | (go_at_call 31; (with_reducible refine (at_1 _ _ _ (HE.out _ hBx).2.2).mono ?_); rintro e w16 ⟨rfl, hb16⟩; replace hBx := below_step hBx hb16; have k16 := (HE.out _ hBx).1; have l16 := (HE.out _ hBx).2.1)
    | (go_at_call 31; (with_reducible refine (at_2 _ _ _ (HE.out _ hBx).2.2).mono ?_); rintro e w17 ⟨rfl, hb17⟩; replace hBx := below_step hBx hb17; have k17 := (HE.out _ hBx).1; have l17 := (HE.out _ hBx).2.1)
    | (go_at_call 31; (with_reducible refine (at_3 _ _ _ (HE.out _ hBx).2.2).mono ?_); rintro e w18 ⟨rfl, hb18⟩; replace hBx := below_step hBx hb18; have k18 := (HE.out _ hBx).1; have l18 := (HE.out _ hBx).2.1))
  clear k12 l12 k13 l13 k14 l14 k15 l15 k16 l16 k17 l17 hb13 hb14 hb15 hb16 hb17 hb18
  have HB18 := Lib.hid (below_step HB2.out hBx)
  go_upto_region 10 with fail
  have qo := BoxAt.new w18 43 #[.int .i64 0, .int .i64 0]
  have hb2 : Below w18.heap.size w18 (w18.alloc (.cells #[.int .i64 0, .int .i64 0] 43)) := (Below.refl _ _).alloc (Nat.le_refl _) _
  have HE2 : Hid (∀ W, Below (w18.alloc (.cells #[.int .i64 0, .int .i64 0] 43)).heap.size (w18.alloc (.cells #[.int .i64 0, .int .i64 0] 43)) W → W.cell? ⟨Le, 0, none⟩ = some (.slice (some ⟨g, 0, none⟩) 3 c') ∧ Le < W.heap.size ∧ Pts W g 0 3 BX BY) := Lib.hid (fun W hW => HE.out W (below_step hBx (below_step hb2 hW)))
  have HBN := Lib.hid (below_step HB18.out hb2)
  obtain ⟨Lo, hLo⟩ : ∃ z, z = w18.heap.size := ⟨_, rfl⟩
  rw [← hLo] at qo ⊢
  clear hLo hb2 HB18 hBx HE HB2
  generalize w18.alloc (.cells #[.int .i64 0, .int .i64 0] 43) = w19 at *
  have HO : Hid (∀ W, Below w19.heap.size w19 W → W.cell? ⟨Le, 0, none⟩ = some (.slice (some ⟨g, 0, none⟩) 3 c') ∧ Le < W.heap.size ∧ Pts W g 0 3 BX BY ∧ W.cell? ⟨Lo, 0, none⟩ = some (.int .i64 0) ∧ W.cell? ⟨Lo, 1, none⟩ = some (.int .i64 0) ∧ Lo < W.heap.size) := Lib.hid (fun W hW => ⟨(HE2.out W hW).1, (HE2.out W hW).2.1, (HE2.out W hW).2.2, (box_step qo hW).cell 0, (box_step qo hW).cell 1, (box_step qo hW).lt⟩)
  have hBx := Below.refl w19.heap.size w19
  obtain ⟨k19, l19, _, m19, n19, o19⟩ := HO.out _ hBx
  clear HE2 qo
  go_upto_region 12 with (first
    | (go_at_call 37; (with_reducible refine (side_1 _).mono ?_); rintro e w20 ⟨rfl, hb20⟩; replace hBx := below_step hBx hb20; obtain ⟨k20, l20, _, m20, n20, o20⟩ := HO.out _ hBx)
    | (go_at_call 39; (with_reducible refine (dist_1 _).mono ?_); rintro e w21 ⟨rfl, hb21⟩; replace hBx := below_step hBx hb21; obtain ⟨k21, l21, _, m21, n21, o21⟩ := HO.out _ hBx)
    | (go_at_call 41; (with_reducible refine (blk_1 _).mono ?_); rintro e w22 ⟨rfl, hb22⟩; replace hBx := below_step hBx hb22; obtain ⟨k22, l22, _, m22, n22, o22⟩ := HO.out _ hBx)
    | (go_at_call 41; (with_reducible refine (blk_2 _).mono ?_); rintro e w23 ⟨rfl, hb23⟩; replace hBx := below_step hBx hb23; obtain ⟨k23, l23, _, m23, n23, o23⟩ := HO.out _ hBx)
    | (go_at_call 43; (with_reducible refine (sees_1 _).mono ?_); rintro e w24 ⟨rfl, hb24⟩; replace hBx := below_step hBx hb24; obtain ⟨k24, l24, _, m24, n24, o24⟩ := HO.out _ hBx)
    | (go_at_call 43; (with_reducible refine (sees_2 _).mono ?_); rintro e w25 ⟨rfl, hb25⟩; replace hBx := below_step hBx hb25; obtain ⟨k25, l25, _, m25, n25, o25⟩ := HO.out _ hBx))
  clear k19 l19 m19 n19 o19 k20 l20 m20 n20 o20 k21 l21 m21 n21 o21 k22 l22 m22 n22 o22 k23 l23 m23 n23 o23 k24 l24 m24 n24 o24 hb20 hb21 hb22 hb23 hb24 hb25
  go_upto_region 13 with fail
  have qp := BoxAt.new w25 43 #[.int .i64 4000, .int .i64 5000]
  have hb2 : Below w25.heap.size w25 (w25.alloc (.cells #[.int .i64 4000, .int .i64 5000] 43)) := (Below.refl _ _).alloc (Nat.le_refl _) _
  have HE2 : Hid (∀ W, Below (w25.alloc (.cells #[.int .i64 4000, .int .i64 5000] 43)).heap.size (w25.alloc (.cells #[.int .i64 4000, .int .i64 5000] 43)) W → W.cell? ⟨Le, 0, none⟩ = some (.slice (some ⟨g, 0, none⟩) 3 c') ∧ Le < W.heap.size ∧ Pts W g 0 3 BX BY) := Lib.hid (fun W hW => ⟨(HO.out W (below_step hBx (below_step hb2 hW))).1, (HO.out W (below_step hBx (below_step hb2 hW))).2.1, (HO.out W (below_step hBx (below_step hb2 hW))).2.2.1⟩)
  have HBP := Lib.hid (below_step HBN.out (below_step hBx hb2))
  obtain ⟨Lp, hLp⟩ : ∃ z, z = w25.heap.size := ⟨_, rfl⟩
  rw [← hLp] at qp ⊢
  clear hLp hb2 HBN hBx HO k25 l25 m25 n25 o25
  generalize w25.alloc (.cells #[.int .i64 4000, .int .i64 5000] 43) = w26 at *
  have HO : Hid (∀ W, Below w26.heap.size w26 W → W.cell? ⟨Le, 0, none⟩ = some (.slice (some ⟨g, 0, none⟩) 3 c') ∧ Le < W.heap.size ∧ Pts W g 0 3 BX BY ∧ W.cell? ⟨Lp, 0, none⟩ = some (.int .i64 4000) ∧ W.cell? ⟨Lp, 1, none⟩ = some (.int .i64 5000) ∧ Lp < W.heap.size) := Lib.hid (fun W hW => ⟨(HE2.out W hW).1, (HE2.out W hW).2.1, (HE2.out W hW).2.2, (box_step qp hW).cell 0, (box_step qp hW).cell 1, (box_step qp hW).lt⟩)
  have hBx := Below.refl w26.heap.size w26
  obtain ⟨k26, l26, _, m26, n26, o26⟩ := HO.out _ hBx
  clear HE2 qp
  go_upto_region 14 with (first
    | (go_at_call 33; (with_reducible refine (near_1 _ _ _ (HO.out _ hBx).2.2.1).mono ?_); rintro e w27 ⟨R27, c27, rfl, hl27, hb27⟩; replace hBx := below_step hBx hb27; obtain ⟨k27, l27, _, m27, n27, o27⟩ := HO.out _ hBx)
    | (go_at_call 24; (with_reducible refine (same_6 _ _ _ _ _ (lst_alloc hl27) (BoxAt.new _ 2 _)).mono ?_); rintro e w28 ⟨rfl, hb28⟩; replace hBx := below_step2 hBx hb28; obtain ⟨k28, l28, _, m28, n28, o28⟩ := HO.out _ hBx)
    | (go_at_call 33; (with_reducible refine (near_2 _ _ _ (HO.out _ hBx).2.2.1).mono ?_); rintro e w29 ⟨R29, c29, rfl, hl29, hb29⟩; replace hBx := below_step hBx hb29; obtain ⟨k29, l29, _, m29, n29, o29⟩ := HO.out _ hBx)
    | (go_at_call 24; (with_reducible refine (same_55 _ _ _ _ _ (lst_alloc hl29) (BoxAt.new _ 2 _)).mono ?_); rintro e w30 ⟨rfl, hb30⟩; replace hBx := below_step2 hBx hb30; obtain ⟨k30, l30, _, m30, n30, o30⟩ := HO.out _ hBx)
    | (go_at_call 33; (with_reducible refine (near_3 _ _ _ (HO.out _ hBx).2.2.1).mono ?_); rintro e w31 ⟨R31, c31, rfl, hb31⟩; replace hBx := below_step hBx hb31; obtain ⟨k31, l31, _, m31, n31, o31⟩ := HO.out _ hBx)
    | (go_at_call 35; (with_reducible refine (hold_1 _ _ _ (HO.out _ hBx).2.2.1).mono ?_); rintro e w32 ⟨rfl, hb32⟩; replace hBx := below_step hBx hb32; obtain ⟨k32, l32, _, m32, n32, o32⟩ := HO.out _ hBx)
    | (go_at_call 35; (with_reducible refine (hold_2 _ _ _ (HO.out _ hBx).2.2.1).mono ?_); rintro e w33 ⟨rfl, hb33⟩; replace hBx := below_step hBx hb33; obtain ⟨k33, l33, _, m33, n33, o33⟩ := HO.out _ hBx))
  clear k26 l26 m26 n26 o26 k27 l27 m27 n27 o27 k28 l28 m28 n28 o28 k29 l29 m29 n29 o29 k30 l30 m30 n30 o30 k31 l31 m31 n31 o31 k32 l32 m32 n32 o32 k33 l33 m33 n33 o33 hb27 hb28 hb29 hb30 hb31 hb32 hb33 hl27 hl29
  have HB33 := Lib.hid (below_step HBP.out hBx)
  clear HBP HO hBx
  have hBx := Below.refl w33.heap.size w33
  go_upto_region 15 with (first
    | (go_at_call 55; (with_reducible refine (of_kA _ _ _ (BoxAt.new _ 2 _)).mono ?_); rintro e w34 ⟨g34, c34, rfl, hp34, hb34, hg34, hc34⟩; replace hBx := below_step2 hBx hb34; have HA34 := Lib.hid hp34)
    | (go_at_call 55; (with_reducible refine (of_kB _ _ _ (BoxAt.new _ 2 _)).mono ?_); rintro e w35 ⟨g35, c35, rfl, hp35, hb35, hg35, hc35⟩; replace hBx := below_step2 hBx hb35; have HA35 := Lib.hid (pts_step2 HA34.out (by decide) hb35); have HB35 := Lib.hid hp35)
    | (go_at_call 55; (with_reducible refine (of_kD _ _ _ (BoxAt.new _ 2 _)).mono ?_); rintro e w36 ⟨g36, c36, rfl, hp36, hb36, hg36, hc36⟩; replace hBx := below_step2 hBx hb36; have HA36 := Lib.hid (pts_step2 HA35.out (by decide) hb36); have HB36 := Lib.hid (pts_step2 HB35.out (by decide) hb36); have HD36 := Lib.hid hp36))
  have e1 := BoxAt.new w36 24 #[.slice (some ⟨g34, 0, none⟩) 2 c34]
  have e2 := BoxAt.new (w36.alloc (.cells #[.slice (some ⟨g34, 0, none⟩) 2 c34] 24)) 24 #[.slice (some ⟨g35, 0, none⟩) 2 c35]
  have e3 := BoxAt.new ((w36.alloc (.cells #[.slice (some ⟨g34, 0, none⟩) 2 c34] 24)).alloc (.cells #[.slice (some ⟨g35, 0, none⟩) 2 c35] 24)) 24 #[.slice (some ⟨g36, 0, none⟩) 2 c36]
  simp only [World.size_alloc] at e2 e3
  replace e1 := (e1.alloc (.cells #[.slice (some ⟨g35, 0, none⟩) 2 c35] 24)).alloc (.cells #[.slice (some ⟨g36, 0, none⟩) 2 c36] 24)
  replace e2 := e2.alloc (.cells #[.slice (some ⟨g36, 0, none⟩) 2 c36] 24)
  have hb2 : Below w36.heap.size w36 (((w36.alloc (.cells #[.slice (some ⟨g34, 0, none⟩) 2 c34] 24)).alloc (.cells #[.slice (some ⟨g35, 0, none⟩) 2 c35] 24)).alloc (.cells #[.slice (some ⟨g36, 0, none⟩) 2 c36] 24)) := (((Below.refl _ _).alloc (Nat.le_refl _) _).alloc (by simp) _).alloc (by simp; omega) _
  have HBW := Lib.hid (below_step HB33.out (below_step hBx hb2))
  have PA := Lib.hid (pts_step1' HA36.out (by decide) hb2)
  have PB := Lib.hid (pts_step1' HB36.out (by decide) hb2)
  have PD := Lib.hid (pts_step1' HD36.out (by decide) hb2)
  obtain ⟨La, hLa⟩ : ∃ z, z = w36.heap.size := ⟨_, rfl⟩
  rw [← hLa] at e1 e2 e3 ⊢
  obtain ⟨Lb, hLb⟩ : ∃ z, z = La + 1 := ⟨_, rfl⟩
  rw [← hLb] at e2 e3 ⊢
  obtain ⟨Ld, hLd⟩ : ∃ z, z = Lb + 1 := ⟨_, rfl⟩
  rw [← hLd] at e3 ⊢
  clear hLa hLb hLd hb2 hBx HB33 HA34 HA35 HA36 HB35 HB36 HD36 hp34 hp35 hp36 hb34 hb35 hb36 hg34 hg35 hg36
  generalize ((w36.alloc (.cells #[.slice (some ⟨g34, 0, none⟩) 2 c34] 24)).alloc (.cells #[.slice (some ⟨g35, 0, none⟩) 2 c35] 24)).alloc (.cells #[.slice (some ⟨g36, 0, none⟩) 2 c36] 24) = w37 at *
  have HO : Hid (∀ W, Below w37.heap.size w37 W → W.cell? ⟨La, 0, none⟩ = some (.slice (some ⟨g34, 0, none⟩) 2 c34) ∧ W.cell? ⟨Lb, 0, none⟩ = some (.slice (some ⟨g35, 0, none⟩) 2 c35) ∧ W.cell? ⟨Ld, 0, none⟩ = some (.slice (some ⟨g36, 0, none⟩) 2 c36) ∧ La < W.heap.size ∧ Lb < W.heap.size ∧ Ld < W.heap.size ∧ Pts W g34 0 2 kA.X kA.Y ∧ Pts W g35 0 2 kB.X kB.Y ∧ Pts W g36 0 2 kD.X kD.Y) := Lib.hid (fun W hW => ⟨(box_step e1 hW).cell 0, (box_step e2 hW).cell 0, (box_step e3 hW).cell 0, (box_step e1 hW).lt, (box_step e2 hW).lt, (box_step e3 hW).lt, pts_step1' PA.out (by decide) hW, pts_step1' PB.out (by decide) hW, pts_step1' PD.out (by decide) hW⟩)
  have hBx := Below.refl w37.heap.size w37
  obtain ⟨i37, j37, k37, l37, m37, n37, _⟩ := HO.out _ hBx
  clear e1 e2 e3 PA PB PD
  go_upto_region 16 with (first
    | (go_at_call 46; (with_reducible refine (crs_1 _ _ _ _ _ (HO.out _ hBx).2.2.2.2.2.2.1 (HO.out _ hBx).2.2.2.2.2.2.2.1).mono ?_); rintro e w38 ⟨R38, c38, rfl, hq38, hb38⟩; replace hBx := below_step hBx hb38; obtain ⟨i38, j38, k38, l38, m38, n38, _⟩ := HO.out _ hBx)
    | (go_at_call 45; (with_reducible refine (same_q ⟨4499, 5501, 3999, 6001⟩ _ _ _ _ _ (qs_alloc hq38) (BoxAt.new _ 66 _)).mono ?_); rintro e w39 ⟨rfl, hb39⟩; replace hBx := below_step2 hBx hb39; obtain ⟨i39, j39, k39, l39, m39, n39, _⟩ := HO.out _ hBx)
    | (go_at_call 46; (with_reducible refine (crs_2 _ _ _ _ _ (HO.out _ hBx).2.2.2.2.2.2.1 (HO.out _ hBx).2.2.2.2.2.2.2.2).mono ?_); rintro e w40 ⟨R40, c40, rfl, hq40, hb40⟩; replace hBx := below_step hBx hb40; obtain ⟨i40, j40, k40, l40, m40, n40, _⟩ := HO.out _ hBx)
    | (go_at_call 45; (with_reducible refine (same_q ⟨0, 10000, 0, 10000⟩ _ _ _ _ _ (qs_alloc hq40) (BoxAt.new _ 66 _)).mono ?_); rintro e w41 ⟨rfl, hb41⟩; replace hBx := below_step2 hBx hb41; obtain ⟨i41, j41, k41, l41, m41, n41, _⟩ := HO.out _ hBx)
    | (go_at_call 46; (with_reducible refine (crs_3 _ _ _ _ _ (HO.out _ hBx).2.2.2.2.2.2.1 (HO.out _ hBx).2.2.2.2.2.2.2.2).mono ?_); rintro e w42 ⟨R42, c42, rfl, hb42⟩; replace hBx := below_step hBx hb42; obtain ⟨i42, j42, k42, l42, m42, n42, _⟩ := HO.out _ hBx))
  clear i37 j37 k37 l37 m37 n37 i38 j38 k38 l38 m38 n38 i39 j39 k39 l39 m39 n39 i40 j40 k40 l40 m40 n40 i41 j41 k41 l41 m41 n41 hb38 hb39 hb40 hb41 hb42 hq38 hq40
  have HB42 := Lib.hid (below_step HBW.out hBx)
  have HO2 : Hid (∀ W, Below w42.heap.size w42 W → W.cell? ⟨La, 0, none⟩ = some (.slice (some ⟨g34, 0, none⟩) 2 c34) ∧ W.cell? ⟨Lb, 0, none⟩ = some (.slice (some ⟨g35, 0, none⟩) 2 c35) ∧ La < W.heap.size ∧ Lb < W.heap.size ∧ Pts W g34 0 2 kA.X kA.Y ∧ Pts W g35 0 2 kB.X kB.Y) := Lib.hid (fun W hW => by
    obtain ⟨y1, y2, _, y3, y4, _, y5, y6, _⟩ := HO.out W (below_step hBx hW)
    exact ⟨y1, y2, y3, y4, y5, y6⟩)
  have k0 : w42.cell? ⟨La, 0, none⟩ = some (.slice (some ⟨g34, 0, none⟩) 2 c34) := (HO2.out _ (Below.refl _ _)).1
  have l0 := (HO2.out _ (Below.refl _ _)).2.2.1
  clear HO HBW hBx i42 j42 k42 l42 m42 n42
  go_cut [19, 20] from 203 to 209 (fun v v2 w' => ∃ Lj gj cj, v = .pointer (some ⟨Lj, 0, none⟩) ∧ v2 = .int .i64 0 ∧ BoxAt w' Lj 24 #[.slice (some ⟨gj, 0, none⟩) 3 cj] ∧ Pts w' gj 0 3 (jn kA kE).X (jn kA kE).Y ∧ Below w42.heap.size w42 w')
  case first =>
    go_region_held3 (fun w' => w'.cell? ⟨La, 0, none⟩ = some (.slice (some ⟨g34, 0, none⟩) 2 c34))
      (first | exact (HO2.out _ (by (repeat (first | (with_reducible exact Below.refl _ _) | ((with_reducible refine bset ?_ ?_ _); (first | exact Nat.le_refl _ | omega | (simp; omega) | simp)) | ((with_reducible refine balloc ?_ ?_ _); (first | exact Nat.le_refl _ | omega | (simp; omega) | simp)) | (with_reducible refine Below.drew ?_) | (with_reducible refine below_step ?_ hb4) | (with_reducible refine below_step ?_ hb3))))).1 | go_keep)
      (first
        | (go_at_call 55; (with_reducible refine (of_kE _ _ _ ?_).mono ?_); (repeat (first | (with_reducible exact box_at (by simp) _ _) | (with_reducible refine BoxAt.drew ?_) | (with_reducible refine BoxAt.alloc ?_ _))); rintro e w3 ⟨g3, c3, rfl, hp3, hb3, hg3, hc3⟩; have HP3 := Lib.hid hp3; have lp3 := hp3.lt (by decide); clear hp3; have hz3 := hb3.size; (try simp at hz3); (try simp at hg3); obtain ⟨hc3', hf3⟩ := bcell hb3; (have y3 : w42.heap.size ≤ w3.heap.size := by omega); (have y4 : w42.heap.size < w3.heap.size + 1 := by omega); (try have y5 : w42.heap.size < w3.heap.size := by omega); (try have y6 : w42.heap.size + 1 < w3.heap.size := by omega); (try have y7 : w42.heap.size + 1 < w3.heap.size + 1 := by omega))
        | (go_at_call 49; (with_reducible refine (join_1 _ _ _ _ _ (HO2.out _ ?_).2.2.2.2.1 ?_ hc3).mono ?_); ((repeat (first | (with_reducible exact Below.refl _ _) | ((with_reducible refine bset ?_ ?_ _); (first | exact Nat.le_refl _ | omega | (simp; omega) | simp)) | ((with_reducible refine balloc ?_ ?_ _); (first | exact Nat.le_refl _ | omega | (simp; omega) | simp)) | (with_reducible refine Below.drew ?_) | (with_reducible refine below_step ?_ hb4) | (with_reducible refine below_step ?_ hb3)))); (repeat (first | (with_reducible exact HP3.out) | (with_reducible refine pts_alloc' ?_ (by decide)) | (with_reducible refine pts_drew' ?_))); rintro e w4 ⟨g4, c4, rfl, hp4, hb4, hg4⟩; have HP4 := Lib.hid hp4; have lp4 := hp4.lt (by decide); clear hp4; have hz4 := hb4.size; (try simp at hz4); (try simp at hg4); obtain ⟨hc4', hf4⟩ := bcell hb4; (have x3 : w42.heap.size ≤ w4.heap.size := by omega); (have x4 : w42.heap.size < w4.heap.size + 1 := by omega); (try have x5 : w42.heap.size < w4.heap.size := by omega); (try have x6 : w3.heap.size < w4.heap.size := by omega); (try have x7 : w3.heap.size < w4.heap.size + 1 := by omega); (try have x8 : w42.heap.size + 1 < w4.heap.size := by omega)))
    all_goals go_wp2
    all_goals go_meet
    all_goals (refine ⟨_, g4, c4, rfl, rfl, ?_, ?_, ?_⟩)
    all_goals (repeat (first
      | (with_reducible exact HP4.out)
      | (with_reducible exact box_at (by simp) _ _)
      | (with_reducible refine box_set1' ?_)
      | (with_reducible refine box_step ?_ hb4)
      | (with_reducible refine box_step ?_ hb3)
      | (with_reducible refine BoxAt.alloc ?_ _)
      | (with_reducible refine BoxAt.drew ?_)
      | (with_reducible refine pts_set1' ?_ (by omega))
      | (with_reducible refine pts_alloc' ?_ (by decide))
      | (with_reducible refine pts_drew' ?_)
      | (with_reducible exact Below.refl _ _)
      | (with_reducible refine bset ?_ ?_ _; (first | exact Nat.le_refl _ | omega | (simp; omega) | simp))
      | (with_reducible refine balloc ?_ ?_ _; (first | exact Nat.le_refl _ | omega | (simp; omega) | simp))
      | (with_reducible refine Below.drew ?_)
      | (with_reducible refine below_step ?_ hb4)
      | (with_reducible refine below_step ?_ hb3)))
  case rest =>
    obtain ⟨wk, rfl⟩ : ∃ x : World, x = wc := ⟨_, rfl⟩
    obtain ⟨Lj, gj, cj, rfl, rfl, qj, pj, hbj⟩ := hcut
    have HBK := Lib.hid (below_step HB42.out hbj)
    have HJ : Hid (∀ W, Below wk.heap.size wk W → W.cell? ⟨Lj, 0, none⟩ = some (.slice (some ⟨gj, 0, none⟩) 3 cj) ∧ Lj < W.heap.size ∧ Pts W gj 0 3 (jn kA kE).X (jn kA kE).Y) := Lib.hid (fun W hW => ⟨(box_step qj hW).cell 0, (box_step qj hW).lt, pts_step1' pj (by decide) hW⟩)
    have k1 : wk.cell? ⟨La, 0, none⟩ = some (.slice (some ⟨g34, 0, none⟩) 2 c34) := (HO2.out _ hbj).1
    have k2 : wk.cell? ⟨Lb, 0, none⟩ = some (.slice (some ⟨g35, 0, none⟩) 2 c35) := (HO2.out _ hbj).2.1
    have l1 := (HO2.out _ hbj).2.2.1
    have l2 := (HO2.out _ hbj).2.2.2.1
    have hBx := Below.refl wk.heap.size wk
    have HBJ := Lib.hid hbj
    clear k0 l0 qj pj hbj
    go_upto_region 18 with (go_at_call 49; (with_reducible refine (join_2 _ _ _ _ _ (HO2.out _ HBJ.out).2.2.2.2.1 (HO2.out _ HBJ.out).2.2.2.2.2 hc35).mono ?_); rintro e w44 ⟨R44, n44, c44, rfl, hb44⟩; replace hBx := below_step hBx hb44)
    have hb2 : Below w44.heap.size w44 (w44.alloc (.cells #[.slice R44 n44 c44] 24)) := (Below.refl _ _).alloc (Nat.le_refl _) _
    replace hBx := below_step hBx hb2
    clear k1 k2 l1 l2 hb44 hb2
    generalize w44.alloc (.cells #[.slice R44 n44 c44] 24) = w45 at *
    have HBX := Lib.hid hBx
    have k1 : w45.cell? ⟨Lj, 0, none⟩ = some (.slice (some ⟨gj, 0, none⟩) 3 cj) := (HJ.out _ HBX.out).1
    have l1 := (HJ.out _ HBX.out).2.1
    clear hBx
    go_region_held3 (fun w' => w'.cell? ⟨Lj, 0, none⟩ = some (.slice (some ⟨gj, 0, none⟩) 3 cj))
      (first | exact (HJ.out _ (below_step HBX.out (by (repeat (first | (with_reducible exact Below.refl _ _) | ((with_reducible refine bset ?_ ?_ _); (first | exact Nat.le_refl _ | omega | (simp; omega) | simp)) | ((with_reducible refine balloc ?_ ?_ _); (first | exact Nat.le_refl _ | omega | (simp; omega) | simp)) | (with_reducible refine Below.drew ?_) | (with_reducible refine below_step ?_ hb4) | (with_reducible refine below_step ?_ hb3)))))).1 | go_keep)
      (first
        | (go_at_call 55; (with_reducible refine (of_kC _ _ _ ?_).mono ?_); (repeat (first | (with_reducible exact box_at (by simp) _ _) | (with_reducible refine BoxAt.drew ?_) | (with_reducible refine BoxAt.alloc ?_ _))); rintro e w3 ⟨g3, c3, rfl, hp3, hb3, hg3, hc3⟩; have HP3 := Lib.hid hp3; clear hp3; have hz3 := hb3.size; (try simp at hz3); obtain ⟨hc3', hf3⟩ := bcell hb3; (try have y3 : w45.heap.size ≤ w3.heap.size := by omega))
        | (go_at_call 52; (with_reducible refine (same_1 _ _ _ _ _ (HJ.out _ (below_step HBX.out ?_)).2.2 ?_).mono ?_); ((repeat (first | (with_reducible exact Below.refl _ _) | ((with_reducible refine bset ?_ ?_ _); (first | exact Nat.le_refl _ | omega | (simp; omega) | simp)) | ((with_reducible refine balloc ?_ ?_ _); (first | exact Nat.le_refl _ | omega | (simp; omega) | simp)) | (with_reducible refine Below.drew ?_) | (with_reducible refine below_step ?_ hb4) | (with_reducible refine below_step ?_ hb3)))); (repeat (first | (with_reducible exact HP3.out) | (with_reducible refine pts_drew' ?_))); rintro e w4 ⟨rfl, hb4⟩))
    all_goals go_wp2
    all_goals go_ret
    all_goals refine ⟨rfl, below_step HBK.out (below_step HBX.out ?_)⟩
    all_goals (repeat (first
      | (with_reducible exact Below.refl _ _)
      | (with_reducible refine balloc ?_ ?_ _; (first | exact Nat.le_refl _ | omega | (simp; omega) | simp))
      | (with_reducible refine Below.drew ?_)
      | (with_reducible refine below_step ?_ hb4)
      | (with_reducible refine below_step ?_ hb3)))
end Go.Proofs.Ytglkpabcflecmaa
