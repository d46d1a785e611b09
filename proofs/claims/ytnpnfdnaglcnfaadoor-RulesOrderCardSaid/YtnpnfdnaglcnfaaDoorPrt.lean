/- A formula made of numbers: part. -/
import Derived.Test.YtnpnfdnaglcnfaaDoorPrt0
namespace Go.Proofs.YtnpnfdnaglcnfaaDoor
open Go.RowKit Go.Shelf

set_option maxRecDepth 100000 in
set_option maxHeartbeats 8000000 in
theorem part_any (w0 : World) (Bx : Nat) (A : Option Addr) (cap : Nat) (l : List Int) (width most : Int) (hp : NP w0 Bx A l) (hw1 : 1 ≤ width) (hw2 : width ≤ 12) (hm1 : 0 ≤ most) (hm2 : most ≤ 20) (d : Nat) (hd : d ≤ 3)
    (IH : ∀ d', d = d' + 1 → PC w0 Bx A cap l width most d') : PC w0 Bx A cap l width most d := by
  intro W fv P k D hD hk hNS hro hPl
  have HP := Lib.hid hp
  have HIH := Lib.hid IH
  have HNx := Lib.hid (fun m hm hm2 W h => nx_any (cap := cap) hp m hm hm2 W h)
  have HNS := Lib.hid hNS
  have HRO := Lib.hid hro
  obtain ⟨i0_, hi0, hz0, hz1, hz2⟩ := info_parts inf61
  have HI0 := Lib.hid hi0
  have HZ0 := Lib.hid hz0
  have HZ1 := Lib.hid hz1
  have HZ2 := Lib.hid hz2
  have HK := Lib.hid hk
  have HD := Lib.hid hD
  have kl : k ≤ 998 := by have := Nat.two_pow_pos d; rw [Nat.pow_succ] at hPl; omega
  have HPl := Lib.hid hPl
  obtain ⟨Af, cf, hfv⟩ := own_form HRO.out
  subst hfv
  have d0 : 0 ≤ D := by omega
  have d3 : D ≤ 3 := by omega
  have dd : D = 0 ∨ ∃ d', d = d' + 1 := by
    match d with
    | 0 => exact .inl (by omega)
    | d' + 1 => exact .inr ⟨d', rfl⟩
  clear hp hNS hro hi0 hz0 hz1 hz2 hk hPl hD IH hd
  go_enter Tryd.func52, Tryd.ntmps52
  go_upto_region 2 with (go_at_call 80; (with_reducible refine (HNx.out 11 (by decide) (by decide) _ HNS.out).mono ?_); rintro e w1 ⟨r, rfl, hr0, hr1, hn1, ho1⟩)
  have HN1 := Lib.hid hn1
  have HR1 : Hid (w1.ownsRow w0.heap.size 61 6 (.slice Af k cf) k (ndC P)) := Lib.hid (by obtain ⟨cs, hb⟩ := HNS.out.box; exact row_off1 HRO.out hb ho1)
  clear hn1 ho1 HNS HRO
  by_cases hleaf : D = 0 ∨ 7 < r ∨ r = 2
  · have HNA : Hid (NS w0 Bx A cap l (w1.alloc (.cells #[iv 2, iv 0, iv 0, iv 0, iv 0, iv 0] 61))) := Lib.hid (HN1.out.below ((Below.refl _ w1).alloc (Nat.le_refl _) _))
    have HRA : Hid ((w1.alloc (.cells #[iv 2, iv 0, iv 0, iv 0, iv 0, iv 0] 61)).ownsRow w0.heap.size 61 6 (.slice Af k cf) k (ndC P)) := Lib.hid (HR1.out.alloc _)
    have HBX : Hid (BoxAt (w1.alloc (.cells #[iv 2, iv 0, iv 0, iv 0, iv 0, iv 0] 61)) w1.heap.size 61 #[iv 2, iv 0, iv 0, iv 0, iv 0, iv 0]) := Lib.hid (BoxAt.new w1 61 _)
    by_cases hD0 : D = 0
    · subst hD0
      go_upto_region 10 with fail
      have HQB : Hid (w1.heap.size ≠ Bx) := Lib.hid (by obtain ⟨cs, hb⟩ := HN1.out.box; have := hb.lt; omega)
      have HQ0 : Hid (w0.heap.size ≤ w1.heap.size) := Lib.hid HN1.out.2.size
      have HRQ : Hid ((Value.slice Af k cf).ownBlock ≠ some w1.heap.size) := Lib.hid (fun e => absurd (HR1.out.lt _ e).2 (Nat.lt_irrefl _))
      clear HN1 HR1
      generalize w1.alloc (.cells #[iv 2, iv 0, iv 0, iv 0, iv 0, iv 0] 61) = wa at *
      generalize w1.heap.size = q at *
      have wd0 : 0 < width + 1 := by omega
      have wd1 : width + 1 ≤ 1000 := by omega
      have wd2 : 0 < width := by omega
      have wd3 : width ≤ 1000 := by omega
      go_upto_region 11 with (go_at_call 80; first
        | ((with_reducible refine (HNx.out width wd2 wd3 _ HNA.out).mono ?_); rintro e w2 ⟨r1, rfl, u1, u2, hn, ho⟩; have HNb := Lib.hid hn; have HRb := Lib.hid (row_off2 HRA.out HNA.out.box ho); have HBb := Lib.hid (ho.box HBX.out HQB.out); clear hn ho HNA HRA HBX)
        | ((with_reducible refine (HNx.out (width + 1) wd0 wd1 _ HNb.out).mono ?_); rintro e w3 ⟨r2, rfl, u3, u4, hn, ho⟩; have HNc := Lib.hid hn; have HRc := Lib.hid (row_off2 HRb.out HNb.out.box ho); have HBc := Lib.hid (ho.box HBb.out HQB.out); clear hn ho HNb HRb HBb)
        | ((with_reducible refine (HNx.out 9 (by decide) (by decide) _ HNc.out).mono ?_); rintro e w4 ⟨r3, rfl, u5, u6, hn, ho⟩; have HNd := Lib.hid hn; have HRd := Lib.hid (row_off2 HRc.out HNc.out.box ho); have HBd := Lib.hid (ho.box HBc.out HQB.out); clear hn ho HNc HRc HBc; have c1 : w4.cell? ⟨q, 1, none⟩ = some (iv 0) := HBd.out.cell 1; have c2 : w4.cell? ⟨q, 2, none⟩ = some (iv 0) := HBd.out.cell 2; have c3 : w4.cell? ⟨q, 3, none⟩ = some (iv 0) := HBd.out.cell 3; have f1 : w4.frozen? ⟨q, 1, none⟩ = false := HBd.out.frozen 1; have f2 : w4.frozen? ⟨q, 2, none⟩ = false := HBd.out.frozen 2; have f3 : w4.frozen? ⟨q, 3, none⟩ = false := HBd.out.frozen 3; have lq := HBd.out.lt))
      have HNe := Lib.hid (((HNd.out.set (i := 1) (v := iv r1) HQB.out HQ0.out).set (i := 2) (v := iv (r2 - 1)) HQB.out HQ0.out).set (i := 3) (v := iv (r3 - 3)) HQB.out HQ0.out)
      have HRe := Lib.hid (row_set (i := 3) (u := iv (r3 - 3)) (row_set (i := 2) (u := iv (r2 - 1)) (row_set (i := 1) (u := iv r1) HRd.out HRQ.out) HRQ.out) HRQ.out)
      have hbe : BoxAt (((w4.setCell ⟨q, 1, none⟩ (iv r1)).setCell ⟨q, 2, none⟩ (iv (r2 - 1))).setCell ⟨q, 3, none⟩ (iv (r3 - 3))) q 61 #[iv 2, iv r1, iv (r2 - 1), iv (r3 - 3), iv 0, iv 0] := ((HBd.out.set 1 _).set 2 _).set 3 _
      have HBe := Lib.hid hbe
      clear hbe c1 c2 c3 f1 f2 f3 lq HNd HRd HBd
      generalize ((w4.setCell ⟨q, 1, none⟩ (iv r1)).setCell ⟨q, 2, none⟩ (iv (r2 - 1))).setCell ⟨q, 3, none⟩ (iv (r3 - 3)) = wb at *
      have u7 : -1 ≤ r2 - 1 := by omega
      have u8 : r2 - 1 ≤ width - 1 := by omega
      have u9 : -2199023255552 ≤ r3 - 3 := by omega
      have u10 : r3 - 3 ≤ 2199023255552 := by omega
      have u11 : r1 ≤ width - 1 := by omega
      have HE : Hid (ndE width ⟨2, r1, r2 - 1, r3 - 3, 0, 0⟩ = 0) := Lib.hid (by unfold ndE; simp; omega)
      generalize r2 - 1 = nr at *
      generalize r3 - 3 = nk at *
      have c0 : wb.cell? ⟨q, 0, none⟩ = some (iv 2) := HBe.out.cell 0
      have c1 : wb.cell? ⟨q, 1, none⟩ = some (iv r1) := HBe.out.cell 1
      have c2 : wb.cell? ⟨q, 2, none⟩ = some (iv nr) := HBe.out.cell 2
      have c3 : wb.cell? ⟨q, 3, none⟩ = some (iv nk) := HBe.out.cell 3
      have c4 : wb.cell? ⟨q, 4, none⟩ = some (iv 0) := HBe.out.cell 4
      have c5 : wb.cell? ⟨q, 5, none⟩ = some (iv 0) := HBe.out.cell 5
      have lq := HBe.out.lt
      have HRf : Hid ((wb.alloc (.cells #[iv 2, iv r1, iv nr, iv nk, iv 0, iv 0] 61)).ownsRow w0.heap.size 61 6 (.slice Af k cf) k (ndC P)) := Lib.hid (HRe.out.alloc _)
      have HNf : Hid (NS w0 Bx A cap l (wb.alloc (.cells #[iv 2, iv r1, iv nr, iv nk, iv 0, iv 0] 61))) := Lib.hid (HNe.out.below ((Below.refl _ wb).alloc (Nat.le_refl _) _))
      have hsz := HNe.out.2.size
      go_wp2_with (at_builtin; refine wpList_append_lies _ rfl _ _ 22 rfl w0.heap.size 61 i0_ _ 6 48 Tryd.underlying22 HI0.out HZ0.out HZ1.out HZ2.out rfl (by decide) (.slice Af k cf) k (ndC P) rfl HRf.out ⟨wb.heap.size, 0, none⟩ 1 1 [iv 2, iv r1, iv nr, iv nk, iv 0, iv 0] rfl rfl (World.news_of_block (cs := #[iv 2, iv r1, iv nr, iv nk, iv 0, iv 0]) (t := 61) (fr := (0, 0)) (World.alloc_heap_new wb (.cells #[iv 2, iv r1, iv nr, iv nk, iv 0, iv 0] 61))) (by simp [Value.oneCell']) (by decide) (by unfold maxLen; omega) (by omega) (by simp; omega) _ rfl ?_; intro gg cap1 w8 hown8 hgrow hat hlt8; have HN8 := Lib.hid (part_end HNf.out HRf.out hgrow); have HR8 := Lib.hid hown8; clear hown8 hgrow hat hlt8 c0 c1 c2 c3 c4 c5 lq HRf HNf HRe HNe HBe hsz)
      go_ret
      exact po_lf ⟨2, r1, nr, nk, 0, 0⟩ rfl HE.out hm1 HK.out HN8.out HR8.out
    · by_cases hr7 : 7 < r
      · go_upto_region 10 with fail
        have HQB : Hid (w1.heap.size ≠ Bx) := Lib.hid (by obtain ⟨cs, hb⟩ := HN1.out.box; have := hb.lt; omega)
        have HQ0 : Hid (w0.heap.size ≤ w1.heap.size) := Lib.hid HN1.out.2.size
        have HRQ : Hid ((Value.slice Af k cf).ownBlock ≠ some w1.heap.size) := Lib.hid (fun e => absurd (HR1.out.lt _ e).2 (Nat.lt_irrefl _))
        clear HN1 HR1
        generalize w1.alloc (.cells #[iv 2, iv 0, iv 0, iv 0, iv 0, iv 0] 61) = wa at *
        generalize w1.heap.size = q at *
        have wd0 : 0 < width + 1 := by omega
        have wd1 : width + 1 ≤ 1000 := by omega
        have wd2 : 0 < width := by omega
        have wd3 : width ≤ 1000 := by omega
        go_upto_region 11 with (go_at_call 80; first
          | ((with_reducible refine (HNx.out width wd2 wd3 _ HNA.out).mono ?_); rintro e w2 ⟨r1, rfl, u1, u2, hn, ho⟩; have HNb := Lib.hid hn; have HRb := Lib.hid (row_off2 HRA.out HNA.out.box ho); have HBb := Lib.hid (ho.box HBX.out HQB.out); clear hn ho HNA HRA HBX)
          | ((with_reducible refine (HNx.out (width + 1) wd0 wd1 _ HNb.out).mono ?_); rintro e w3 ⟨r2, rfl, u3, u4, hn, ho⟩; have HNc := Lib.hid hn; have HRc := Lib.hid (row_off2 HRb.out HNb.out.box ho); have HBc := Lib.hid (ho.box HBb.out HQB.out); clear hn ho HNb HRb HBb)
          | ((with_reducible refine (HNx.out 9 (by decide) (by decide) _ HNc.out).mono ?_); rintro e w4 ⟨r3, rfl, u5, u6, hn, ho⟩; have HNd := Lib.hid hn; have HRd := Lib.hid (row_off2 HRc.out HNc.out.box ho); have HBd := Lib.hid (ho.box HBc.out HQB.out); clear hn ho HNc HRc HBc; have c1 : w4.cell? ⟨q, 1, none⟩ = some (iv 0) := HBd.out.cell 1; have c2 : w4.cell? ⟨q, 2, none⟩ = some (iv 0) := HBd.out.cell 2; have c3 : w4.cell? ⟨q, 3, none⟩ = some (iv 0) := HBd.out.cell 3; have f1 : w4.frozen? ⟨q, 1, none⟩ = false := HBd.out.frozen 1; have f2 : w4.frozen? ⟨q, 2, none⟩ = false := HBd.out.frozen 2; have f3 : w4.frozen? ⟨q, 3, none⟩ = false := HBd.out.frozen 3; have lq := HBd.out.lt))
        have HNe := Lib.hid (((HNd.out.set (i := 1) (v := iv r1) HQB.out HQ0.out).set (i := 2) (v := iv (r2 - 1)) HQB.out HQ0.out).set (i := 3) (v := iv (r3 - 3)) HQB.out HQ0.out)
        have HRe := Lib.hid (row_set (i := 3) (u := iv (r3 - 3)) (row_set (i := 2) (u := iv (r2 - 1)) (row_set (i := 1) (u := iv r1) HRd.out HRQ.out) HRQ.out) HRQ.out)
        have hbe : BoxAt (((w4.setCell ⟨q, 1, none⟩ (iv r1)).setCell ⟨q, 2, none⟩ (iv (r2 - 1))).setCell ⟨q, 3, none⟩ (iv (r3 - 3))) q 61 #[iv 2, iv r1, iv (r2 - 1), iv (r3 - 3), iv 0, iv 0] := ((HBd.out.set 1 _).set 2 _).set 3 _
        have HBe := Lib.hid hbe
        clear hbe c1 c2 c3 f1 f2 f3 lq HNd HRd HBd
        generalize ((w4.setCell ⟨q, 1, none⟩ (iv r1)).setCell ⟨q, 2, none⟩ (iv (r2 - 1))).setCell ⟨q, 3, none⟩ (iv (r3 - 3)) = wb at *
        have u7 : -1 ≤ r2 - 1 := by omega
        have u8 : r2 - 1 ≤ width - 1 := by omega
        have u9 : -2199023255552 ≤ r3 - 3 := by omega
        have u10 : r3 - 3 ≤ 2199023255552 := by omega
        have u11 : r1 ≤ width - 1 := by omega
        have HE : Hid (ndE width ⟨2, r1, r2 - 1, r3 - 3, 0, 0⟩ = 0) := Lib.hid (by unfold ndE; simp; omega)
        generalize r2 - 1 = nr at *
        generalize r3 - 3 = nk at *
        have c0 : wb.cell? ⟨q, 0, none⟩ = some (iv 2) := HBe.out.cell 0
        have c1 : wb.cell? ⟨q, 1, none⟩ = some (iv r1) := HBe.out.cell 1
        have c2 : wb.cell? ⟨q, 2, none⟩ = some (iv nr) := HBe.out.cell 2
        have c3 : wb.cell? ⟨q, 3, none⟩ = some (iv nk) := HBe.out.cell 3
        have c4 : wb.cell? ⟨q, 4, none⟩ = some (iv 0) := HBe.out.cell 4
        have c5 : wb.cell? ⟨q, 5, none⟩ = some (iv 0) := HBe.out.cell 5
        have lq := HBe.out.lt
        have HRf : Hid ((wb.alloc (.cells #[iv 2, iv r1, iv nr, iv nk, iv 0, iv 0] 61)).ownsRow w0.heap.size 61 6 (.slice Af k cf) k (ndC P)) := Lib.hid (HRe.out.alloc _)
        have HNf : Hid (NS w0 Bx A cap l (wb.alloc (.cells #[iv 2, iv r1, iv nr, iv nk, iv 0, iv 0] 61))) := Lib.hid (HNe.out.below ((Below.refl _ wb).alloc (Nat.le_refl _) _))
        have hsz := HNe.out.2.size
        go_wp2_with (at_builtin; refine wpList_append_lies _ rfl _ _ 22 rfl w0.heap.size 61 i0_ _ 6 48 Tryd.underlying22 HI0.out HZ0.out HZ1.out HZ2.out rfl (by decide) (.slice Af k cf) k (ndC P) rfl HRf.out ⟨wb.heap.size, 0, none⟩ 1 1 [iv 2, iv r1, iv nr, iv nk, iv 0, iv 0] rfl rfl (World.news_of_block (cs := #[iv 2, iv r1, iv nr, iv nk, iv 0, iv 0]) (t := 61) (fr := (0, 0)) (World.alloc_heap_new wb (.cells #[iv 2, iv r1, iv nr, iv nk, iv 0, iv 0] 61))) (by simp [Value.oneCell']) (by decide) (by unfold maxLen; omega) (by omega) (by simp; omega) _ rfl ?_; intro gg cap1 w8 hown8 hgrow hat hlt8; have HN8 := Lib.hid (part_end HNf.out HRf.out hgrow); have HR8 := Lib.hid hown8; clear hown8 hgrow hat hlt8 c0 c1 c2 c3 c4 c5 lq HRf HNf HRe HNe HBe hsz)
        go_ret
        exact po_lf ⟨2, r1, nr, nk, 0, 0⟩ rfl HE.out hm1 HK.out HN8.out HR8.out
      · obtain rfl : r = 2 := by omega
        go_upto_region 10 with fail
        have HQB : Hid (w1.heap.size ≠ Bx) := Lib.hid (by obtain ⟨cs, hb⟩ := HN1.out.box; have := hb.lt; omega)
        have HQ0 : Hid (w0.heap.size ≤ w1.heap.size) := Lib.hid HN1.out.2.size
        have HRQ : Hid ((Value.slice Af k cf).ownBlock ≠ some w1.heap.size) := Lib.hid (fun e => absurd (HR1.out.lt _ e).2 (Nat.lt_irrefl _))
        clear HN1 HR1
        generalize w1.alloc (.cells #[iv 2, iv 0, iv 0, iv 0, iv 0, iv 0] 61) = wa at *
        generalize w1.heap.size = q at *
        have wd0 : 0 < width + 1 := by omega
        have wd1 : width + 1 ≤ 1000 := by omega
        have wd2 : 0 < width := by omega
        have wd3 : width ≤ 1000 := by omega
        go_upto_region 11 with (go_at_call 80; first
          | ((with_reducible refine (HNx.out width wd2 wd3 _ HNA.out).mono ?_); rintro e w2 ⟨r1, rfl, u1, u2, hn, ho⟩; have HNb := Lib.hid hn; have HRb := Lib.hid (row_off2 HRA.out HNA.out.box ho); have HBb := Lib.hid (ho.box HBX.out HQB.out); clear hn ho HNA HRA HBX)
          | ((with_reducible refine (HNx.out (width + 1) wd0 wd1 _ HNb.out).mono ?_); rintro e w3 ⟨r2, rfl, u3, u4, hn, ho⟩; have HNc := Lib.hid hn; have HRc := Lib.hid (row_off2 HRb.out HNb.out.box ho); have HBc := Lib.hid (ho.box HBb.out HQB.out); clear hn ho HNb HRb HBb)
          | ((with_reducible refine (HNx.out 9 (by decide) (by decide) _ HNc.out).mono ?_); rintro e w4 ⟨r3, rfl, u5, u6, hn, ho⟩; have HNd := Lib.hid hn; have HRd := Lib.hid (row_off2 HRc.out HNc.out.box ho); have HBd := Lib.hid (ho.box HBc.out HQB.out); clear hn ho HNc HRc HBc; have c1 : w4.cell? ⟨q, 1, none⟩ = some (iv 0) := HBd.out.cell 1; have c2 : w4.cell? ⟨q, 2, none⟩ = some (iv 0) := HBd.out.cell 2; have c3 : w4.cell? ⟨q, 3, none⟩ = some (iv 0) := HBd.out.cell 3; have f1 : w4.frozen? ⟨q, 1, none⟩ = false := HBd.out.frozen 1; have f2 : w4.frozen? ⟨q, 2, none⟩ = false := HBd.out.frozen 2; have f3 : w4.frozen? ⟨q, 3, none⟩ = false := HBd.out.frozen 3; have lq := HBd.out.lt))
        have HNe := Lib.hid (((HNd.out.set (i := 1) (v := iv r1) HQB.out HQ0.out).set (i := 2) (v := iv (r2 - 1)) HQB.out HQ0.out).set (i := 3) (v := iv (r3 - 3)) HQB.out HQ0.out)
        have HRe := Lib.hid (row_set (i := 3) (u := iv (r3 - 3)) (row_set (i := 2) (u := iv (r2 - 1)) (row_set (i := 1) (u := iv r1) HRd.out HRQ.out) HRQ.out) HRQ.out)
        have hbe : BoxAt (((w4.setCell ⟨q, 1, none⟩ (iv r1)).setCell ⟨q, 2, none⟩ (iv (r2 - 1))).setCell ⟨q, 3, none⟩ (iv (r3 - 3))) q 61 #[iv 2, iv r1, iv (r2 - 1), iv (r3 - 3), iv 0, iv 0] := ((HBd.out.set 1 _).set 2 _).set 3 _
        have HBe := Lib.hid hbe
        clear hbe c1 c2 c3 f1 f2 f3 lq HNd HRd HBd
        generalize ((w4.setCell ⟨q, 1, none⟩ (iv r1)).setCell ⟨q, 2, none⟩ (iv (r2 - 1))).setCell ⟨q, 3, none⟩ (iv (r3 - 3)) = wb at *
        have u7 : -1 ≤ r2 - 1 := by omega
        have u8 : r2 - 1 ≤ width - 1 := by omega
        have u9 : -2199023255552 ≤ r3 - 3 := by omega
        have u10 : r3 - 3 ≤ 2199023255552 := by omega
        have u11 : r1 ≤ width - 1 := by omega
        have HE : Hid (ndE width ⟨2, r1, r2 - 1, r3 - 3, 0, 0⟩ = 0) := Lib.hid (by unfold ndE; simp; omega)
        generalize r2 - 1 = nr at *
        generalize r3 - 3 = nk at *
        have c0 : wb.cell? ⟨q, 0, none⟩ = some (iv 2) := HBe.out.cell 0
        have c1 : wb.cell? ⟨q, 1, none⟩ = some (iv r1) := HBe.out.cell 1
        have c2 : wb.cell? ⟨q, 2, none⟩ = some (iv nr) := HBe.out.cell 2
        have c3 : wb.cell? ⟨q, 3, none⟩ = some (iv nk) := HBe.out.cell 3
        have c4 : wb.cell? ⟨q, 4, none⟩ = some (iv 0) := HBe.out.cell 4
        have c5 : wb.cell? ⟨q, 5, none⟩ = some (iv 0) := HBe.out.cell 5
        have lq := HBe.out.lt
        have HRf : Hid ((wb.alloc (.cells #[iv 2, iv r1, iv nr, iv nk, iv 0, iv 0] 61)).ownsRow w0.heap.size 61 6 (.slice Af k cf) k (ndC P)) := Lib.hid (HRe.out.alloc _)
        have HNf : Hid (NS w0 Bx A cap l (wb.alloc (.cells #[iv 2, iv r1, iv nr, iv nk, iv 0, iv 0] 61))) := Lib.hid (HNe.out.below ((Below.refl _ wb).alloc (Nat.le_refl _) _))
        have hsz := HNe.out.2.size
        go_wp2_with (at_builtin; refine wpList_append_lies _ rfl _ _ 22 rfl w0.heap.size 61 i0_ _ 6 48 Tryd.underlying22 HI0.out HZ0.out HZ1.out HZ2.out rfl (by decide) (.slice Af k cf) k (ndC P) rfl HRf.out ⟨wb.heap.size, 0, none⟩ 1 1 [iv 2, iv r1, iv nr, iv nk, iv 0, iv 0] rfl rfl (World.news_of_block (cs := #[iv 2, iv r1, iv nr, iv nk, iv 0, iv 0]) (t := 61) (fr := (0, 0)) (World.alloc_heap_new wb (.cells #[iv 2, iv r1, iv nr, iv nk, iv 0, iv 0] 61))) (by simp [Value.oneCell']) (by decide) (by unfold maxLen; omega) (by omega) (by simp; omega) _ rfl ?_; intro gg cap1 w8 hown8 hgrow hat hlt8; have HN8 := Lib.hid (part_end HNf.out HRf.out hgrow); have HR8 := Lib.hid hown8; clear hown8 hgrow hat hlt8 c0 c1 c2 c3 c4 c5 lq HRf HNf HRe HNe HBe hsz)
        go_ret
        exact po_lf ⟨2, r1, nr, nk, 0, 0⟩ rfl HE.out hm1 HK.out HN8.out HR8.out
  · have g1 : ¬ D = 0 := by omega
    have g2 : ¬ (7 : Int) < r := by omega
    have g3 : ¬ r = 2 := by omega
    rcases (show r = 0 ∨ r = 1 ∨ r = 3 ∨ r = 4 ∨ r = 5 ∨ r = 6 ∨ r = 7 by omega) with rfl | rfl | rfl | rfl | rfl | rfl | rfl
    · have HNe := Lib.hid (HN1.out.below ((Below.refl _ w1).alloc (Nat.le_refl _) (.cells #[iv 0, iv 0, iv 0, iv 0, iv 0, iv 0] 61)))
      have HRe := Lib.hid (HR1.out.alloc (.cells #[iv 0, iv 0, iv 0, iv 0, iv 0, iv 0] 61))
      clear HN1 HR1
      go_upto_region 8 with fail
      generalize w1.alloc (.cells #[iv 0, iv 0, iv 0, iv 0, iv 0, iv 0] 61) = wb at *
      have HRf : Hid ((wb.alloc (.cells #[iv 1, iv 0, iv 0, iv 0, iv 0, iv 0] 61)).ownsRow w0.heap.size 61 6 (.slice Af k cf) k (ndC P)) := Lib.hid (HRe.out.alloc _)
      have HNf : Hid (NS w0 Bx A cap l (wb.alloc (.cells #[iv 1, iv 0, iv 0, iv 0, iv 0, iv 0] 61))) := Lib.hid (HNe.out.below ((Below.refl _ wb).alloc (Nat.le_refl _) _))
      have hsz := HNe.out.2.size
      go_wp2_with (at_builtin; refine wpList_append_lies _ rfl _ _ 22 rfl w0.heap.size 61 i0_ _ 6 48 Tryd.underlying22 HI0.out HZ0.out HZ1.out HZ2.out rfl (by decide) (.slice Af k cf) k (ndC P) rfl HRf.out ⟨wb.heap.size, 0, none⟩ 1 1 [iv 1, iv 0, iv 0, iv 0, iv 0, iv 0] rfl rfl (World.news_of_block (cs := #[iv 1, iv 0, iv 0, iv 0, iv 0, iv 0]) (t := 61) (fr := (0, 0)) (World.alloc_heap_new wb (.cells #[iv 1, iv 0, iv 0, iv 0, iv 0, iv 0] 61))) (by simp [Value.oneCell']) (by decide) (by unfold maxLen; omega) (by omega) (by simp; omega) _ rfl ?_; intro gg cap1 w8 hown8 hgrow hat hlt8; have HN8 := Lib.hid (part_end HNf.out HRf.out hgrow); have HR8 := Lib.hid hown8; clear hown8 hgrow hat hlt8  HRf HNf HRe HNe hsz)
      go_ret
      exact po_lf ⟨1, 0, 0, 0, 0, 0⟩ rfl (show ndE width ⟨1, 0, 0, 0, 0, 0⟩ = 0 from rfl) hm1 HK.out HN8.out HR8.out
    · have HNe := Lib.hid (HN1.out.below ((Below.refl _ w1).alloc (Nat.le_refl _) (.cells #[iv 1, iv 0, iv 0, iv 0, iv 0, iv 0] 61)))
      have HRe := Lib.hid (HR1.out.alloc (.cells #[iv 1, iv 0, iv 0, iv 0, iv 0, iv 0] 61))
      clear HN1 HR1
      go_upto_region 8 with fail
      generalize w1.alloc (.cells #[iv 1, iv 0, iv 0, iv 0, iv 0, iv 0] 61) = wb at *
      have HRf : Hid ((wb.alloc (.cells #[iv 1, iv 0, iv 0, iv 0, iv 0, iv 0] 61)).ownsRow w0.heap.size 61 6 (.slice Af k cf) k (ndC P)) := Lib.hid (HRe.out.alloc _)
      have HNf : Hid (NS w0 Bx A cap l (wb.alloc (.cells #[iv 1, iv 0, iv 0, iv 0, iv 0, iv 0] 61))) := Lib.hid (HNe.out.below ((Below.refl _ wb).alloc (Nat.le_refl _) _))
      have hsz := HNe.out.2.size
      go_wp2_with (at_builtin; refine wpList_append_lies _ rfl _ _ 22 rfl w0.heap.size 61 i0_ _ 6 48 Tryd.underlying22 HI0.out HZ0.out HZ1.out HZ2.out rfl (by decide) (.slice Af k cf) k (ndC P) rfl HRf.out ⟨wb.heap.size, 0, none⟩ 1 1 [iv 1, iv 0, iv 0, iv 0, iv 0, iv 0] rfl rfl (World.news_of_block (cs := #[iv 1, iv 0, iv 0, iv 0, iv 0, iv 0]) (t := 61) (fr := (0, 0)) (World.alloc_heap_new wb (.cells #[iv 1, iv 0, iv 0, iv 0, iv 0, iv 0] 61))) (by simp [Value.oneCell']) (by decide) (by unfold maxLen; omega) (by omega) (by simp; omega) _ rfl ?_; intro gg cap1 w8 hown8 hgrow hat hlt8; have HN8 := Lib.hid (part_end HNf.out HRf.out hgrow); have HR8 := Lib.hid hown8; clear hown8 hgrow hat hlt8  HRf HNf HRe HNe hsz)
      go_ret
      exact po_lf ⟨1, 0, 0, 0, 0, 0⟩ rfl (show ndE width ⟨1, 0, 0, 0, 0, 0⟩ = 0 from rfl) hm1 HK.out HN8.out HR8.out
    · obtain ⟨d', rfl⟩ := dd.resolve_left g1
      have HC : Hid (∀ (W : World) (fv : Value) (P : List Nd) (k : Nat) (D : Int), D = (d' : Nat) → k = P.length → NS w0 Bx A cap l W → W.ownsRow w0.heap.size 61 6 fv k (ndC P) → k + 2 ^ (d' + 1) ≤ 1000 →
          Calls Tryd.prog 52 #[.pointer (some ⟨Bx, 0, none⟩), fv, iv width, iv D, iv most] W fun e w' => PO w0 Bx A cap l width most d' P e w') := Lib.hid (HIH.out d' rfl)
      have HDp : Hid (D - 1 = (d' : Nat)) := Lib.hid (by have := HD.out; omega)
      have HKp : ∀ n : Nd, Hid (k + 1 = (P ++ [n]).length) := fun n => Lib.hid (by rw [List.length_append, ← HK.out]; rfl)
      have HR9 : ∀ {W : World} {v : Value} {a b c f g h : Int}, W.ownsRow w0.heap.size 61 6 v (k + 1) (ndC P ++ [iv a, iv b, iv c, iv f, iv g, iv h]) → Hid (W.ownsRow w0.heap.size 61 6 v (k + 1) (ndC (P ++ [⟨a, b, c, f, g, h⟩]))) := fun h => Lib.hid (by rw [ndC_snoc]; exact h)
      have HPp : Hid (k + 1 + 2 ^ (d' + 1) ≤ 1000) := Lib.hid (by have := HPl.out; rw [Nat.pow_succ 2 (d' + 1)] at this; have := Nat.two_pow_pos (d' + 1); omega)
      have HPq : ∀ {n : Nd} (K j : Nat), K = (P ++ [n]).length + j → j + 1 ≤ 2 ^ (d' + 1) → K + 2 ^ (d' + 1) ≤ 1000 := fun {n} K j h1 h2 => by
        have h3 := HPl.out
        rw [Nat.pow_succ 2 (d' + 1)] at h3
        rw [← (HKp n).out] at h1
        omega
      have HQB : Hid (w1.heap.size ≠ Bx) := Lib.hid (by obtain ⟨cs, hb⟩ := HN1.out.box; have := hb.lt; omega)
      have HQ0 : Hid (w0.heap.size ≤ w1.heap.size) := Lib.hid HN1.out.2.size
      have HRQ : Hid ((Value.slice Af k cf).ownBlock ≠ some w1.heap.size) := Lib.hid (fun e => absurd (HR1.out.lt _ e).2 (Nat.lt_irrefl _))
      clear dd hleaf HIH HD
      have HNe : Hid (NS w0 Bx A cap l (w1.alloc (.cells #[iv 3, iv 0, iv 0, iv 0, iv 0, iv 0] 61))) := Lib.hid (HN1.out.below ((Below.refl _ w1).alloc (Nat.le_refl _) _))
      have HRe : Hid ((w1.alloc (.cells #[iv 3, iv 0, iv 0, iv 0, iv 0, iv 0] 61)).ownsRow w0.heap.size 61 6 (.slice Af k cf) k (ndC P)) := Lib.hid (HR1.out.alloc _)
      have HBe : Hid (BoxAt (w1.alloc (.cells #[iv 3, iv 0, iv 0, iv 0, iv 0, iv 0] 61)) w1.heap.size 61 #[iv 3, iv 0, iv 0, iv 0, iv 0, iv 0]) := Lib.hid (BoxAt.new w1 61 _)
      clear HN1 HR1
      go_upto_region 13 with fail
      generalize w1.alloc (.cells #[iv 3, iv 0, iv 0, iv 0, iv 0, iv 0] 61) = wb at *
      generalize w1.heap.size = q at *
      have HE : Hid (ndE width ⟨3, 0, 0, 0, 0, 0⟩ = 0) := Lib.hid rfl
      have HH : Hid ((0 : Int) ≤ most) := Lib.hid hm1
      have c0 : wb.cell? ⟨q, 0, none⟩ = some (iv 3) := HBe.out.cell 0
      have c1 : wb.cell? ⟨q, 1, none⟩ = some (iv 0) := HBe.out.cell 1
      have c2 : wb.cell? ⟨q, 2, none⟩ = some (iv 0) := HBe.out.cell 2
      have c3 : wb.cell? ⟨q, 3, none⟩ = some (iv 0) := HBe.out.cell 3
      have c4 : wb.cell? ⟨q, 4, none⟩ = some (iv 0) := HBe.out.cell 4
      have c5 : wb.cell? ⟨q, 5, none⟩ = some (iv 0) := HBe.out.cell 5
      have lq := HBe.out.lt
      have HRf : Hid ((wb.alloc (.cells #[iv 3, iv 0, iv 0, iv 0, iv 0, iv 0] 61)).ownsRow w0.heap.size 61 6 (.slice Af k cf) k (ndC P)) := Lib.hid (HRe.out.alloc _)
      have HNf : Hid (NS w0 Bx A cap l (wb.alloc (.cells #[iv 3, iv 0, iv 0, iv 0, iv 0, iv 0] 61))) := Lib.hid (HNe.out.below ((Below.refl _ wb).alloc (Nat.le_refl _) _))
      have hsz := HNe.out.2.size
      go_wp2_with (first | (at_builtin; refine wpList_append_lies _ rfl _ _ 22 rfl w0.heap.size 61 i0_ _ 6 48 Tryd.underlying22 HI0.out HZ0.out HZ1.out HZ2.out rfl (by decide) (.slice Af k cf) k (ndC P) rfl HRf.out ⟨wb.heap.size, 0, none⟩ 1 1 [iv 3, iv 0, iv 0, iv 0, iv 0, iv 0] rfl rfl (World.news_of_block (cs := #[iv 3, iv 0, iv 0, iv 0, iv 0, iv 0]) (t := 61) (fr := (0, 0)) (World.alloc_heap_new wb (.cells #[iv 3, iv 0, iv 0, iv 0, iv 0, iv 0] 61))) (by simp [Value.oneCell']) (by decide) (by unfold maxLen; omega) (by omega) (by simp; omega) _ rfl ?_; intro gg cap1 w8 hown8 hgrow hat hlt8; have HN8 := Lib.hid (part_end HNf.out HRf.out hgrow); have HR8 := Lib.hid hown8; clear hown8 hgrow hat hlt8 c0 c1 c2 c3 c4 c5 lq HRf HNf HRe HNe HBe hsz) | (go_at_call 52; (with_reducible refine (HC.out _ (.slice (some ⟨gg, 0, none⟩) (k + 1) cap1) (P ++ [⟨3, 0, 0, 0, 0, 0⟩]) (k + 1) (D - 1) HDp.out (HKp (⟨3, 0, 0, 0, 0, 0⟩)).out HN8.out (HR9 HR8.out).out HPp.out).mono ?_); rintro e w9 hpo; obtain ⟨K9, A9, c9, rfl, hpo9⟩ := hpo.form; have HP9 := Lib.hid hpo9; clear hpo9 hpo HN8 HR8))
      go_ret
      exact po_un ⟨3, 0, 0, 0, 0, 0⟩ rfl HE.out hm1 HH.out HP9.out
    · obtain ⟨d', rfl⟩ := dd.resolve_left g1
      have HC : Hid (∀ (W : World) (fv : Value) (P : List Nd) (k : Nat) (D : Int), D = (d' : Nat) → k = P.length → NS w0 Bx A cap l W → W.ownsRow w0.heap.size 61 6 fv k (ndC P) → k + 2 ^ (d' + 1) ≤ 1000 →
          Calls Tryd.prog 52 #[.pointer (some ⟨Bx, 0, none⟩), fv, iv width, iv D, iv most] W fun e w' => PO w0 Bx A cap l width most d' P e w') := Lib.hid (HIH.out d' rfl)
      have HDp : Hid (D - 1 = (d' : Nat)) := Lib.hid (by have := HD.out; omega)
      have HKp : ∀ n : Nd, Hid (k + 1 = (P ++ [n]).length) := fun n => Lib.hid (by rw [List.length_append, ← HK.out]; rfl)
      have HR9 : ∀ {W : World} {v : Value} {a b c f g h : Int}, W.ownsRow w0.heap.size 61 6 v (k + 1) (ndC P ++ [iv a, iv b, iv c, iv f, iv g, iv h]) → Hid (W.ownsRow w0.heap.size 61 6 v (k + 1) (ndC (P ++ [⟨a, b, c, f, g, h⟩]))) := fun h => Lib.hid (by rw [ndC_snoc]; exact h)
      have HPp : Hid (k + 1 + 2 ^ (d' + 1) ≤ 1000) := Lib.hid (by have := HPl.out; rw [Nat.pow_succ 2 (d' + 1)] at this; have := Nat.two_pow_pos (d' + 1); omega)
      have HPq : ∀ {n : Nd} (K j : Nat), K = (P ++ [n]).length + j → j + 1 ≤ 2 ^ (d' + 1) → K + 2 ^ (d' + 1) ≤ 1000 := fun {n} K j h1 h2 => by
        have h3 := HPl.out
        rw [Nat.pow_succ 2 (d' + 1)] at h3
        rw [← (HKp n).out] at h1
        omega
      have HQB : Hid (w1.heap.size ≠ Bx) := Lib.hid (by obtain ⟨cs, hb⟩ := HN1.out.box; have := hb.lt; omega)
      have HQ0 : Hid (w0.heap.size ≤ w1.heap.size) := Lib.hid HN1.out.2.size
      have HRQ : Hid ((Value.slice Af k cf).ownBlock ≠ some w1.heap.size) := Lib.hid (fun e => absurd (HR1.out.lt _ e).2 (Nat.lt_irrefl _))
      clear dd hleaf HIH HD
      have HNe : Hid (NS w0 Bx A cap l (w1.alloc (.cells #[iv 4, iv 0, iv 0, iv 0, iv 0, iv 0] 61))) := Lib.hid (HN1.out.below ((Below.refl _ w1).alloc (Nat.le_refl _) _))
      have HRe : Hid ((w1.alloc (.cells #[iv 4, iv 0, iv 0, iv 0, iv 0, iv 0] 61)).ownsRow w0.heap.size 61 6 (.slice Af k cf) k (ndC P)) := Lib.hid (HR1.out.alloc _)
      have HBe : Hid (BoxAt (w1.alloc (.cells #[iv 4, iv 0, iv 0, iv 0, iv 0, iv 0] 61)) w1.heap.size 61 #[iv 4, iv 0, iv 0, iv 0, iv 0, iv 0]) := Lib.hid (BoxAt.new w1 61 _)
      clear HN1 HR1
      go_upto_region 16 with fail
      generalize w1.alloc (.cells #[iv 4, iv 0, iv 0, iv 0, iv 0, iv 0] 61) = wb at *
      generalize w1.heap.size = q at *
      have HE : Hid (ndE width ⟨4, 0, 0, 0, 0, 0⟩ = 0) := Lib.hid rfl
      have HH : Hid ((0 : Int) ≤ most) := Lib.hid hm1
      have c0 : wb.cell? ⟨q, 0, none⟩ = some (iv 4) := HBe.out.cell 0
      have c1 : wb.cell? ⟨q, 1, none⟩ = some (iv 0) := HBe.out.cell 1
      have c2 : wb.cell? ⟨q, 2, none⟩ = some (iv 0) := HBe.out.cell 2
      have c3 : wb.cell? ⟨q, 3, none⟩ = some (iv 0) := HBe.out.cell 3
      have c4 : wb.cell? ⟨q, 4, none⟩ = some (iv 0) := HBe.out.cell 4
      have c5 : wb.cell? ⟨q, 5, none⟩ = some (iv 0) := HBe.out.cell 5
      have lq := HBe.out.lt
      have HRf : Hid ((wb.alloc (.cells #[iv 4, iv 0, iv 0, iv 0, iv 0, iv 0] 61)).ownsRow w0.heap.size 61 6 (.slice Af k cf) k (ndC P)) := Lib.hid (HRe.out.alloc _)
      have HNf : Hid (NS w0 Bx A cap l (wb.alloc (.cells #[iv 4, iv 0, iv 0, iv 0, iv 0, iv 0] 61))) := Lib.hid (HNe.out.below ((Below.refl _ wb).alloc (Nat.le_refl _) _))
      have hsz := HNe.out.2.size
      go_wp2_with (first | (at_builtin; refine wpList_append_lies _ rfl _ _ 22 rfl w0.heap.size 61 i0_ _ 6 48 Tryd.underlying22 HI0.out HZ0.out HZ1.out HZ2.out rfl (by decide) (.slice Af k cf) k (ndC P) rfl HRf.out ⟨wb.heap.size, 0, none⟩ 1 1 [iv 4, iv 0, iv 0, iv 0, iv 0, iv 0] rfl rfl (World.news_of_block (cs := #[iv 4, iv 0, iv 0, iv 0, iv 0, iv 0]) (t := 61) (fr := (0, 0)) (World.alloc_heap_new wb (.cells #[iv 4, iv 0, iv 0, iv 0, iv 0, iv 0] 61))) (by simp [Value.oneCell']) (by decide) (by unfold maxLen; omega) (by omega) (by simp; omega) _ rfl ?_; intro gg cap1 w8 hown8 hgrow hat hlt8; have HN8 := Lib.hid (part_end HNf.out HRf.out hgrow); have HR8 := Lib.hid hown8; clear hown8 hgrow hat hlt8 c0 c1 c2 c3 c4 c5 lq HRf HNf HRe HNe HBe hsz) | (go_at_call 52; (with_reducible refine (HC.out _ (.slice A9 K9 c9) (P ++ [⟨4, 0, 0, 0, 0, 0⟩] ++ x9.flat) K9 (D - 1) HDp.out HK9.out HN9.out HR9b.out HL9.out).mono ?_); rintro e w10 hpo; obtain ⟨K10, A10, c10, rfl, hpo9⟩ := hpo.form; have HP9 := Lib.hid hpo9; clear hpo9 hpo HN9 HR9b) | (go_at_call 52; (with_reducible refine (HC.out _ (.slice (some ⟨gg, 0, none⟩) (k + 1) cap1) (P ++ [⟨4, 0, 0, 0, 0, 0⟩]) (k + 1) (D - 1) HDp.out (HKp (⟨4, 0, 0, 0, 0, 0⟩)).out HN8.out (HR9 HR8.out).out HPp.out).mono ?_); rintro e w9 hpo; obtain ⟨K9, A9, c9, x9, rfl, hx, hk1, hk2, hn, hr⟩ := hpo.form2; have HX9 := Lib.hid hx; have HK9 := Lib.hid hk2; have HL9 := Lib.hid (HPq _ _ hk1 hx.2.2.2); have HN9 := Lib.hid hn; have HR9b := Lib.hid hr; clear hx hk1 hk2 hn hr hpo HN8 HR8))
      go_ret
      exact po_bi ⟨4, 0, 0, 0, 0, 0⟩ x9 rfl HE.out hm1 HH.out HX9.out.1 HX9.out.2.1 HX9.out.2.2.1 HX9.out.2.2.2 HP9.out
    · obtain ⟨d', rfl⟩ := dd.resolve_left g1
      have HC : Hid (∀ (W : World) (fv : Value) (P : List Nd) (k : Nat) (D : Int), D = (d' : Nat) → k = P.length → NS w0 Bx A cap l W → W.ownsRow w0.heap.size 61 6 fv k (ndC P) → k + 2 ^ (d' + 1) ≤ 1000 →
          Calls Tryd.prog 52 #[.pointer (some ⟨Bx, 0, none⟩), fv, iv width, iv D, iv most] W fun e w' => PO w0 Bx A cap l width most d' P e w') := Lib.hid (HIH.out d' rfl)
      have HDp : Hid (D - 1 = (d' : Nat)) := Lib.hid (by have := HD.out; omega)
      have HKp : ∀ n : Nd, Hid (k + 1 = (P ++ [n]).length) := fun n => Lib.hid (by rw [List.length_append, ← HK.out]; rfl)
      have HR9 : ∀ {W : World} {v : Value} {a b c f g h : Int}, W.ownsRow w0.heap.size 61 6 v (k + 1) (ndC P ++ [iv a, iv b, iv c, iv f, iv g, iv h]) → Hid (W.ownsRow w0.heap.size 61 6 v (k + 1) (ndC (P ++ [⟨a, b, c, f, g, h⟩]))) := fun h => Lib.hid (by rw [ndC_snoc]; exact h)
      have HPp : Hid (k + 1 + 2 ^ (d' + 1) ≤ 1000) := Lib.hid (by have := HPl.out; rw [Nat.pow_succ 2 (d' + 1)] at this; have := Nat.two_pow_pos (d' + 1); omega)
      have HPq : ∀ {n : Nd} (K j : Nat), K = (P ++ [n]).length + j → j + 1 ≤ 2 ^ (d' + 1) → K + 2 ^ (d' + 1) ≤ 1000 := fun {n} K j h1 h2 => by
        have h3 := HPl.out
        rw [Nat.pow_succ 2 (d' + 1)] at h3
        rw [← (HKp n).out] at h1
        omega
      have HQB : Hid (w1.heap.size ≠ Bx) := Lib.hid (by obtain ⟨cs, hb⟩ := HN1.out.box; have := hb.lt; omega)
      have HQ0 : Hid (w0.heap.size ≤ w1.heap.size) := Lib.hid HN1.out.2.size
      have HRQ : Hid ((Value.slice Af k cf).ownBlock ≠ some w1.heap.size) := Lib.hid (fun e => absurd (HR1.out.lt _ e).2 (Nat.lt_irrefl _))
      clear dd hleaf HIH HD
      have HNe : Hid (NS w0 Bx A cap l (w1.alloc (.cells #[iv 5, iv 0, iv 0, iv 0, iv 0, iv 0] 61))) := Lib.hid (HN1.out.below ((Below.refl _ w1).alloc (Nat.le_refl _) _))
      have HRe : Hid ((w1.alloc (.cells #[iv 5, iv 0, iv 0, iv 0, iv 0, iv 0] 61)).ownsRow w0.heap.size 61 6 (.slice Af k cf) k (ndC P)) := Lib.hid (HR1.out.alloc _)
      have HBe : Hid (BoxAt (w1.alloc (.cells #[iv 5, iv 0, iv 0, iv 0, iv 0, iv 0] 61)) w1.heap.size 61 #[iv 5, iv 0, iv 0, iv 0, iv 0, iv 0]) := Lib.hid (BoxAt.new w1 61 _)
      clear HN1 HR1
      go_upto_region 16 with fail
      generalize w1.alloc (.cells #[iv 5, iv 0, iv 0, iv 0, iv 0, iv 0] 61) = wb at *
      generalize w1.heap.size = q at *
      have HE : Hid (ndE width ⟨5, 0, 0, 0, 0, 0⟩ = 0) := Lib.hid rfl
      have HH : Hid ((0 : Int) ≤ most) := Lib.hid hm1
      have c0 : wb.cell? ⟨q, 0, none⟩ = some (iv 5) := HBe.out.cell 0
      have c1 : wb.cell? ⟨q, 1, none⟩ = some (iv 0) := HBe.out.cell 1
      have c2 : wb.cell? ⟨q, 2, none⟩ = some (iv 0) := HBe.out.cell 2
      have c3 : wb.cell? ⟨q, 3, none⟩ = some (iv 0) := HBe.out.cell 3
      have c4 : wb.cell? ⟨q, 4, none⟩ = some (iv 0) := HBe.out.cell 4
      have c5 : wb.cell? ⟨q, 5, none⟩ = some (iv 0) := HBe.out.cell 5
      have lq := HBe.out.lt
      have HRf : Hid ((wb.alloc (.cells #[iv 5, iv 0, iv 0, iv 0, iv 0, iv 0] 61)).ownsRow w0.heap.size 61 6 (.slice Af k cf) k (ndC P)) := Lib.hid (HRe.out.alloc _)
      have HNf : Hid (NS w0 Bx A cap l (wb.alloc (.cells #[iv 5, iv 0, iv 0, iv 0, iv 0, iv 0] 61))) := Lib.hid (HNe.out.below ((Below.refl _ wb).alloc (Nat.le_refl _) _))
      have hsz := HNe.out.2.size
      go_wp2_with (first | (at_builtin; refine wpList_append_lies _ rfl _ _ 22 rfl w0.heap.size 61 i0_ _ 6 48 Tryd.underlying22 HI0.out HZ0.out HZ1.out HZ2.out rfl (by decide) (.slice Af k cf) k (ndC P) rfl HRf.out ⟨wb.heap.size, 0, none⟩ 1 1 [iv 5, iv 0, iv 0, iv 0, iv 0, iv 0] rfl rfl (World.news_of_block (cs := #[iv 5, iv 0, iv 0, iv 0, iv 0, iv 0]) (t := 61) (fr := (0, 0)) (World.alloc_heap_new wb (.cells #[iv 5, iv 0, iv 0, iv 0, iv 0, iv 0] 61))) (by simp [Value.oneCell']) (by decide) (by unfold maxLen; omega) (by omega) (by simp; omega) _ rfl ?_; intro gg cap1 w8 hown8 hgrow hat hlt8; have HN8 := Lib.hid (part_end HNf.out HRf.out hgrow); have HR8 := Lib.hid hown8; clear hown8 hgrow hat hlt8 c0 c1 c2 c3 c4 c5 lq HRf HNf HRe HNe HBe hsz) | (go_at_call 52; (with_reducible refine (HC.out _ (.slice A9 K9 c9) (P ++ [⟨5, 0, 0, 0, 0, 0⟩] ++ x9.flat) K9 (D - 1) HDp.out HK9.out HN9.out HR9b.out HL9.out).mono ?_); rintro e w10 hpo; obtain ⟨K10, A10, c10, rfl, hpo9⟩ := hpo.form; have HP9 := Lib.hid hpo9; clear hpo9 hpo HN9 HR9b) | (go_at_call 52; (with_reducible refine (HC.out _ (.slice (some ⟨gg, 0, none⟩) (k + 1) cap1) (P ++ [⟨5, 0, 0, 0, 0, 0⟩]) (k + 1) (D - 1) HDp.out (HKp (⟨5, 0, 0, 0, 0, 0⟩)).out HN8.out (HR9 HR8.out).out HPp.out).mono ?_); rintro e w9 hpo; obtain ⟨K9, A9, c9, x9, rfl, hx, hk1, hk2, hn, hr⟩ := hpo.form2; have HX9 := Lib.hid hx; have HK9 := Lib.hid hk2; have HL9 := Lib.hid (HPq _ _ hk1 hx.2.2.2); have HN9 := Lib.hid hn; have HR9b := Lib.hid hr; clear hx hk1 hk2 hn hr hpo HN8 HR8))
      go_ret
      exact po_bi ⟨5, 0, 0, 0, 0, 0⟩ x9 rfl HE.out hm1 HH.out HX9.out.1 HX9.out.2.1 HX9.out.2.2.1 HX9.out.2.2.2 HP9.out
    · obtain ⟨d', rfl⟩ := dd.resolve_left g1
      have HC : Hid (∀ (W : World) (fv : Value) (P : List Nd) (k : Nat) (D : Int), D = (d' : Nat) → k = P.length → NS w0 Bx A cap l W → W.ownsRow w0.heap.size 61 6 fv k (ndC P) → k + 2 ^ (d' + 1) ≤ 1000 →
          Calls Tryd.prog 52 #[.pointer (some ⟨Bx, 0, none⟩), fv, iv width, iv D, iv most] W fun e w' => PO w0 Bx A cap l width most d' P e w') := Lib.hid (HIH.out d' rfl)
      have HDp : Hid (D - 1 = (d' : Nat)) := Lib.hid (by have := HD.out; omega)
      have HKp : ∀ n : Nd, Hid (k + 1 = (P ++ [n]).length) := fun n => Lib.hid (by rw [List.length_append, ← HK.out]; rfl)
      have HR9 : ∀ {W : World} {v : Value} {a b c f g h : Int}, W.ownsRow w0.heap.size 61 6 v (k + 1) (ndC P ++ [iv a, iv b, iv c, iv f, iv g, iv h]) → Hid (W.ownsRow w0.heap.size 61 6 v (k + 1) (ndC (P ++ [⟨a, b, c, f, g, h⟩]))) := fun h => Lib.hid (by rw [ndC_snoc]; exact h)
      have HPp : Hid (k + 1 + 2 ^ (d' + 1) ≤ 1000) := Lib.hid (by have := HPl.out; rw [Nat.pow_succ 2 (d' + 1)] at this; have := Nat.two_pow_pos (d' + 1); omega)
      have HPq : ∀ {n : Nd} (K j : Nat), K = (P ++ [n]).length + j → j + 1 ≤ 2 ^ (d' + 1) → K + 2 ^ (d' + 1) ≤ 1000 := fun {n} K j h1 h2 => by
        have h3 := HPl.out
        rw [Nat.pow_succ 2 (d' + 1)] at h3
        rw [← (HKp n).out] at h1
        omega
      have HQB : Hid (w1.heap.size ≠ Bx) := Lib.hid (by obtain ⟨cs, hb⟩ := HN1.out.box; have := hb.lt; omega)
      have HQ0 : Hid (w0.heap.size ≤ w1.heap.size) := Lib.hid HN1.out.2.size
      have HRQ : Hid ((Value.slice Af k cf).ownBlock ≠ some w1.heap.size) := Lib.hid (fun e => absurd (HR1.out.lt _ e).2 (Nat.lt_irrefl _))
      clear dd hleaf HIH HD
      have HNa : Hid (NS w0 Bx A cap l (w1.alloc (.cells #[iv 6, iv 0, iv 0, iv 0, iv 0, iv 0] 61))) := Lib.hid (HN1.out.below ((Below.refl _ w1).alloc (Nat.le_refl _) _))
      have HRa : Hid ((w1.alloc (.cells #[iv 6, iv 0, iv 0, iv 0, iv 0, iv 0] 61)).ownsRow w0.heap.size 61 6 (.slice Af k cf) k (ndC P)) := Lib.hid (HR1.out.alloc _)
      have HBa : Hid (BoxAt (w1.alloc (.cells #[iv 6, iv 0, iv 0, iv 0, iv 0, iv 0] 61)) w1.heap.size 61 #[iv 6, iv 0, iv 0, iv 0, iv 0, iv 0]) := Lib.hid (BoxAt.new w1 61 _)
      clear HN1 HR1
      go_upto_region 17 with fail
      generalize w1.alloc (.cells #[iv 6, iv 0, iv 0, iv 0, iv 0, iv 0] 61) = wa at *
      generalize w1.heap.size = q at *
      have m0 : 0 < most + 1 := by omega
      have m1 : most + 1 ≤ 1000 := by omega
      go_upto_region 18 with (go_at_call 80; (with_reducible refine (HNx.out (most + 1) m0 m1 _ HNa.out).mono ?_); rintro e w2 ⟨nh, rfl, u1, u2, hn, ho⟩; have HNb := Lib.hid hn; have HRb := Lib.hid (row_off2 HRa.out HNa.out.box ho); have HBb := Lib.hid (ho.box HBa.out HQB.out); clear hn ho HNa HRa HBa; have c5 : w2.cell? ⟨q, 5, none⟩ = some (iv 0) := HBb.out.cell 5; have f5 : w2.frozen? ⟨q, 5, none⟩ = false := HBb.out.frozen 5; have lq := HBb.out.lt)
      have HNc := Lib.hid (HNb.out.set (i := 5) (v := iv nh) HQB.out HQ0.out)
      have HRc := Lib.hid (row_set (i := 5) (u := iv nh) HRb.out HRQ.out)
      have hbe : BoxAt (w2.setCell ⟨q, 5, none⟩ (iv nh)) q 61 #[iv 6, iv 0, iv 0, iv 0, iv 0, iv nh] := HBb.out.set 5 _
      have HBc := Lib.hid hbe
      clear hbe c5 f5 lq HNb HRb HBb
      generalize w2.setCell ⟨q, 5, none⟩ (iv nh) = wc at *
      have c5 : wc.cell? ⟨q, 5, none⟩ = some (iv nh) := HBc.out.cell 5
      have lq := HBc.out.lt
      have m2 : 0 < nh + 1 := by omega
      have m3 : nh + 1 ≤ 1000 := by omega
      go_upto_region 19 with (go_at_call 80; (with_reducible refine (HNx.out (nh + 1) m2 m3 _ HNc.out).mono ?_); rintro e w3 ⟨nl, rfl, u3, u4, hn, ho⟩; have HNd := Lib.hid hn; have HRd := Lib.hid (row_off2 HRc.out HNc.out.box ho); have HBd := Lib.hid (ho.box HBc.out HQB.out); clear hn ho HNc HRc HBc c5 lq; have c4 : w3.cell? ⟨q, 4, none⟩ = some (iv 0) := HBd.out.cell 4; have f4 : w3.frozen? ⟨q, 4, none⟩ = false := HBd.out.frozen 4; have lq := HBd.out.lt)
      have HNe := Lib.hid (HNd.out.set (i := 4) (v := iv nl) HQB.out HQ0.out)
      have HRe := Lib.hid (row_set (i := 4) (u := iv nl) HRd.out HRQ.out)
      have hbe : BoxAt (w3.setCell ⟨q, 4, none⟩ (iv nl)) q 61 #[iv 6, iv 0, iv 0, iv 0, iv nl, iv nh] := HBd.out.set 4 _
      have HBe := Lib.hid hbe
      clear hbe c4 f4 lq HNd HRd HBd
      generalize w3.setCell ⟨q, 4, none⟩ (iv nl) = wb at *
      have HH : Hid (nh ≤ most) := Lib.hid (by omega)
      go_upto_region 22 with fail
      have HE : Hid (ndE width ⟨6, 0, 0, 0, nl, nh⟩ = 0) := Lib.hid (by unfold ndE; simp; omega)
      have c0 : wb.cell? ⟨q, 0, none⟩ = some (iv 6) := HBe.out.cell 0
      have c1 : wb.cell? ⟨q, 1, none⟩ = some (iv 0) := HBe.out.cell 1
      have c2 : wb.cell? ⟨q, 2, none⟩ = some (iv 0) := HBe.out.cell 2
      have c3 : wb.cell? ⟨q, 3, none⟩ = some (iv 0) := HBe.out.cell 3
      have c4 : wb.cell? ⟨q, 4, none⟩ = some (iv nl) := HBe.out.cell 4
      have c5 : wb.cell? ⟨q, 5, none⟩ = some (iv nh) := HBe.out.cell 5
      have lq := HBe.out.lt
      have HRf : Hid ((wb.alloc (.cells #[iv 6, iv 0, iv 0, iv 0, iv nl, iv nh] 61)).ownsRow w0.heap.size 61 6 (.slice Af k cf) k (ndC P)) := Lib.hid (HRe.out.alloc _)
      have HNf : Hid (NS w0 Bx A cap l (wb.alloc (.cells #[iv 6, iv 0, iv 0, iv 0, iv nl, iv nh] 61))) := Lib.hid (HNe.out.below ((Below.refl _ wb).alloc (Nat.le_refl _) _))
      have hsz := HNe.out.2.size
      go_wp2_with (first | (at_builtin; refine wpList_append_lies _ rfl _ _ 22 rfl w0.heap.size 61 i0_ _ 6 48 Tryd.underlying22 HI0.out HZ0.out HZ1.out HZ2.out rfl (by decide) (.slice Af k cf) k (ndC P) rfl HRf.out ⟨wb.heap.size, 0, none⟩ 1 1 [iv 6, iv 0, iv 0, iv 0, iv nl, iv nh] rfl rfl (World.news_of_block (cs := #[iv 6, iv 0, iv 0, iv 0, iv nl, iv nh]) (t := 61) (fr := (0, 0)) (World.alloc_heap_new wb (.cells #[iv 6, iv 0, iv 0, iv 0, iv nl, iv nh] 61))) (by simp [Value.oneCell']) (by decide) (by unfold maxLen; omega) (by omega) (by simp; omega) _ rfl ?_; intro gg cap1 w8 hown8 hgrow hat hlt8; have HN8 := Lib.hid (part_end HNf.out HRf.out hgrow); have HR8 := Lib.hid hown8; clear hown8 hgrow hat hlt8 c0 c1 c2 c3 c4 c5 lq HRf HNf HRe HNe HBe hsz) | (go_at_call 52; (with_reducible refine (HC.out _ (.slice (some ⟨gg, 0, none⟩) (k + 1) cap1) (P ++ [⟨6, 0, 0, 0, nl, nh⟩]) (k + 1) (D - 1) HDp.out (HKp (⟨6, 0, 0, 0, nl, nh⟩)).out HN8.out (HR9 HR8.out).out HPp.out).mono ?_); rintro e w9 hpo; obtain ⟨K9, A9, c9, rfl, hpo9⟩ := hpo.form; have HP9 := Lib.hid hpo9; clear hpo9 hpo HN8 HR8))
      go_ret
      exact po_un ⟨6, 0, 0, 0, nl, nh⟩ rfl HE.out hm1 HH.out HP9.out
    · obtain ⟨d', rfl⟩ := dd.resolve_left g1
      have HC : Hid (∀ (W : World) (fv : Value) (P : List Nd) (k : Nat) (D : Int), D = (d' : Nat) → k = P.length → NS w0 Bx A cap l W → W.ownsRow w0.heap.size 61 6 fv k (ndC P) → k + 2 ^ (d' + 1) ≤ 1000 →
          Calls Tryd.prog 52 #[.pointer (some ⟨Bx, 0, none⟩), fv, iv width, iv D, iv most] W fun e w' => PO w0 Bx A cap l width most d' P e w') := Lib.hid (HIH.out d' rfl)
      have HDp : Hid (D - 1 = (d' : Nat)) := Lib.hid (by have := HD.out; omega)
      have HKp : ∀ n : Nd, Hid (k + 1 = (P ++ [n]).length) := fun n => Lib.hid (by rw [List.length_append, ← HK.out]; rfl)
      have HR9 : ∀ {W : World} {v : Value} {a b c f g h : Int}, W.ownsRow w0.heap.size 61 6 v (k + 1) (ndC P ++ [iv a, iv b, iv c, iv f, iv g, iv h]) → Hid (W.ownsRow w0.heap.size 61 6 v (k + 1) (ndC (P ++ [⟨a, b, c, f, g, h⟩]))) := fun h => Lib.hid (by rw [ndC_snoc]; exact h)
      have HPp : Hid (k + 1 + 2 ^ (d' + 1) ≤ 1000) := Lib.hid (by have := HPl.out; rw [Nat.pow_succ 2 (d' + 1)] at this; have := Nat.two_pow_pos (d' + 1); omega)
      have HPq : ∀ {n : Nd} (K j : Nat), K = (P ++ [n]).length + j → j + 1 ≤ 2 ^ (d' + 1) → K + 2 ^ (d' + 1) ≤ 1000 := fun {n} K j h1 h2 => by
        have h3 := HPl.out
        rw [Nat.pow_succ 2 (d' + 1)] at h3
        rw [← (HKp n).out] at h1
        omega
      have HQB : Hid (w1.heap.size ≠ Bx) := Lib.hid (by obtain ⟨cs, hb⟩ := HN1.out.box; have := hb.lt; omega)
      have HQ0 : Hid (w0.heap.size ≤ w1.heap.size) := Lib.hid HN1.out.2.size
      have HRQ : Hid ((Value.slice Af k cf).ownBlock ≠ some w1.heap.size) := Lib.hid (fun e => absurd (HR1.out.lt _ e).2 (Nat.lt_irrefl _))
      clear dd hleaf HIH HD
      have HNa : Hid (NS w0 Bx A cap l (w1.alloc (.cells #[iv 7, iv 0, iv 0, iv 0, iv 0, iv 0] 61))) := Lib.hid (HN1.out.below ((Below.refl _ w1).alloc (Nat.le_refl _) _))
      have HRa : Hid ((w1.alloc (.cells #[iv 7, iv 0, iv 0, iv 0, iv 0, iv 0] 61)).ownsRow w0.heap.size 61 6 (.slice Af k cf) k (ndC P)) := Lib.hid (HR1.out.alloc _)
      have HBa : Hid (BoxAt (w1.alloc (.cells #[iv 7, iv 0, iv 0, iv 0, iv 0, iv 0] 61)) w1.heap.size 61 #[iv 7, iv 0, iv 0, iv 0, iv 0, iv 0]) := Lib.hid (BoxAt.new w1 61 _)
      clear HN1 HR1
      go_upto_region 17 with fail
      generalize w1.alloc (.cells #[iv 7, iv 0, iv 0, iv 0, iv 0, iv 0] 61) = wa at *
      generalize w1.heap.size = q at *
      have m0 : 0 < most + 1 := by omega
      have m1 : most + 1 ≤ 1000 := by omega
      go_upto_region 18 with (go_at_call 80; (with_reducible refine (HNx.out (most + 1) m0 m1 _ HNa.out).mono ?_); rintro e w2 ⟨nh, rfl, u1, u2, hn, ho⟩; have HNb := Lib.hid hn; have HRb := Lib.hid (row_off2 HRa.out HNa.out.box ho); have HBb := Lib.hid (ho.box HBa.out HQB.out); clear hn ho HNa HRa HBa; have c5 : w2.cell? ⟨q, 5, none⟩ = some (iv 0) := HBb.out.cell 5; have f5 : w2.frozen? ⟨q, 5, none⟩ = false := HBb.out.frozen 5; have lq := HBb.out.lt)
      have HNc := Lib.hid (HNb.out.set (i := 5) (v := iv nh) HQB.out HQ0.out)
      have HRc := Lib.hid (row_set (i := 5) (u := iv nh) HRb.out HRQ.out)
      have hbe : BoxAt (w2.setCell ⟨q, 5, none⟩ (iv nh)) q 61 #[iv 7, iv 0, iv 0, iv 0, iv 0, iv nh] := HBb.out.set 5 _
      have HBc := Lib.hid hbe
      clear hbe c5 f5 lq HNb HRb HBb
      generalize w2.setCell ⟨q, 5, none⟩ (iv nh) = wc at *
      have c5 : wc.cell? ⟨q, 5, none⟩ = some (iv nh) := HBc.out.cell 5
      have lq := HBc.out.lt
      have m2 : 0 < nh + 1 := by omega
      have m3 : nh + 1 ≤ 1000 := by omega
      go_upto_region 19 with (go_at_call 80; (with_reducible refine (HNx.out (nh + 1) m2 m3 _ HNc.out).mono ?_); rintro e w3 ⟨nl, rfl, u3, u4, hn, ho⟩; have HNd := Lib.hid hn; have HRd := Lib.hid (row_off2 HRc.out HNc.out.box ho); have HBd := Lib.hid (ho.box HBc.out HQB.out); clear hn ho HNc HRc HBc c5 lq; have c4 : w3.cell? ⟨q, 4, none⟩ = some (iv 0) := HBd.out.cell 4; have f4 : w3.frozen? ⟨q, 4, none⟩ = false := HBd.out.frozen 4; have lq := HBd.out.lt)
      have HNf := Lib.hid (HNd.out.set (i := 4) (v := iv nl) HQB.out HQ0.out)
      have HRf := Lib.hid (row_set (i := 4) (u := iv nl) HRd.out HRQ.out)
      have hbe : BoxAt (w3.setCell ⟨q, 4, none⟩ (iv nl)) q 61 #[iv 7, iv 0, iv 0, iv 0, iv nl, iv nh] := HBd.out.set 4 _
      have HBf := Lib.hid hbe
      clear hbe c4 f4 lq HNd HRd HBd
      generalize w3.setCell ⟨q, 4, none⟩ (iv nl) = wf at *
      have HH : Hid (nh ≤ most) := Lib.hid (by omega)
      go_upto_if 99 with (go_at_call 80; (with_reducible refine (HNx.out 2 (by decide) (by decide) _ HNf.out).mono ?_); rintro e w5 ⟨nu, rfl, u5, u6, hn, ho⟩; have HNg := Lib.hid hn; have HRg := Lib.hid (row_off2 HRf.out HNf.out.box ho); have HBg := Lib.hid (ho.box HBf.out HQB.out); clear hn ho HNf HRf HBf)
      by_cases hnu : nu = 1
      · have c0 : w5.cell? ⟨q, 0, none⟩ = some (iv 7) := HBg.out.cell 0
        have f0 : w5.frozen? ⟨q, 0, none⟩ = false := HBg.out.frozen 0
        have lq := HBg.out.lt
        have HNe := Lib.hid (HNg.out.set (i := 0) (v := iv 8) HQB.out HQ0.out)
        have HRe := Lib.hid (row_set (i := 0) (u := iv 8) HRg.out HRQ.out)
        have hbe : BoxAt (w5.setCell ⟨q, 0, none⟩ (iv 8)) q 61 #[iv 8, iv 0, iv 0, iv 0, iv nl, iv nh] := HBg.out.set 0 _
        have HBe := Lib.hid hbe
        clear hbe
        go_upto_region 21 with fail
        clear c0 f0 lq HNg HRg HBg
        generalize w5.setCell ⟨q, 0, none⟩ (iv 8) = wb at *
        have HE : Hid (ndE width ⟨8, 0, 0, 0, nl, nh⟩ = 0) := Lib.hid (by unfold ndE; simp; omega)
        have c0 : wb.cell? ⟨q, 0, none⟩ = some (iv 8) := HBe.out.cell 0
        have c1 : wb.cell? ⟨q, 1, none⟩ = some (iv 0) := HBe.out.cell 1
        have c2 : wb.cell? ⟨q, 2, none⟩ = some (iv 0) := HBe.out.cell 2
        have c3 : wb.cell? ⟨q, 3, none⟩ = some (iv 0) := HBe.out.cell 3
        have c4 : wb.cell? ⟨q, 4, none⟩ = some (iv nl) := HBe.out.cell 4
        have c5 : wb.cell? ⟨q, 5, none⟩ = some (iv nh) := HBe.out.cell 5
        have lq := HBe.out.lt
        have HRf : Hid ((wb.alloc (.cells #[iv 8, iv 0, iv 0, iv 0, iv nl, iv nh] 61)).ownsRow w0.heap.size 61 6 (.slice Af k cf) k (ndC P)) := Lib.hid (HRe.out.alloc _)
        have HNf : Hid (NS w0 Bx A cap l (wb.alloc (.cells #[iv 8, iv 0, iv 0, iv 0, iv nl, iv nh] 61))) := Lib.hid (HNe.out.below ((Below.refl _ wb).alloc (Nat.le_refl _) _))
        have hsz := HNe.out.2.size
        go_wp2_with (first | (at_builtin; refine wpList_append_lies _ rfl _ _ 22 rfl w0.heap.size 61 i0_ _ 6 48 Tryd.underlying22 HI0.out HZ0.out HZ1.out HZ2.out rfl (by decide) (.slice Af k cf) k (ndC P) rfl HRf.out ⟨wb.heap.size, 0, none⟩ 1 1 [iv 8, iv 0, iv 0, iv 0, iv nl, iv nh] rfl rfl (World.news_of_block (cs := #[iv 8, iv 0, iv 0, iv 0, iv nl, iv nh]) (t := 61) (fr := (0, 0)) (World.alloc_heap_new wb (.cells #[iv 8, iv 0, iv 0, iv 0, iv nl, iv nh] 61))) (by simp [Value.oneCell']) (by decide) (by unfold maxLen; omega) (by omega) (by simp; omega) _ rfl ?_; intro gg cap1 w8 hown8 hgrow hat hlt8; have HN8 := Lib.hid (part_end HNf.out HRf.out hgrow); have HR8 := Lib.hid hown8; clear hown8 hgrow hat hlt8 c0 c1 c2 c3 c4 c5 lq HRf HNf HRe HNe HBe hsz) | (go_at_call 52; (with_reducible refine (HC.out _ (.slice A9 K9 c9) (P ++ [⟨8, 0, 0, 0, nl, nh⟩] ++ x9.flat) K9 (D - 1) HDp.out HK9.out HN9.out HR9b.out HL9.out).mono ?_); rintro e w10 hpo; obtain ⟨K10, A10, c10, rfl, hpo9⟩ := hpo.form; have HP9 := Lib.hid hpo9; clear hpo9 hpo HN9 HR9b) | (go_at_call 52; (with_reducible refine (HC.out _ (.slice (some ⟨gg, 0, none⟩) (k + 1) cap1) (P ++ [⟨8, 0, 0, 0, nl, nh⟩]) (k + 1) (D - 1) HDp.out (HKp (⟨8, 0, 0, 0, nl, nh⟩)).out HN8.out (HR9 HR8.out).out HPp.out).mono ?_); rintro e w9 hpo; obtain ⟨K9, A9, c9, x9, rfl, hx, hk1, hk2, hn, hr⟩ := hpo.form2; have HX9 := Lib.hid hx; have HK9 := Lib.hid hk2; have HL9 := Lib.hid (HPq _ _ hk1 hx.2.2.2); have HN9 := Lib.hid hn; have HR9b := Lib.hid hr; clear hx hk1 hk2 hn hr hpo HN8 HR8))
        go_ret
        exact po_bi ⟨8, 0, 0, 0, nl, nh⟩ x9 rfl HE.out hm1 HH.out HX9.out.1 HX9.out.2.1 HX9.out.2.2.1 HX9.out.2.2.2 HP9.out
      · go_upto_region 22 with fail
        have HNe := HNg
        have HRe := HRg
        have HBe := HBg
        clear HNg HRg HBg
        generalize w5 = wb at *
        have HE : Hid (ndE width ⟨7, 0, 0, 0, nl, nh⟩ = 0) := Lib.hid (by unfold ndE; simp; omega)
        have c0 : wb.cell? ⟨q, 0, none⟩ = some (iv 7) := HBe.out.cell 0
        have c1 : wb.cell? ⟨q, 1, none⟩ = some (iv 0) := HBe.out.cell 1
        have c2 : wb.cell? ⟨q, 2, none⟩ = some (iv 0) := HBe.out.cell 2
        have c3 : wb.cell? ⟨q, 3, none⟩ = some (iv 0) := HBe.out.cell 3
        have c4 : wb.cell? ⟨q, 4, none⟩ = some (iv nl) := HBe.out.cell 4
        have c5 : wb.cell? ⟨q, 5, none⟩ = some (iv nh) := HBe.out.cell 5
        have lq := HBe.out.lt
        have HRf : Hid ((wb.alloc (.cells #[iv 7, iv 0, iv 0, iv 0, iv nl, iv nh] 61)).ownsRow w0.heap.size 61 6 (.slice Af k cf) k (ndC P)) := Lib.hid (HRe.out.alloc _)
        have HNf : Hid (NS w0 Bx A cap l (wb.alloc (.cells #[iv 7, iv 0, iv 0, iv 0, iv nl, iv nh] 61))) := Lib.hid (HNe.out.below ((Below.refl _ wb).alloc (Nat.le_refl _) _))
        have hsz := HNe.out.2.size
        go_wp2_with (first | (at_builtin; refine wpList_append_lies _ rfl _ _ 22 rfl w0.heap.size 61 i0_ _ 6 48 Tryd.underlying22 HI0.out HZ0.out HZ1.out HZ2.out rfl (by decide) (.slice Af k cf) k (ndC P) rfl HRf.out ⟨wb.heap.size, 0, none⟩ 1 1 [iv 7, iv 0, iv 0, iv 0, iv nl, iv nh] rfl rfl (World.news_of_block (cs := #[iv 7, iv 0, iv 0, iv 0, iv nl, iv nh]) (t := 61) (fr := (0, 0)) (World.alloc_heap_new wb (.cells #[iv 7, iv 0, iv 0, iv 0, iv nl, iv nh] 61))) (by simp [Value.oneCell']) (by decide) (by unfold maxLen; omega) (by omega) (by simp; omega) _ rfl ?_; intro gg cap1 w8 hown8 hgrow hat hlt8; have HN8 := Lib.hid (part_end HNf.out HRf.out hgrow); have HR8 := Lib.hid hown8; clear hown8 hgrow hat hlt8 c0 c1 c2 c3 c4 c5 lq HRf HNf HRe HNe HBe hsz) | (go_at_call 52; (with_reducible refine (HC.out _ (.slice (some ⟨gg, 0, none⟩) (k + 1) cap1) (P ++ [⟨7, 0, 0, 0, nl, nh⟩]) (k + 1) (D - 1) HDp.out (HKp (⟨7, 0, 0, 0, nl, nh⟩)).out HN8.out (HR9 HR8.out).out HPp.out).mono ?_); rintro e w9 hpo; obtain ⟨K9, A9, c9, rfl, hpo9⟩ := hpo.form; have HP9 := Lib.hid hpo9; clear hpo9 hpo HN8 HR8))
        go_ret
        exact po_un ⟨7, 0, 0, 0, nl, nh⟩ rfl HE.out hm1 HH.out HP9.out
end Go.Proofs.YtnpnfdnaglcnfaaDoor
