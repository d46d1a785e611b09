/- Better. -/
import Derived.Test.YtnpnfdnaglcnfaaDoorEq
import Derived.BigQuiet
namespace Go.Proofs.YtnpnfdnaglcnfaaDoor
open Go.RowKit Go.Shelf

theorem cmpL_drop : ∀ (l m : List Int) (k : Nat), l.length = m.length → (∀ j, j < k → l[j]? = m[j]?) → cmpL l m = cmpL (l.drop k) (m.drop k)
  | [], [], k, _, _ => by simp
  | [], _ :: _, _, h, _ => by simp at h
  | _ :: _, [], _, h, _ => by simp at h
  | x :: l, y :: m, 0, _, _ => rfl
  | x :: l, y :: m, k + 1, h, hj => by
    have h0 := hj 0 (by omega)
    obtain rfl : x = y := by simpa using h0
    rw [List.drop_succ_cons, List.drop_succ_cons, ← cmpL_drop l m k (by simpa using h) (fun j hj' => by simpa using hj (j + 1) (by omega))]
    show (if x = x then cmpL l m else _) = _
    rw [if_pos rfl]
set_option maxRecDepth 100000 in
set_option maxHeartbeats 8000000 in
theorem Better_ok (A : Option Addr) (cap : Nat) (bs : List (Nat × List Nd)) (B : Option Addr) (cb : Nat) (t : List (List Int)) (D : Option Addr) (cd : Nat) (u : List (List Int)) (w : World) (hA : LawsL w A bs) (hb : BkOk bs) (hB : RowsL w B t) (ht : trE t 2 = 0) (hsh : Short t) (hD : RowsL w D u) (hu : trE u 2 = 0) (hsu : Short u) :
    Calls Tryd.prog 35 #[.slice A bs.length cap, iv 2, .slice B t.length cb, .slice D u.length cd] w fun e w' => e = .returned (.tuple #[iv (cmpL (cstL t bs) (cstL u bs)), iv 0]) ∧ Below w.heap.size w w' := by
  have HC := Lib.hid (costs_ok A cap bs B cb t w hA hb hB ht hsh)
  have HC2 := Lib.hid (fun W (h : Below w.heap.size w W) => costs_ok A cap bs D cd u W (hA.below h) hb (hD.below h) hu hsu)
  have hlk := cstL_len t bs
  have hlm := cstL_len u bs
  obtain ⟨z, hz⟩ : ∃ z, z = cmpL (cstL t bs) (cstL u bs) := ⟨_, rfl⟩
  rw [← hz]
  have HZ := Lib.hid hz
  have hbd : ∀ (t : List (List Int)), trE t 2 = 0 → ∀ x ∈ cstL t bs, 0 ≤ x ∧ x ≤ 100000 := fun t ht x hx => by
    obtain ⟨h1, h2⟩ := cstL_in t bs x hx
    have h3 := hb.1
    have h4 := tr_len ht
    have h5 : bs.length * t.length ≤ 8 * 400 := Nat.mul_le_mul h3 h4
    have h6 : ((bs.length * t.length : Nat) : Int) ≤ 3200 := by omega
    rw [Int.natCast_mul] at h6
    exact ⟨h1, by omega⟩
  have hEq := eql_ten (cstL t bs) (cstL u bs) hlk hlm (hbd t ht) (hbd u hu)
  generalize cstL t bs = l at *
  generalize cstL u bs = m at *
  have HDr := Lib.hid (fun k => cmpL_drop l m k (hlk.trans hlm.symm))
  have HLe : Hid (∀ k, k = 10 → (∀ j, j < k → l[j]? = m[j]?) → l = m) := Lib.hid (fun k hk h => List.ext_getElem? fun j => by
    by_cases hj : j < k
    · exact h j hj
    · rw [List.getElem?_eq_none (by omega), List.getElem?_eq_none (by omega)])
  have HTl := Lib.hid (fun W g (h : TenAt W g l) {r : Nat} (hr : r < 10) => ten_cell h (by rw [hlk]; exact hr))
  have HTm := Lib.hid (fun W g (h : TenAt W g m) {r : Nat} (hr : r < 10) => ten_cell h (by rw [hlm]; exact hr))
  have HGl : Hid (∀ k, k < 10 → l[k]? = some (l.getD k 0) ∧ l.drop k = l.getD k 0 :: l.drop (k + 1)) := Lib.hid (fun k hk => by
    obtain ⟨x, hx, hd⟩ := drop_at (L := l) (k := k) (by omega)
    have e : l.getD k 0 = x := by rw [List.getD_eq_getElem?_getD, hx]; rfl
    rw [e]; exact ⟨hx, hd⟩)
  have HGm : Hid (∀ k, k < 10 → m[k]? = some (m.getD k 0) ∧ m.drop k = m.getD k 0 :: m.drop (k + 1)) := Lib.hid (fun k hk => by
    obtain ⟨x, hx, hd⟩ := drop_at (L := m) (k := k) (by omega)
    have e : m.getD k 0 = x := by rw [List.getD_eq_getElem?_getD, hx]; rfl
    rw [e]; exact ⟨hx, hd⟩)
  have HC0 : Hid (l = m → z = 0) := Lib.hid (fun e => by rw [hz]; exact (cmpL_zero l m (hlk.trans hlm.symm)).2 e)
  obtain ⟨dq, hdq⟩ : ∃ dq, dq = decide (l = m) := ⟨_, rfl⟩
  rw [← hdq] at hEq
  have HDq := Lib.hid hdq
  generalize bs.length = M at *
  generalize t.length = T at *
  generalize u.length = U at *
  clear hA hb hB ht hsh hD hu hsu hz hbd hdq
  have HLx : Hid (∀ (W : World) (cs : Array Value), cs = (l.map fun x => iv x).toArray → TenAt (W.alloc (.cells cs 102)) W.heap.size l) := Lib.hid (fun W cs h => by rw [h]; exact BoxAt.new W 102 _)
  have HLy : Hid (∀ (W : World) (cs : Array Value), cs = (m.map fun x => iv x).toArray → TenAt (W.alloc (.cells cs 102)) W.heap.size m) := Lib.hid (fun W cs h => by rw [h]; exact BoxAt.new W 102 _)
  obtain ⟨L0, hL0⟩ : ∃ L0, L0 = l := ⟨_, rfl⟩
  obtain ⟨M0, hM0⟩ : ∃ M0, M0 = m := ⟨_, rfl⟩
  rw [← hL0] at HTl HGl HDr HLe HC0 HDq HLx HZ
  rw [← hM0] at HTm HGm HDr HLe HC0 HDq HLy HZ
  obtain ⟨x0, x1, x2, x3, x4, x5, x6, x7, x8, x9, rfl⟩ := arr10 l hlk
  obtain ⟨y0, y1, y2, y3, y4, y5, y6, y7, y8, y9, rfl⟩ := arr10 m hlm
  have HLx2 : Hid (∀ W : World, TenAt (W.alloc (.cells #[iv x0, iv x1, iv x2, iv x3, iv x4, iv x5, iv x6, iv x7, iv x8, iv x9] 102)) W.heap.size L0) := Lib.hid (fun W => HLx.out W _ (by rw [hL0]; rfl))
  have HLy2 : Hid (∀ W : World, TenAt (W.alloc (.cells #[iv y0, iv y1, iv y2, iv y3, iv y4, iv y5, iv y6, iv y7, iv y8, iv y9] 102)) W.heap.size M0) := Lib.hid (fun W => HLy.out W _ (by rw [hM0]; rfl))
  have hEq2 : ∀ W, Sem.run Tryd.prog (binOp BinOp.eql 102 (.agg #[iv x0, iv x1, iv x2, iv x3, iv x4, iv x5, iv x6, iv x7, iv x8, iv x9]) (.agg #[iv y0, iv y1, iv y2, iv y3, iv y4, iv y5, iv y6, iv y7, iv y8, iv y9])) W = .ok (.bool dq) W := hEq
  simp only [List.map_cons, List.map_nil] at HC HC2
  clear hL0 hM0 HLx HLy hEq hlk hlm
  go_enter Tryd.func35, Tryd.ntmps35
  go_upto_region 5 with (first
    | (go_at_call 61; (with_reducible refine HC.out.mono ?_); rintro e w1 ⟨rfl, hb1⟩; have hb2 := hb1.alloc hb1.size (.cells #[iv x0, iv x1, iv x2, iv x3, iv x4, iv x5, iv x6, iv x7, iv x8, iv x9] 102); have hx1 := HLx2.out w1)
    | (go_at_call 61; (with_reducible refine (HC2.out _ hb2).mono ?_); rintro e w2 ⟨rfl, hb3⟩; have hb4 := below_step hb2 hb3; have hx2 := BoxAt.below hx1 hb3 (BoxAt.lt hx1)))
  have hx1b := (BoxAt.new w1 102 #[iv x0, iv x1, iv x2, iv x3, iv x4, iv x5, iv x6, iv x7, iv x8, iv x9]).below hb3 (by simp)
  have hxz : ∀ j : Nat, (w2.alloc (.cells #[iv y0, iv y1, iv y2, iv y3, iv y4, iv y5, iv y6, iv y7, iv y8, iv y9] 102)).cell? ⟨w1.heap.size, j, none⟩ = #[iv x0, iv x1, iv x2, iv x3, iv x4, iv x5, iv x6, iv x7, iv x8, iv x9][j]? := fun j => (hx1b.alloc _).cell j
  have hyz : ∀ j : Nat, (w2.alloc (.cells #[iv y0, iv y1, iv y2, iv y3, iv y4, iv y5, iv y6, iv y7, iv y8, iv y9] 102)).cell? ⟨w2.heap.size, j, none⟩ = #[iv y0, iv y1, iv y2, iv y3, iv y4, iv y5, iv y6, iv y7, iv y8, iv y9][j]? := fun j => (BoxAt.new w2 102 _).cell j
  have HB := Lib.hid (hb4.alloc hb4.size (.cells #[iv y0, iv y1, iv y2, iv y3, iv y4, iv y5, iv y6, iv y7, iv y8, iv y9] 102))
  have HX : Hid (TenAt (w2.alloc (.cells #[iv y0, iv y1, iv y2, iv y3, iv y4, iv y5, iv y6, iv y7, iv y8, iv y9] 102)) w1.heap.size L0) := Lib.hid (BoxAt.alloc hx2 _)
  have HY := Lib.hid (HLy2.out w2)
  clear hb1 hb2 hb3 hb4 hx1 hx2 HC HC2 HLx2 HLy2
  have lx : w1.heap.size < (w2.alloc (.cells #[iv y0, iv y1, iv y2, iv y3, iv y4, iv y5, iv y6, iv y7, iv y8, iv y9] 102)).heap.size := BoxAt.lt HX.out
  have ly : w2.heap.size < (w2.alloc (.cells #[iv y0, iv y1, iv y2, iv y3, iv y4, iv y5, iv y6, iv y7, iv y8, iv y9] 102)).heap.size := BoxAt.lt HY.out
  clear hx1b
  generalize w2.alloc (.cells #[iv y0, iv y1, iv y2, iv y3, iv y4, iv y5, iv y6, iv y7, iv y8, iv y9] 102) = wz at *
  generalize w1.heap.size = gx at *
  generalize w2.heap.size = gy at *
  have p0 : wz.cell? ⟨gx, 0, none⟩ = some (iv x0) := hxz 0
  have r0 : wz.cell? ⟨gy, 0, none⟩ = some (iv y0) := hyz 0
  have p1 : wz.cell? ⟨gx, 1, none⟩ = some (iv x1) := hxz 1
  have r1 : wz.cell? ⟨gy, 1, none⟩ = some (iv y1) := hyz 1
  have p2 : wz.cell? ⟨gx, 2, none⟩ = some (iv x2) := hxz 2
  have r2 : wz.cell? ⟨gy, 2, none⟩ = some (iv y2) := hyz 2
  have p3 : wz.cell? ⟨gx, 3, none⟩ = some (iv x3) := hxz 3
  have r3 : wz.cell? ⟨gy, 3, none⟩ = some (iv y3) := hyz 3
  have p4 : wz.cell? ⟨gx, 4, none⟩ = some (iv x4) := hxz 4
  have r4 : wz.cell? ⟨gy, 4, none⟩ = some (iv y4) := hyz 4
  have p5 : wz.cell? ⟨gx, 5, none⟩ = some (iv x5) := hxz 5
  have r5 : wz.cell? ⟨gy, 5, none⟩ = some (iv y5) := hyz 5
  have p6 : wz.cell? ⟨gx, 6, none⟩ = some (iv x6) := hxz 6
  have r6 : wz.cell? ⟨gy, 6, none⟩ = some (iv y6) := hyz 6
  have p7 : wz.cell? ⟨gx, 7, none⟩ = some (iv x7) := hxz 7
  have r7 : wz.cell? ⟨gy, 7, none⟩ = some (iv y7) := hyz 7
  have p8 : wz.cell? ⟨gx, 8, none⟩ = some (iv x8) := hxz 8
  have r8 : wz.cell? ⟨gy, 8, none⟩ = some (iv y8) := hyz 8
  have p9 : wz.cell? ⟨gx, 9, none⟩ = some (iv x9) := hxz 9
  have r9 : wz.cell? ⟨gy, 9, none⟩ = some (iv y9) := hyz 9
  clear hxz hyz
  cases dq with
  | true =>
    have hz0 : z = 0 := HC0.out (of_decide_eq_true HDq.out.symm)
    subst hz0
    go_wp2
    exact bodyPost_ret (v := .tuple #[iv 0, iv 0]) (by simp [results, Tryd.results35, go_sem]) rfl ⟨rfl, HB.out⟩
  | false =>
    have HNe : Hid (L0 ≠ M0) := Lib.hid (of_decide_eq_false HDq.out.symm)
    go_upto_region 7 with fail
    clear p0 r0 p1 r1 p2 r2 p3 r3 p4 r4 p5 r5 p6 r6 p7 r7 p8 r8 p9 r9 hEq2
    go_wp2
    go_loopw [13] (fun i wr => ∃ k : Nat, k < 10 ∧ i = iv k ∧ Hid (∀ j, j < k → L0[j]? = M0[j]?) ∧ Hid (Below wz.heap.size wz wr)) (fun i _ => 10 - (intOf i).toNat)
    case atStart => exact ⟨0, by decide, rfl, Lib.hid (fun j h => by omega), Lib.hid (Below.refl _ _)⟩
    case round =>
      obtain ⟨k, hk, rfl, HEk, HBr⟩ := hrel
      have i0 : (0 : Int) ≤ (k : Int) := Int.natCast_nonneg _
      have i1 : (k : Int) < 10 := by omega
      have cx := HTl.out wr gx (BoxAt.below HX.out HBr.out (BoxAt.lt HX.out)) hk
      have cy := HTm.out wr gy (BoxAt.below HY.out HBr.out (BoxAt.lt HY.out)) hk
      have l1 := World.block_lt_of_cell? _ _ cx
      have l2 := World.block_lt_of_cell? _ _ cy
      have hgl := Lib.hid (HGl.out k hk)
      have hgm := Lib.hid (HGm.out k hk)
      have HBe : Hid (Below w.heap.size w wr) := Lib.hid (HB.out.trans (HBr.out.mono HB.out.size))
      generalize L0.getD k 0 = x at *
      generalize M0.getD k 0 = y at *
      by_cases hxy : x = y
      · subst hxy
        have HE2 : Hid (∀ j, j < k + 1 → L0[j]? = M0[j]?) := Lib.hid (fun j hj => by
          by_cases h : j = k
          · subst h; rw [hgl.out.1, hgm.out.1]
          · exact HEk.out j (by omega))
        have hk1 : k + 1 < 10 := by
          rcases Nat.lt_or_ge (k + 1) 10 with h | h
          · exact h
          · exact absurd (HLe.out (k + 1) (by omega) HE2.out) HNe.out
        go_wp2
        go_quiet (fail)
        go_wp2
        exact ⟨⟨k + 1, hk1, by go_num, HE2, Lib.hid (below_drewN HBr.out)⟩, by simp [intOf]; omega⟩
      · have hzv : z = if x < y then -1 else 1 := by
          rw [HZ.out, HDr.out k HEk.out, hgl.out.2, hgm.out.2]
          show (if x = y then _ else _) = _
          rw [if_neg hxy]
        have HCm := Lib.hid (fun W => compare_any x y hxy W)
        rw [← hzv] at HCm
        clear hzv
        have hne2 : (x == y) = false := by simpa using hxy
        go_wp2
        go_quiet (fail)
        have cx2 : (wr.drewN nq).cell? ⟨gx, k, none⟩ = some (iv x) := cx
        have cy2 : (wr.drewN nq).cell? ⟨gy, k, none⟩ = some (iv y) := cy
        have l3 : gx < (wr.drewN nq).heap.size := l1
        have l4 : gy < (wr.drewN nq).heap.size := l2
        have HB5 : Hid (Below w.heap.size w (wr.drewN nq)) := Lib.hid (below_drewN HBe.out)
        clear cx cy l1 l2
        generalize wr.drewN nq = w5 at *
        go_upto_region 10 with fail
        go_quiet ((go_at_call 62; with_reducible exact Calls.quiet_of_same (HCm.out _)))
        go_wp2
        exact bodyPost_ret (v := .tuple #[iv z, iv 0]) (by simp [results, Tryd.results35, go_sem]) rfl ⟨rfl, below_drewN HB5.out⟩
end Go.Proofs.YtnpnfdnaglcnfaaDoor
