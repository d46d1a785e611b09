/- The lines of a node; verdicts; Eval. -/
import Derived.Test.YtnpnfdnaglcnfaaDoorVe
import Derived.Test.YtnpnfdnaglcnfaaDoorFldL
import Derived.Test.YtnpnfdnaglcnfaaDoorChk
namespace Go.Proofs.YtnpnfdnaglcnfaaDoor
open Go.RowKit Go.Shelf

theorem inf3 : (Tryd.prog.info? 3).map (fun i => (i.zero, i.size, i.bytes)) = some (some (.int .i64 0), 1, 8) := by kernel_rfl
/-- A row of ints, its block known whole. -/
def IntRow (W : World) (g M : Nat) (F : Nat → Int) : Prop := ∃ cs : Array Value, BoxAt W g 3 cs ∧ cs.size = M ∧ ∀ i, i < M → cs[i]? = some (iv (F i))
theorem IntRow.below {W W' : World} {g M : Nat} {F : Nat → Int} (h : IntRow W g M F) (hb : Below W.heap.size W W') : IntRow W' g M F := by
  obtain ⟨cs, h1, h2, h3⟩ := h
  exact ⟨cs, box_step h1 hb, h2, h3⟩
theorem IntRow.lt {W : World} {g M : Nat} {F : Nat → Int} (h : IntRow W g M F) : g < W.heap.size := by
  obtain ⟨cs, h1, h2, h3⟩ := h
  exact h1.lt
theorem IntRow.cell {W : World} {g M : Nat} {F : Nat → Int} (h : IntRow W g M F) {i : Nat} (hi : i < M) : W.cell? ⟨g, i, none⟩ = some (iv (F i)) := by
  obtain ⟨cs, h1, h2, h3⟩ := h
  exact (h1.cell i).trans (h3 i hi)
theorem IntRow.frozen {W : World} {g M : Nat} {F : Nat → Int} (h : IntRow W g M F) (i : Nat) : W.frozen? ⟨g, i, none⟩ = false := by
  obtain ⟨cs, h1, h2, h3⟩ := h
  exact h1.frozen i
theorem IntRow.set {W : World} {g M : Nat} {F : Nat → Int} (h : IntRow W g M F) (k : Nat) (v : Int) : IntRow (W.setCell ⟨g, k, none⟩ (iv v)) g M (fun j => if j = k then v else F j) := by
  obtain ⟨cs, h1, h2, h3⟩ := h
  refine ⟨_, h1.set k _, by simpa using h2, fun i hi => ?_⟩
  show _ = some (iv (if i = k then v else F i))
  rw [Array.getElem?_setIfInBounds]
  by_cases he : k = i
  · subst he
    rw [if_pos rfl, if_pos (by omega), if_pos rfl]
  · rw [if_neg he, if_neg (fun e => he (Eq.symm e))]
    exact h3 i hi
theorem IntRow.made (w : World) (n : Nat) : IntRow (w.alloc (.cells (madeCells #[.int .i64 0] n) 3)) w.heap.size n (fun _ => 0) :=
  ⟨_, BoxAt.new w 3 _, by simp [size_madeCells], fun i hi => by
    have h := toList_madeCells_one (.int .i64 0) n
    rw [← Array.getElem?_toList, h, List.getElem?_replicate, if_pos hi]⟩
theorem IntRow.ext {W : World} {g M : Nat} {F G : Nat → Int} (h : IntRow W g M F) (he : ∀ i, i < M → F i = G i) : IntRow W g M G := by
  obtain ⟨cs, h1, h2, h3⟩ := h
  exact ⟨cs, h1, h2, fun i hi => by rw [h3 i hi, he i hi]⟩
set_option maxRecDepth 100000 in
set_option maxHeartbeats 8000000 in
theorem vds_any (n : Nd) (va vb : Value) (A : Option Addr) (cap : Nat) (t : List (List Int)) (x : Int) (a b : Nat → Int) (tb : Nat) (w : World) (hn : ndE x n = 0) (ht : trE t x = 0) (hA : RowsL w A t) (htb : BoxAt w tb 23 #[.slice A t.length cap])
    (ha : 1 ≤ prt n.op → LineAt w va t.length a) (hb : 2 ≤ prt n.op → LineAt w vb t.length b) :
    Calls Tryd.prog 82 #[ndV n, va, vb, .pointer (some ⟨tb, 0, none⟩)] w fun e w' => ∃ v, e = .returned v ∧ LineAt w' v t.length (vdV t n a b) ∧ Below w.heap.size w w' := by
  obtain ⟨_, ht2, _⟩ := trE_rows ht
  have HV := Lib.hid (fun i W (hi : i ≤ 100000) (hW : Below w.heap.size w W) => vd_any n va vb A cap t x i a b W hi hn ht (hA.below hW) (fun h => (ha h).below hW) (fun h => (hb h).below hW))
  have HTB := Lib.hid htb
  obtain ⟨F, hF⟩ : ∃ F, F = vdV t n a b := ⟨_, rfl⟩
  rw [← hF] at HV ⊢
  clear hF hA ht hn ha hb htb
  generalize t.length = T at *
  obtain ⟨op, l, r', k', lo, hi'⟩ := n
  have c0 : (w.alloc (.cells #[iv op, iv l, iv r', iv k', iv lo, iv hi'] 61)).cell? ⟨tb, 0, none⟩ = some (.slice A T cap) := (HTB.out.alloc _).cell 0
  have l0 : tb < (w.alloc (.cells #[iv op, iv l, iv r', iv k', iv lo, iv hi'] 61)).heap.size := (HTB.out.alloc _).lt
  have t0 : (0 : Int) ≤ (T : Int) := Int.natCast_nonneg _
  have t1 : (T : Int) ≤ 400 := by omega
  have hmk : ∀ W, (Instr.makeSlice 95 (.int .i64 ((T : Int) + 1)) (.int .i64 ((T : Int) + 1))).run Tryd.prog W = .ok (.slice (some ⟨W.heap.size, 0, none⟩) (T + 1) (T + 1)) (W.alloc (.cells (madeCells #[.int .i64 0] (T + 1)) 3)) := fun W => by
    have h := run_make_row' (P := Tryd.prog) 95 3 (.int .i64 0) 8 Tryd.underlying95 inf3 rfl .i64 .i64 (T + 1) (by omega) (by omega) W
    rwa [Int.natCast_add] at h
  go_enter Tryd.func82, Tryd.ntmps82
  go_upto_region 2 with fail
  have HX0 := BoxAt.new w 61 #[iv op, iv l, iv r', iv k', iv lo, iv hi']
  have HG0 := IntRow.made (w.alloc (.cells #[iv op, iv l, iv r', iv k', iv lo, iv hi'] 61)) (T + 1)
  have HX := Lib.hid (HX0.alloc (.cells (madeCells #[.int .i64 0] (T + 1)) 3))
  have HB := Lib.hid (((Below.refl _ w).alloc (Nat.le_refl _) (.cells #[iv op, iv l, iv r', iv k', iv lo, iv hi'] 61)).alloc (by simp) (.cells (madeCells #[.int .i64 0] (T + 1)) 3))
  rw [World.size_alloc] at HG0
  have HG := Lib.hid (HG0.ext (G := fun j => if j < 0 then F j else 0) (fun i _ => by simp))
  obtain ⟨Bn, hBn⟩ : ∃ q, q = w.heap.size := ⟨_, rfl⟩
  obtain ⟨g, hg⟩ : ∃ q, q = w.heap.size + 1 := ⟨_, rfl⟩
  rw [← hg] at HG ⊢
  rw [← hBn] at HX ⊢
  have hgB : w.heap.size ≤ g := by omega
  have hBg : Bn ≠ g := by omega
  have htg : tb ≠ g := by have := HTB.out.lt; omega
  clear hBn hg HX0 HG0 c0 l0 hmk
  generalize (w.alloc (.cells #[iv op, iv l, iv r', iv k', iv lo, iv hi'] 61)).alloc (.cells (madeCells #[.int .i64 0] (T + 1)) 3) = w0 at *
  go_wp2
  go_loopw [16] (fun i' wr => ∃ k : Nat, k ≤ T + 1 ∧ i' = iv k ∧ Hid (IntRow wr g (T + 1) (fun j => if j < k then F j else 0)) ∧ Hid (BoxAt wr Bn 61 #[iv op, iv l, iv r', iv k', iv lo, iv hi']) ∧ Hid (Below w.heap.size w wr)) (fun i' _ => T + 1 - (intOf i').toNat)
  case atStart => exact ⟨0, Nat.zero_le _, rfl, HG, HX, HB⟩
  case round =>
    obtain ⟨k, hk, rfl, HG, HX, HB⟩ := hrel
    have k0 : (0 : Int) ≤ (k : Int) := Int.natCast_nonneg _
    by_cases hlt : k < T + 1
    · have k1 : (k : Int) < (T : Int) + 1 := by omega
      have c0 : wr.cell? ⟨tb, 0, none⟩ = some (.slice A T cap) := (HTB.out.below HB.out HTB.out.lt).cell 0
      have l0 : tb < wr.heap.size := (HTB.out.below HB.out HTB.out.lt).lt
      have x0 : wr.cell? ⟨Bn, 0, none⟩ = some (iv op) := HX.out.cell 0
      have x1 : wr.cell? ⟨Bn, 1, none⟩ = some (iv l) := HX.out.cell 1
      have x2 : wr.cell? ⟨Bn, 2, none⟩ = some (iv r') := HX.out.cell 2
      have x3 : wr.cell? ⟨Bn, 3, none⟩ = some (iv k') := HX.out.cell 3
      have x4 : wr.cell? ⟨Bn, 4, none⟩ = some (iv lo) := HX.out.cell 4
      have x5 : wr.cell? ⟨Bn, 5, none⟩ = some (iv hi') := HX.out.cell 5
      have lx := HX.out.lt
      have HVk := Lib.hid (HV.out k wr (by omega) HB.out)
      go_wp2_with (go_at_call 83; (with_reducible refine HVk.out.mono ?_); rintro e wb ⟨rfl, hb⟩; have HGb := Lib.hid (HG.out.below hb); have HXb := Lib.hid (box_step HX.out hb); have HBb := Lib.hid (below_step HB.out hb); have g0 := HGb.out.cell (i := k) hlt; have g1 := HGb.out.frozen k; have g2 := HGb.out.lt)
      go_roundw
      case rel =>
        refine ⟨k + 1, by omega, by go_num, Lib.hid ((HGb.out.set k (F k)).ext fun j _ => ?_), Lib.hid (HXb.out.other hBg _ _), Lib.hid (HBb.out.setCell (p := ⟨g, k, none⟩) hgB _)⟩
        by_cases hj : j = k
        · subst hj
          rw [if_pos rfl, if_pos (by omega)]
        · rw [if_neg hj]
          by_cases hj2 : j < k
          · rw [if_pos hj2, if_pos (by omega)]
          · rw [if_neg hj2, if_neg (by omega)]
      case measure => simp [intOf]; omega
    · obtain rfl : k = T + 1 := by omega
      have hline : LineAt wr (.slice (some ⟨g, 0, none⟩) (T + 1) (T + 1)) T F := by
        obtain ⟨cs, h1, h2, h3⟩ := HG.out
        exact ⟨g, T + 1, cs, rfl, Nat.le_refl _, h1, fun i hi => by
          rw [h3 i (by omega)]
          show some (iv (if i < T + 1 then F i else 0)) = _
          rw [if_pos (by omega)]⟩
      go_wp2
      go_ret
      exact ⟨_, rfl, hline, HB.out⟩

/-- The fold's values with a word for 'none yet'. -/
def z0 : Nat → Int := fun _ => 0
def valO (t : List (List Int)) (n : Nd) (a b : Option (Nat → Int)) : Option (Nat → Int) := some (vdV t n (a.getD z0) (b.getD z0))
def RepL (T : Nat) (W : World) (v : Value) : Option (Nat → Int) → Prop
  | none => v = .slice none 0 0
  | some a => LineAt W v T a
theorem optD (st : List (Nat → Int)) (i : Nat) : ((st.map some).getD i none).getD z0 = st.getD i z0 := by
  rw [List.getD_eq_getElem?_getD, List.getD_eq_getElem?_getD, List.getElem?_map]
  cases st[i]? <;> rfl
theorem stkO (t : List (List Int)) : ∀ l : List Nd, stk (valO t) none l = (stk (vdV t) z0 l).map some
  | [] => rfl
  | n :: l => by
    have ih := stkO t l
    show stp (valO t) none n (stk (valO t) none l) = (stp (vdV t) z0 n (stk (vdV t) z0 l)).map some
    rw [ih]
    unfold stp
    rw [List.map_cons, List.map_drop]
    congr 1
    unfold valO
    congr 2
    · split
      · exact optD _ 0
      · rfl
    · split
      · exact optD _ 1
      · rfl
theorem getO {st : List (Nat → Int)} {i : Nat} (h : i < st.length) : (st.map some).getD i none = some (st.getD i z0) := by
  rw [List.getD_eq_getElem?_getD, List.getD_eq_getElem?_getD, List.getElem?_map, List.getElem?_eq_getElem h]
  rfl
set_option maxRecDepth 100000 in
set_option maxHeartbeats 8000000 in
theorem verdicts_any (A : Option Addr) (cap : Nat) (L : List Nd) (B : Option Addr) (cb : Nat) (t : List (List Int)) (x : Int) (w : World) (hs : shpE L x = 0) (ht : trE t x = 0) (hA : NdsL w A L) (hB : RowsL w B t) :
    Calls Tryd.prog 53 #[.slice A L.length cap, .slice B t.length cb] w fun e w' => ∃ v, e = .returned v ∧ LineAt w' v t.length (vdsF t L) ∧ Below w.heap.size w w' := by
  obtain ⟨h1, hn⟩ := shpE_one hs
  have hle := shpE_le hs
  have hb0 : Below w.heap.size w (w.alloc (.cells #[.slice B t.length cb] 23)) := (Below.refl _ w).alloc (Nat.le_refl _) _
  have hx := BoxAt.new w 23 #[.slice B t.length cb]
  have HF := Lib.hid (callsIn_wide.1 (foldL_in (V := Option (Nat → Int)) (valO t) none (RepL t.length) w.heap.size 3 (Nat.le_refl _) A cap L (w.alloc (.cells #[.slice B t.length cb] 23)) h1 (by omega) (hA.below hb0) (fun _ => rfl)
    (fun W u y h => by
      cases y with
      | none => exact ⟨_, _, _, h⟩
      | some a => obtain ⟨g, c, _, h, _⟩ := h; exact ⟨_, _, _, h⟩)
    (fun W W' u y h hk => by
      cases y with
      | none => exact h
      | some a => exact LineAt.kt h hk)
    (fun k n va vb W hd hlen hW hva hvb => by
      have hmem : n ∈ L := List.mem_of_mem_drop (i := k) (by rw [hd]; simp)
      rw [stkO] at hlen hva hvb ⊢
      rw [List.length_map] at hlen
      have ha : 1 ≤ prt n.op → LineAt W va t.length ((if 1 ≤ prt n.op then ((stk (vdV t) z0 (L.drop (k + 1))).map some).getD 0 none else none).getD z0) := fun h => by
        rw [if_pos h] at hva ⊢
        rw [getO (by omega)] at hva ⊢
        exact hva
      have hb : 2 ≤ prt n.op → LineAt W vb t.length ((if 2 ≤ prt n.op then ((stk (vdV t) z0 (L.drop (k + 1))).map some).getD 1 none else none).getD z0) := fun h => by
        rw [if_pos h] at hvb ⊢
        rw [getO (by omega)] at hvb ⊢
        exact hvb
      exact (vds_any n va vb B cb t x _ _ w.heap.size W (hn n hmem) ht (hB.below (hb0.trans (hW.mono hb0.size))) (hx.below hW hx.lt) ha hb).mono fun e w' hh => by
        obtain ⟨v, rfl, hv, hbl⟩ := hh
        refine ⟨v, rfl, ?_, hv, hbl⟩
        obtain ⟨g, c, _, rfl, _⟩ := hv
        rfl)))
  have HE : Hid ((stk (valO t) none L).getD 0 none = some (vdsF t L)) := Lib.hid (by
    rw [stkO, getO (by rw [stk_len _ _ h1]; decide)]
    rfl)
  rw [HE.out] at HF
  have HB0 := Lib.hid hb0
  clear hA hB hs ht h1 hn hle hb0 hx HE
  generalize L.length = N at *
  generalize t.length = T at *
  generalize vdsF t L = F at *
  go_enter Tryd.func53, Tryd.ntmps53
  go_wp2_with (go_at_call 81; (with_reducible refine HF.out.mono ?_); rintro e w1 ⟨v, rfl, hv, hb1⟩)
  go_ret
  exact ⟨_, rfl, hv, below_step HB0.out hb1⟩
end Go.Proofs.YtnpnfdnaglcnfaaDoor
