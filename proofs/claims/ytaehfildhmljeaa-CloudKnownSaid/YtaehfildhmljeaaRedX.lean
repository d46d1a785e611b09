/- Reduce of a valid cloud, the size in range: the walk. -/
import Derived.Test.YtaehfildhmljeaaRedW
namespace Go.Proofs.Ytaehfildhmljeaa
open Go.RowKit Go.Shelf Go.Maps

set_option maxRecDepth 100000 in
set_option maxHeartbeats 16000000 in
theorem reduce_good (A : Option Addr) (n cap : Nat) (X Y V : Nat → Int) (s : Int) (hok : chkF n X Y V = 0) (s1 : 1 ≤ s) (s2 : s ≤ 16777216) (w : World) (hcl : Cloud w A n X Y V) :
    Calls Try.prog 37 #[.slice A n cap, .int .i64 s] w (RedAll n X Y V s w) := by
  have hg : gridF n X Y V s = 0 := by unfold gridF; rw [hok, if_neg (by simp), if_pos ⟨s1, s2⟩]
  have hn : n ≤ 1000 := by
    have h := hok
    unfold chkF at h
    split at h
    · cases h
    · omega
  have HK := Lib.hid (grid_any A n cap X Y V s w hcl)
  rw [hg] at HK
  obtain ⟨K, hK1, hK2, hK3⟩ := keys_ex
  obtain ⟨C, hC⟩ : ∃ C, C = redC X Y s := ⟨_, rfl⟩
  have HC := Lib.hid hC
  have hwf : ∀ i, i < n → wfC (C i) := fun i hi => by
    have h := ok_at hok hi
    rw [hC]
    exact redC_wf h.1 h.2.1 s1
  have HOK := Lib.hid (fun k (hk : k < n) => ok_at hok hk)
  have HWF := Lib.hid hwf
  have HK1 := Lib.hid (fun i hi => hK1 (C i) (hwf i hi))
  have HHas := Lib.hid (fun (i : Nat) (hi : i < n) k hk => redD_has (K := K) (C := C) (n := n) (fun i hi => hK2 _ (hwf i hi)) (fun i j hi hj e => hK3 _ _ (hwf i hi) (hwf j hj) e) hi k hk)
  have HAt := Lib.hid (fun (j : Nat) (hf : fstB C j = true) z k hj hk => redD_at (K := K) (C := C) (n := n) (fun i hi => hK2 _ (hwf i hi)) (fun i j hi hj e => hK3 _ _ (hwf i hi) (hwf j hj) e) hf z k hj hk)
  have HCL := Lib.hid hcl
  have HG := Lib.hid hg
  have hmm := @run_makeMap Try.prog
  obtain ⟨i0_, hi0, hz0, hz1, hz2⟩ := info_parts Try.info69
  have hI0 := Lib.hid hi0
  have hZ0 := Lib.hid hz0
  have hZ1 := Lib.hid hz1
  have hZ2 := Lib.hid hz2
  clear hi0 hz0 hz1 hz2 hcl hok hg hwf hK1 hK2 hK3 hC
  go_enter Try.func37, Try.ntmps37
  go_upto_region 6 with (go_at_call 65; (with_reducible refine HK.out.mono ?_); rintro e w1 ⟨rfl, hb1⟩)
  have hM := World.ownsMap_made (H := Unit) w1 Try.prog 24 (plainElem Try.prog 3)
  have hB := below_step hb1 ((Below.refl _ w1).alloc (Nat.le_refl _) (.map #[] 0))
  obtain ⟨M, hMe⟩ : ∃ z, z = w1.heap.size := ⟨_, rfl⟩
  rw [← hMe] at hM ⊢
  have hwM : w.heap.size ≤ M := by rw [hMe]; exact hb1.size
  have hsz : M + 1 ≤ (w1.alloc (.map #[] 0)).heap.size := by rw [hMe]; simp
  clear hMe hb1 hmm HK
  generalize w1.alloc (.map #[] 0) = w2 at *
  have I : ∃ (k : Nat) (v : Value), k ≤ n ∧ (Value.slice none 0 0) = v ∧ (Value.int .i64 0) = .int .i64 k ∧ Hid (w2.ownsRow (M + 1) 69 3 v (rnk C k) (keptC C n X Y V k)) ∧ Hid (w2.ownsMap Try.prog 24 (plainElem (H := Unit) Try.prog 3) M k (redD K C k)) ∧ Hid (Below w.heap.size w w2) ∧ Hid (M + 1 ≤ w2.heap.size) :=
    ⟨0, _, Nat.zero_le _, rfl, rfl, Lib.hid (World.ownsRow_nil _ _ _ _), Lib.hid hM, Lib.hid hB, Lib.hid hsz⟩
  clear hM hB hsz
  go_wp2
  go_loopw [7, 23] (fun o i wr => ∃ (k : Nat) (v : Value), k ≤ n ∧ o = v ∧ i = .int .i64 k ∧ Hid (wr.ownsRow (M + 1) 69 3 v (rnk C k) (keptC C n X Y V k)) ∧ Hid (wr.ownsMap Try.prog 24 (plainElem (H := Unit) Try.prog 3) M k (redD K C k)) ∧ Hid (Below w.heap.size w wr) ∧ Hid (M + 1 ≤ wr.heap.size)) (fun _ i _ => n + 1 - (intOf i).toNat)
  case atStart => exact I
  case round =>
    clear I
    obtain ⟨k, v, hk, rfl, rfl, HR, HM, HB, HZ⟩ := hrel
    by_cases hlt : k < n
    · obtain ⟨blk, off, e, hc0⟩ := HCL.out (by omega)
      subst e
      have i0 : (0 : Int) ≤ (k : Int) := Int.natCast_nonneg _
      have i1 : (k : Int) < (n : Int) := by omega
      have hbl := hc0.lt (by omega)
      have l1 : blk < wr.heap.size := Nat.lt_of_lt_of_le hbl HB.out.size
      obtain ⟨c0, c1, c2⟩ := (hc0.below HB.out hbl) k hlt
      obtain ⟨Av, cv, hv⟩ := own_form HR.out
      subst hv
      obtain ⟨o1, o2, o3, o4⟩ := HOK.out k hlt
      have HO := Lib.hid (And.intro o1 o2)
      obtain ⟨t, ht⟩ : ∃ t, t = V k := ⟨_, rfl⟩
      have HT := Lib.hid ht
      rw [← ht] at c2
      clear hc0 o1 o2 o3 o4 ht
      go_upto_region 9 with fail
      have hbp := BoxAt.new wr 69 #[.int .i64 (X k), .int .i64 (Y k), .int .i64 t]
      have hb3 : Below wr.heap.size wr (wr.alloc (.cells #[.int .i64 (X k), .int .i64 (Y k), .int .i64 t] 69)) := (Below.refl _ wr).alloc (Nat.le_refl _) _
      obtain ⟨Lp, hLp⟩ : ∃ z, z = wr.heap.size := ⟨_, rfl⟩
      rw [← hLp] at hbp ⊢
      have HLp := Lib.hid hLp
      clear c0 c1 c2 l1 hLp
      generalize wr.alloc (.cells #[.int .i64 (X k), .int .i64 (Y k), .int .i64 t] 69) = w3 at *
      have p0 : w3.cell? ⟨Lp, 0, none⟩ = some (.int .i64 (X k)) := hbp.cell 0
      have p1 : w3.cell? ⟨Lp, 1, none⟩ = some (.int .i64 (Y k)) := hbp.cell 1
      have p2 : w3.cell? ⟨Lp, 2, none⟩ = some (.int .i64 t) := hbp.cell 2
      have p3 := hbp.lt
      have HBP := Lib.hid hbp
      have HCell := Lib.hid (fun W => cell_any (X k) (Y k) t s W HO.out.1 HO.out.2 s1 s2)
      obtain ⟨p, hp⟩ : ∃ p, p = X k / s := ⟨_, rfl⟩
      obtain ⟨q, hq⟩ : ∃ q, q = Y k / s := ⟨_, rfl⟩
      rw [← hp, ← hq] at HCell
      have HKey : Hid (keyOf Try.prog 24 (.agg #[.int .i64 p, .int .i64 q]) = some (K (C k))) := Lib.hid (by
        have h := HK1.out k hlt
        rw [HC.out] at h ⊢
        rw [hp, hq]
        exact h)
      clear hp hq hbp
      go_upto_region 10 with (go_at_call 66; (with_reducible refine (HCell.out _).mono ?_); rintro e w4 ⟨rfl, hb4⟩)
      have hb5 : Below w4.heap.size w4 (w4.alloc (.cells #[.int .i64 p, .int .i64 q] 24)) := (Below.refl _ w4).alloc (Nat.le_refl _) _
      have hbc := BoxAt.new w4 24 #[.int .i64 p, .int .i64 q]
      obtain ⟨Lc, hLc⟩ : ∃ z, z = w4.heap.size := ⟨_, rfl⟩
      rw [← hLc] at hbc ⊢
      have HB5 : Hid (Below wr.heap.size wr (w4.alloc (.cells #[.int .i64 p, .int .i64 q] 24))) := Lib.hid (below_step (below_step hb3 hb4) hb5)
      have HBP5 := Lib.hid (box_step (box_step HBP.out hb4) hb5)
      have hLpc : Lp ≠ Lc := by
        have h1 := (box_step HBP.out hb4).lt
        omega
      clear p0 p1 p2 p3 hLc HBP hb3 hb4 hb5 HCell
      generalize w4.alloc (.cells #[.int .i64 p, .int .i64 q] 24) = w5 at *
      have HBC := Lib.hid hbc
      have d0 : w5.cell? ⟨Lc, 0, none⟩ = some (.int .i64 p) := hbc.cell 0
      have d1 : w5.cell? ⟨Lc, 1, none⟩ = some (.int .i64 q) := hbc.cell 1
      have d2 := hbc.lt
      have HM5 := Lib.hid (HM.out.kept (grown_of_below HB5.out) (by simp))
      have HR5 := Lib.hid (HR.out.kept (grown_of_below HB5.out) (Classical.em _))
      have HBW := Lib.hid (below_step HB.out HB5.out)
      have HZ5 : Hid (M + 1 ≤ w5.heap.size) := Lib.hid (Nat.le_trans HZ.out HB5.out.size)
      have hLpM : M + 1 ≤ Lp := by rw [HLp.out]; exact HZ.out
      have hhas := HHas.out k hlt k hk
      cases hf : fstB C k with
      | true =>
        have hsn : Maps.has (redD K C k) (K (C k)) = false := by
          cases h : Maps.has (redD K C k) (K (C k)) with
          | false => rfl
          | true =>
            obtain ⟨j, hj, e⟩ := hhas.1 h
            exact absurd e (fstB_iff.1 hf j hj)
        have HSN := Lib.hid hsn
        have HF := Lib.hid hf
        have hm := rnk_le (C := C) k
        have HRow := Lib.hid (kept_new (X := X) (Y := Y) (V := V) hlt hf)
        have HPut : Hid (redD K C (k + 1) = (redD K C k).put (K (C k)) (.lit (.int .i64 (rnk C k)))) := Lib.hid (by rw [redD_succ, if_pos hf])
        have HRk := Lib.hid (rnk_fst hf)
        obtain ⟨m, hme⟩ : ∃ m, m = rnk C k := ⟨_, rfl⟩
        rw [← hme] at hm HPut HRk HR5 ⊢
        have m0 : (0 : Int) ≤ (m : Int) := Int.natCast_nonneg _
        have HR56 : Hid (∀ W, w5.grownBy W (some M) → W.ownsRow (M + 1) 69 3 (.slice Av m cv) m (keptC C n X Y V k)) := Lib.hid (fun W h => HR5.out.kept h (row_low HR5.out (by omega)))
        clear hf hhas hsn hme
        go_wp2_with (first
          | (at_lookup; refine wpList_lookup_own_ok_int _ rfl _ _ 102 rfl 24 3 .i64 Try.keyed24 Try.underlying102 Try.underlying3 (zero3 _) M k _ rfl HM5.out _ _ rfl HKey.out ?_; intro c hat hwc; rw [HSN.out]; clear hat hwc)
          | (at_mapUpdate; refine wpList_mapUpdate_own _ rfl _ _ _ 102 rfl 24 3 Try.keyed24 Try.underlying102 _ M k _ rfl HM5.out (by unfold maxLen; omega) _ _ _ rfl rfl HKey.out _ [] (plainElem_int Try.underlying3 (WalkArith.wf_i64 (by omega))) ?_; intro w6 hown6 hgrow6; have HOW6 := Lib.hid hown6; have HGR6 := Lib.hid hgrow6; have hbp6 := HBP5.out.grown hgrow6 (by simp; omega); have q0 : w6.cell? ⟨Lp, 0, none⟩ = some (.int .i64 (X k)) := hbp6.cell 0; have q1 : w6.cell? ⟨Lp, 1, none⟩ = some (.int .i64 (Y k)) := hbp6.cell 1; have q2 : w6.cell? ⟨Lp, 2, none⟩ = some (.int .i64 t) := hbp6.cell 2; have q3 := hbp6.lt; clear hown6 hgrow6 hbp6)
          | (at_builtin; refine wpList_append_lies _ rfl _ _ 22 rfl (M + 1) 69 i0_ _ 3 24 Try.underlying22 hI0.out hZ0.out hZ1.out hZ2.out rfl (by decide) (.slice Av m cv) m (keptC C n X Y V k) rfl ((HR56.out _ HGR6.out).alloc _) ⟨w6.heap.size, 0, none⟩ 1 1 [.int .i64 (X k), .int .i64 (Y k), .int .i64 t] rfl rfl (World.news_of_block (cs := #[.int .i64 (X k), .int .i64 (Y k), .int .i64 t]) (t := 69) (fr := (0, 0)) (heap_alloc_new w6 _)) (by simp [Value.oneCell']) (by decide) (by unfold maxLen; omega) (by omega) (by have h1 := HZ5.out; have h2 := HGR6.out.size; simp; omega) _ rfl ?_; intro gg cap1 w7 hown7 hgrow hat hlt7))
        have HO7 : Hid (w7.ownsRow (M + 1) 69 3 (.slice (some ⟨gg, 0, none⟩) (m + 1) cap1) (rnk C (k + 1)) (keptC C n X Y V (k + 1))) := Lib.hid (by rw [HRk.out, HRow.out, ← HT.out]; exact hown7)
        have hlo : ∀ b, (Value.slice Av m cv).ownBlock = some b → M + 1 ≤ b := fun b e => (HR5.out.lt b e).1
        have HM7 : Hid (w7.ownsMap Try.prog 24 (plainElem (H := Unit) Try.prog 3) M (k + 1) (redD K C (k + 1))) := Lib.hid (by
          rw [HPut.out]
          exact (HOW6.out.alloc _).kept hgrow (fun e => by have := hlo M e.symm; omega))
        have HB7 : Hid (Below w.heap.size w w7) := Lib.hid (by
          have h1 := HZ5.out
          have h2 := HGR6.out.size
          have h3 := HBW.out.size
          exact (((HBW.out.grown HGR6.out h3 (fun b e => by obtain rfl := Option.some.inj e; exact hwM)).alloc (by omega) _).grown hgrow (by simp; omega) (fun b e => by have := hlo b e; omega)))
        have HZ7 : Hid (M + 1 ≤ w7.heap.size) := Lib.hid (by
          have h1 := HZ5.out
          have h2 := HGR6.out.size
          have h3 := hgrow.size
          simp at h3
          omega)
        clear hown7 hgrow hat hlt7 hlo q0 q1 q2 q3
        go_roundw
        case rel => exact ⟨k + 1, _, by omega, rfl, by go_num, HO7, HM7, HB7, HZ7⟩
        case measure => simp [intOf]; omega
      | false =>
        have hlead : ∃ j, j < k ∧ fstB C j = true ∧ C j = C k := by
          obtain ⟨j, h1, h2, h3⟩ := lead (C := C) k
          refine ⟨j, ?_, h2, h3⟩
          have : j ≠ k := fun e => by rw [e, hf] at h2; cases h2
          omega
        obtain ⟨j, hjk, hfj, hjc⟩ := hlead
        have HSN : Hid (Maps.has (redD K C k) (K (C k)) = true) := Lib.hid (hhas.2 ⟨j, hjk, hjc⟩)
        have hat0 := HAt.out j hfj (.lit (.int .i64 0)) k hjk hk
        rw [hjc] at hat0
        have HAT := Lib.hid hat0
        have HRow := Lib.hid (kept_old (X := X) (Y := Y) (V := V) hlt hf hfj hjk hjc)
        have HGet := Lib.hid (kept_get (n := n) (X := X) (Y := Y) (V := V) hfj hjk hk)
        have HPut : Hid (redD K C (k + 1) = redD K C k) := Lib.hid (by rw [redD_succ, if_neg (by rw [hf]; simp)])
        have HRk := Lib.hid (rnk_not hf)
        have ham := rnk_lt hfj hjk
        have hm := rnk_le (C := C) k
        obtain ⟨a, hae⟩ : ∃ a, a = rnk C j := ⟨_, rfl⟩
        rw [← hae] at HAT HRow HGet ham
        obtain ⟨m, hme⟩ : ∃ m, m = rnk C k := ⟨_, rfl⟩
        rw [← hme] at hm HRk HR5 ham ⊢
        obtain ⟨g, cw, hvv, hg1, _⟩ := HR5.out.form (by omega)
        obtain ⟨rfl, rfl⟩ : Av = some ⟨g, 0, none⟩ ∧ cv = cw := by simpa using hvv
        have m0 : (0 : Int) ≤ (a : Int) := Int.natCast_nonneg _
        have m1 : (a : Int) < (m : Int) := by omega
        clear hf hhas hat0 hae hme hfj hjc hjk hvv hg1
        obtain ⟨u, hu⟩ : ∃ u, u = mxF C V j k := ⟨_, rfl⟩
        rw [← hu] at HGet HRow
        have e0 : w5.cell? ⟨g, a * 3 + 2, none⟩ = some (.int .i64 u) := row_cell HR5.out HGet.out
        have e1 := row_frozen HR5.out (a * 3 + 2)
        have e2 := World.block_lt_of_cell? w5 _ e0
        have e3 : w5.cell? ⟨Lp, 2, none⟩ = some (.int .i64 t) := HBP5.out.cell 2
        have e4 := HBP5.out.lt
        clear hu
        go_upto_region 12 with (at_lookup; refine wpList_lookup_own_ok_int _ rfl _ _ 102 rfl 24 3 .i64 Try.keyed24 Try.underlying102 Try.underlying3 (zero3 _) M k _ rfl HM5.out _ _ rfl HKey.out ?_; intro c hat hwc; rw [HSN.out]; have hc : c = (a : Int) := (by have h := HAT.out; rw [hat] at h; simpa using h); subst hc; clear hat hwc)
        have hgM : M + 1 ≤ g := (HR5.out.lt g rfl).1
        have HST : Hid (∀ x, x = max u (V k) → (w5.drew.setCell ⟨g, a * 3 + 2, none⟩ (.int .i64 x)).ownsRow (M + 1) 69 3 (.slice (some ⟨g, 0, none⟩) m cv) (rnk C (k + 1)) (keptC C n X Y V (k + 1)) ∧
            (w5.drew.setCell ⟨g, a * 3 + 2, none⟩ (.int .i64 x)).ownsMap Try.prog 24 (plainElem (H := Unit) Try.prog 3) M (k + 1) (redD K C (k + 1)) ∧ Below w.heap.size w (w5.drew.setCell ⟨g, a * 3 + 2, none⟩ (.int .i64 x)) ∧ M + 1 ≤ (w5.drew.setCell ⟨g, a * 3 + 2, none⟩ (.int .i64 x)).heap.size) := Lib.hid (fun x hx => by
          have hR : w5.drew.ownsRow (M + 1) 69 3 (.slice (some ⟨g, 0, none⟩) m cv) m (keptC C n X Y V k) := HR5.out
          have h1 := (hR.stored (a * 3 + 2) (.int .i64 x)).1
          rw [hx, HRow.out, ← hx] at h1
          refine ⟨by rw [HRk.out]; exact h1, ?_, bset (p := ⟨g, a * 3 + 2, none⟩) (by simp; omega) (Below.drew HBW.out) _, by have := HZ5.out; simpa using this⟩
          rw [HPut.out]
          exact (HM5.out.drew.setCell (a := ⟨g, a * 3 + 2, none⟩) (by simp; omega) _).mono (by omega))
        have ht := HT.out
        rw [← ht] at HST
        clear ht
        rcases Int.lt_or_le u t with a0 | a0
        · have b0 : ¬ t ≤ u := by omega
          have HE := HST.out t (by omega)
          have HEE := Lib.hid HE
          clear HE
          go_still_tail 12, (by kernel_rfl)
          change wpList _ _ _ _ _ w5.drew
          have g0 : w5.drew.cell? ⟨g, a * 3 + 2, none⟩ = some (.int .i64 u) := e0
          have j0 : w5.drew.frozen? ⟨g, a * 3 + 2, none⟩ = false := e1
          have l5 : g < w5.drew.heap.size := e2
          clear e0 e1 e2 e3 e4 HST
          generalize w5.drew = wx at *
          go_wp2
          go_roundw
          case rel => exact ⟨k + 1, _, by omega, rfl, by go_num, Lib.hid HEE.out.1, Lib.hid HEE.out.2.1, Lib.hid HEE.out.2.2.1, Lib.hid HEE.out.2.2.2⟩
          case measure => simp [intOf]; omega
        · have b0 : ¬ u < t := by omega
          have HE := HST.out u (by omega)
          have HEE := Lib.hid HE
          clear HE
          go_still_tail 12, (by kernel_rfl)
          change wpList _ _ _ _ _ w5.drew
          have g0 : w5.drew.cell? ⟨g, a * 3 + 2, none⟩ = some (.int .i64 u) := e0
          have j0 : w5.drew.frozen? ⟨g, a * 3 + 2, none⟩ = false := e1
          have l5 : g < w5.drew.heap.size := e2
          clear e0 e1 e2 e3 e4 HST
          generalize w5.drew = wx at *
          go_wp2
          go_roundw
          case rel => exact ⟨k + 1, _, by omega, rfl, by go_num, Lib.hid HEE.out.1, Lib.hid HEE.out.2.1, Lib.hid HEE.out.2.2.1, Lib.hid HEE.out.2.2.2⟩
          case measure => simp [intOf]; omega
    · obtain rfl : k = n := by omega
      have i1 : ¬ (k : Int) < (k : Int) := by omega
      obtain ⟨Av, cv, hv⟩ := own_form HR.out
      subst hv
      obtain ⟨hc, hCl⟩ := own_cloud HR.out
      have HCC := Lib.hid hCl
      have HC2 := Lib.hid hc
      clear hCl hc
      go_wp2
      exact bodyPost_ret (v := .tuple #[.slice Av (rnk C k) cv, .int .i64 0]) (by simp [results, Try.results37, go_sem]) rfl (by
        unfold RedAll
        rw [HG.out, if_pos rfl, ← HC.out]
        exact ⟨Av, cv, rfl, HC2.out, HCC.out, HB.out⟩)
end Go.Proofs.Ytaehfildhmljeaa
