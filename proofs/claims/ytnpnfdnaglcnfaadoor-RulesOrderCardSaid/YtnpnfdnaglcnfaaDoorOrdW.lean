/- The law RulesOrder: its walk. -/
import Derived.Test.YtnpnfdnaglcnfaaDoorOrdF
import Derived.Test.YtnpnfdnaglcnfaaDoorAwk
namespace Go.Proofs.YtnpnfdnaglcnfaaDoor
open Go.RowKit Go.Shelf

/-- Three slices of numbers in a block. -/
def Tri (w : World) (g : Nat) (F : Nat → Option Addr) (c : Nat → Nat) (L : Nat → List Int) : Prop := BoxAt w g 66 #[.slice (F 0) (L 0).length (c 0), .slice (F 1) (L 1).length (c 1), .slice (F 2) (L 2).length (c 2)]
theorem Tri.cell {w : World} {g : Nat} {F : Nat → Option Addr} {c : Nat → Nat} {L : Nat → List Int} (h : Tri w g F c L) {k : Nat} (hk : k < 3) : w.cell? ⟨g, k, none⟩ = some (.slice (F k) (L k).length (c k)) := by
  have h0 := BoxAt.cell h k
  rcases k with _ | _ | _ | k
  · exact h0
  · exact h0
  · exact h0
  · omega
theorem Tri.below {w w' : World} {g : Nat} {F : Nat → Option Addr} {c : Nat → Nat} {L : Nat → List Int} (h : Tri w g F c L) (hb : Below w.heap.size w w') : Tri w' g F c L := BoxAt.below h hb (BoxAt.lt h)
set_option maxRecDepth 100000 in
set_option maxHeartbeats 8000000 in
theorem order_walk (F : Nat → Option Addr) (c : Nat → Nat) (L : Nat → List Int) (R : Nat → Int) (F2 : Nat → Option Addr) (c2 : Nat → Nat) (L2 : Nat → List Int) (w : World) (hE : Env w) (hl : ∀ k, (L k).length ≤ 9223372036854775807) (hA : ∀ k, k < 3 → NumL w (F k) (L k)) (hA2 : ∀ k, k < 3 → NumL w (F2 k) (L2 k)) :
    Calls Tryd.prog 8 #[.agg #[.slice (F 0) (L 0).length (c 0), .slice (F 1) (L 1).length (c 1), .slice (F 2) (L 2).length (c 2)], .agg #[iv (R 0), iv (R 1), iv (R 2)], .agg #[.slice (F2 0) (L2 0).length (c2 0), .slice (F2 1) (L2 1).length (c2 1), .slice (F2 2) (L2 2).length (c2 2)]] w fun e w' => e = .returned (.bool true) ∧ Below w.heap.size w w' := by
  have HR := Lib.hid (fun k (hk : k < 3) W (h : Below w.heap.size w W) => rule_own (F k) (c k) (L k) 2 2 W (hl k) ((hA k hk).below h) (by decide) (by decide) (by decide) (by decide))
  have HT := Lib.hid (fun k (hk : k < 3) W (h : Below w.heap.size w W) => trace_own (F2 k) (c2 k) (L2 k) 2 10 W ((hA2 k hk).below h) (by decide) (by decide) (by decide) (by decide))
  have HAw := Lib.hid (fun W (h : Below w.heap.size w W) => awake_any W (hE.below h))
  have HM := Lib.hid (fun n W => mod_any n 10 (by decide) (by decide) W)
  clear hE hl hA hA2
  go_enter Tryd.func8, Tryd.ntmps8
  go_upto_region 4 with fail
  obtain ⟨wz, hwz⟩ : ∃ wz, wz = ((w.alloc (.cells #[.slice (F 0) (L 0).length (c 0), .slice (F 1) (L 1).length (c 1), .slice (F 2) (L 2).length (c 2)] 66)).alloc (.cells #[iv (R 0), iv (R 1), iv (R 2)] 67)).alloc (.cells #[.slice (F2 0) (L2 0).length (c2 0), .slice (F2 1) (L2 1).length (c2 1), .slice (F2 2) (L2 2).length (c2 2)] 66) := ⟨_, rfl⟩
  have HT1 : Hid (Tri wz w.heap.size F c L) := Lib.hid (by rw [hwz]; exact ((BoxAt.new w 66 _).alloc _).alloc _)
  have HR1 : Hid (BoxAt wz (w.heap.size + 1) 67 #[iv (R 0), iv (R 1), iv (R 2)]) := Lib.hid (by
    have h := (BoxAt.new (w.alloc (.cells #[.slice (F 0) (L 0).length (c 0), .slice (F 1) (L 1).length (c 1), .slice (F 2) (L 2).length (c 2)] 66)) 67 #[iv (R 0), iv (R 1), iv (R 2)]).alloc (.cells #[.slice (F2 0) (L2 0).length (c2 0), .slice (F2 1) (L2 1).length (c2 1), .slice (F2 2) (L2 2).length (c2 2)] 66)
    rw [World.size_alloc, ← hwz] at h
    exact h)
  have HT2 : Hid (Tri wz (w.heap.size + 1 + 1) F2 c2 L2) := Lib.hid (by
    have h := BoxAt.new ((w.alloc (.cells #[.slice (F 0) (L 0).length (c 0), .slice (F 1) (L 1).length (c 1), .slice (F 2) (L 2).length (c 2)] 66)).alloc (.cells #[iv (R 0), iv (R 1), iv (R 2)] 67)) 66 #[.slice (F2 0) (L2 0).length (c2 0), .slice (F2 1) (L2 1).length (c2 1), .slice (F2 2) (L2 2).length (c2 2)]
    rw [World.size_alloc, World.size_alloc, ← hwz] at h
    exact h)
  have HBz : Hid (Below w.heap.size w wz) := Lib.hid (by
    rw [hwz]
    exact (((Below.refl _ w).alloc (Nat.le_refl _) _).alloc (by simp) _).alloc (by simp; omega) _)
  rw [← hwz]
  clear hwz
  generalize w.heap.size + 1 + 1 = g2 at *
  generalize w.heap.size + 1 = g1 at *
  have HRz : Hid (∀ k, k < 3 → ∀ W, Below wz.heap.size wz W → Calls Tryd.prog 27 #[.slice (F k) (L k).length (c k), iv 2, iv 2] W fun e w' => ∃ (x : List Nd) (A' : Option Addr) (c' N : Nat), chkE x 2 = 0 ∧ N = x.length ∧ e = .returned (.slice A' N c') ∧ NdB w' (.slice A' N c') x ∧ Below W.heap.size W w') := Lib.hid (fun k hk W h => (HR.out k hk W (HBz.out.trans (h.mono HBz.out.size))).mono fun e w' ⟨x, A', c', h1, h2, h3, h4⟩ => ⟨x.flat, A', c', _, rule_chk h1, rfl, h2, nd_b h3, h4⟩)
  have HTz : Hid (∀ k, k < 3 → ∀ W, Below wz.heap.size wz W → Calls Tryd.prog 28 #[.slice (F2 k) (L2 k).length (c2 k), iv 2, iv 10] W fun e w' => ∃ (t : List (List Int)) (A' : Option Addr) (c' N : Nat), (trE t 2 = 0 ∧ Short t) ∧ N = t.length ∧ e = .returned (.slice A' N c') ∧ TrB w' (.slice A' N c') t ∧ Below W.heap.size W w') := Lib.hid (fun k hk W h => (HT.out k hk W (HBz.out.trans (h.mono HBz.out.size))).mono fun e w' ⟨t, A', c', h1, h2, _, h3, h4⟩ => ⟨t, A', c', _, ⟨tr_ok10 h1, tr_sh10 h1⟩, rfl, h2, tr_b h3, h4⟩)
  have HAz : Hid (∀ W, Below wz.heap.size wz W → Calls Tryd.prog 11 #[] W fun e w' => e = .returned (.bool true) ∧ Below w.heap.size w w') := Lib.hid (fun W h => (HAw.out W (HBz.out.trans (h.mono HBz.out.size))).mono fun e w' ⟨h1, h2⟩ => ⟨h1, below_step (HBz.out.trans (h.mono HBz.out.size)) h2⟩)
  clear HR HT HAw HBz
  obtain ⟨i0_, hi0, hz0, hz1, hz2⟩ := info_parts inf71
  have HI0 := Lib.hid hi0
  have HZ0 := Lib.hid hz0
  have HZ1 := Lib.hid hz1
  have HZ2 := Lib.hid hz2
  obtain ⟨i1_, hj0, hy0, hy1, hy2⟩ := info_parts inf23
  have HJ0 := Lib.hid hj0
  have HY0 := Lib.hid hy0
  have HY1 := Lib.hid hy1
  have HY2 := Lib.hid hy2
  clear hi0 hz0 hz1 hz2 hj0 hy0 hy1 hy2
  go_loopw [7, 8, 9] (fun bv tv iv0 wr => ∃ (k : Nat) (bs : List (Nat × List Nd)) (ts : List (List (List Int))), k ≤ 3 ∧ iv0 = iv k ∧ Hid (bs.length = k ∧ ∀ p ∈ bs, p.1 ≤ 9 ∧ chkE p.2 2 = 0) ∧ Hid (ts.length = k ∧ ∀ t ∈ ts, trE t 2 = 0 ∧ Short t) ∧ Hid (OwnB wr wz.heap.size bv bs) ∧ Hid (OwnTT wr wz.heap.size tv ts) ∧ Hid (Below wz.heap.size wz wr)) (fun _ _ iv0 _ => 3 - (intOf iv0).toNat)
  case atStart => exact ⟨0, [], [], by decide, rfl, Lib.hid ⟨rfl, fun p h => by cases h⟩, Lib.hid ⟨rfl, fun p h => by cases h⟩, Lib.hid (OwnB.nil _ _), Lib.hid (OwnTT.nil _ _), Lib.hid (Below.refl _ _)⟩
  case round =>
    obtain ⟨k, bs, ts, hk, rfl, HBs, HTs, HOb, HOt, HB⟩ := hrel
    rename World => wo
    obtain ⟨Ao, co, hov⟩ := HOb.out.form
    obtain ⟨Bo, bo, hot⟩ := HOt.out.form
    subst hov hot
    rw [HBs.out.1] at HOb ⊢
    rw [HTs.out.1] at HOt ⊢
    have k0 : (0 : Int) ≤ (k : Int) := Int.natCast_nonneg _
    by_cases hlt : k < 3
    · have k1 : (k : Int) < 3 := by omega
      have hcF := (Tri.below HT1.out HB.out).cell hlt
      have hcT := Lib.hid (fun W (h : Below wz.heap.size wz W) => (Tri.below HT2.out h).cell hlt)
      have hcR : ∃ rk, wo.cell? ⟨g1, k, none⟩ = some (iv rk) := by
        have h := (HR1.out.below HB.out HR1.out.lt).cell k
        rcases k with _ | _ | _ | k
        · exact ⟨_, h⟩
        · exact ⟨_, h⟩
        · exact ⟨_, h⟩
        · omega
      obtain ⟨rk, hcR⟩ := hcR
      have HRk := Lib.hid (HRz.out k hlt)
      have HTk := Lib.hid (HTz.out k hlt)
      generalize (L k).length = N1 at *
      generalize (L2 k).length = N2 at *
      generalize F k = A1 at *
      generalize F2 k = A2 at *
      generalize c k = d1 at *
      generalize c2 k = d2 at *
      go_upto_region 6 with fail
      go_cut [7] from 24 to 35 (fun v w' => ∃ (A : Option Addr) (cp : Nat) (p : Nat × List Nd), v = .slice A (k + 1) cp ∧ Hid (p.1 ≤ 9 ∧ chkE p.2 2 = 0) ∧ Hid (OwnB w' wz.heap.size (.slice A (k + 1) cp) (bs ++ [p])) ∧ Hid (OwnTT w' wz.heap.size (.slice Bo k bo) ts) ∧ Hid (Below wz.heap.size wz w'))
      case first =>
        have lF := World.block_lt_of_cell? wo _ hcF
        have lR := World.block_lt_of_cell? wo _ hcR
        have HObd : Hid (OwnB wo.drew wz.heap.size (.slice Ao k co) bs) := HOb
        have HOtd : Hid (OwnTT wo.drew wz.heap.size (.slice Bo k bo) ts) := HOt
        have HBd : Hid (Below wz.heap.size wz wo.drew) := Lib.hid (HB.out.drew)
        clear HOb HOt
        go_region_law (first
          | (refine step_append_lies _ (by rfl) _ _ 68 (by rfl) wz.heap.size 71 i0_ _ 2 32 Tryd.underlying68 HI0.out HZ0.out HZ1.out HZ2.out rfl (by decide) (.slice Ao k co) k (lwC bs us) (by rfl) (HRo.out r7) ⟨w7.heap.size, 0, none⟩ 1 1 [iv r7, .slice A7 N7 c7] (by rfl) (by rfl) (World.news_of_block (cs := #[iv r7, .slice A7 N7 c7]) (t := 71) (fr := (0, 0)) (World.alloc_heap_new w7 (.cells #[iv r7, .slice A7 N7 c7] 71))) (by simp [Value.oneCell']) (by decide) (by unfold maxLen; omega) (by omega) (HS7.out r7) _ rfl ?_; intro gg cap1 w8 hown8 hgrow hat hlt8)
          | (go_simp; go_at_call 32; (with_reducible refine (HM.out _ _).mono ?_); rintro e w1 ⟨r7, rfl, z0, z1, hw⟩; obtain rfl := hw.symm)
          | (go_simp; go_at_call 27; (with_reducible refine (HRk.out _ HBd.out).mono ?_); rintro e w7 ⟨x7, A7, c7, N7, hx7, hn7, rfl, hu7, hb7⟩; clear hn7; obtain ⟨us, hro, hre⟩ := HObd.out.below hb7; have HB7 := Lib.hid (below_step HBd.out hb7); have HRo : Hid (∀ r7 : Int, (w7.alloc (.cells #[iv r7, .slice A7 N7 c7] 71)).ownsRow wz.heap.size 71 2 (.slice Ao k co) k (lwC bs us)) := Lib.hid (fun r7 => ((by rw [HBs.out.1] at hro; exact hro : w7.ownsRow wz.heap.size 71 2 (.slice Ao k co) k (lwC bs us)).alloc (.cells #[iv r7, .slice A7 N7 c7] 71))); have HKt := Lib.hid (fun r7 : Int => Kt3.of_below ((Below.refl _ w7).alloc (Nat.le_refl _) (.cells #[iv r7, .slice A7 N7 c7] 71))); have HRe := Lib.hid (fun r7 : Int => hre.mono fun u r h => h.kt (HKt.out r7)); have HU7 := Lib.hid (fun r7 : Int => hu7.kt (HKt.out r7)); have HS7 := Lib.hid (fun r7 : Int => (by have h1 := HB7.out.size; rw [World.size_alloc]; omega : wz.heap.size ≤ (w7.alloc (.cells #[iv r7, .slice A7 N7 c7] 71)).heap.size)); have HX7 := Lib.hid hx7; have HOt7 := Lib.hid (HOtd.out.below hb7); clear hro hre hu7 hb7 hx7))
        all_goals go_wp2
        all_goals go_meet
        all_goals
          have hg0 := OwnB.grown (base := wz.heap.size) (p := (r7.toNat, x7)) (bs := bs) (by rw [HBs.out.1]; exact HRo.out r7) (HRe.out r7) (HU7.out r7) hgrow (by rw [HBs.out.1]; show World.ownsRow _ _ _ _ _ _ (lwC bs us ++ [iv (r7.toNat : Int), _]); rw [Int.toNat_of_nonneg z0]; exact hown8)
          rw [HBs.out.1] at hg0
          exact ⟨some ⟨gg, 0, none⟩, cap1, (r7.toNat, x7), rfl, Lib.hid ⟨by show r7.toNat ≤ 9; omega, HX7.out⟩, Lib.hid hg0, Lib.hid ((HOt7.out.below ((Below.refl _ w7).alloc (Nat.le_refl _) (.cells #[iv r7, .slice A7 N7 c7] 71))).other (HRo.out r7) hgrow), Lib.hid ((HB7.out.alloc HB7.out.size _).grown hgrow (HS7.out r7) (fun j e => ((HRo.out r7).lt j e).1))⟩
      case rest =>
        obtain ⟨A6, c6, p6, rfl, HP6, HOb6, HOt6, HB6⟩ := hcut
        rename World => w6
        have hcT6 := hcT.out _ HB6.out
        have lT := World.block_lt_of_cell? w6 _ hcT6
        clear HOb HOt HB hcF hcT hcR HRk HM
        go_wp2_with (first
          | (at_builtin; refine wpList_append_lies _ rfl _ _ 69 rfl wz.heap.size 23 i1_ _ 1 24 Tryd.underlying69 HJ0.out HY0.out HY1.out HY2.out rfl (by decide) (.slice Bo k bo) k us rfl HRo.out ⟨w7.heap.size, 0, none⟩ 1 1 [.slice A7 N7 c7] rfl rfl (World.news_of_block (cs := #[.slice A7 N7 c7]) (t := 23) (fr := (0, 0)) (World.alloc_heap_new w7 (.cells #[.slice A7 N7 c7] 23))) (by simp [Value.oneCell']) (by decide) (by unfold maxLen; omega) (by omega) HS7.out _ rfl ?_; intro gg cap1 w8 hown8 hgrow hat hlt8)
          | (go_at_call 28; (with_reducible refine (HTk.out _ HB6.out).mono ?_); rintro e w7 ⟨t7, A7, c7, N7, ht7, hn7, rfl, hu7, hb7⟩; clear hn7; obtain ⟨us, hro, hre⟩ := HOt6.out.below hb7; have HB7 := Lib.hid (below_step HB6.out hb7); have HRo : Hid ((w7.alloc (.cells #[.slice A7 N7 c7] 23)).ownsRow wz.heap.size 23 1 (.slice Bo k bo) k us) := Lib.hid ((by rw [HTs.out.1] at hro; exact hro : w7.ownsRow wz.heap.size 23 1 (.slice Bo k bo) k us).alloc (.cells #[.slice A7 N7 c7] 23)); have HKt := Lib.hid (Kt3.of_below ((Below.refl _ w7).alloc (Nat.le_refl _) (.cells #[.slice A7 N7 c7] 23))); have HRe := Lib.hid (hre.mono fun u r h => h.kt HKt.out); have HU7 := Lib.hid (hu7.kt HKt.out); have HS7 := Lib.hid (by have h1 := HB7.out.size; rw [World.size_alloc]; omega : wz.heap.size ≤ (w7.alloc (.cells #[.slice A7 N7 c7] 23)).heap.size); have HX7 := Lib.hid ht7; have HOb7 := Lib.hid (HOb6.out.below hb7); clear hro hre hu7 hb7 ht7))
        have hg0 := OwnTT.grown (base := wz.heap.size) (t := t7) (ts := ts) (by rw [HTs.out.1]; exact HRo.out) HRe.out HU7.out hgrow (by rw [HTs.out.1]; exact hown8)
        rw [HTs.out.1] at hg0
        refine ⟨⟨k + 1, bs ++ [p6], ts ++ [t7], by omega, by go_num, Lib.hid ⟨by rw [List.length_append, HBs.out.1]; rfl, fun p hp => ?_⟩, Lib.hid ⟨by rw [List.length_append, HTs.out.1]; rfl, fun p hp => ?_⟩, Lib.hid ((HOb7.out.below ((Below.refl _ w7).alloc (Nat.le_refl _) (.cells #[.slice A7 N7 c7] 23))).other HRo.out hgrow), Lib.hid hg0, Lib.hid ((HB7.out.alloc HB7.out.size _).grown hgrow HS7.out (fun j e => (HRo.out.lt j e).1))⟩, by simp [intOf]; omega⟩
        · rcases List.mem_append.1 hp with h | h
          · exact HBs.out.2 p h
          · obtain rfl : p = p6 := by simpa using h
            exact HP6.out
        · rcases List.mem_append.1 hp with h | h
          · exact HTs.out.2 p h
          · obtain rfl : p = t7 := by simpa using h
            exact HX7.out
    · obtain rfl : k = 3 := by omega
      have k1 : ¬ (((3 : Nat) : Int) < 3) := by decide
      obtain ⟨b, off, TC, V, cF, hBo, hfx⟩ := fx_of HBs.out.1 HBs.out.2 HTs.out.1 HTs.out.2 (OwnB.laws (base := wz.heap.size) (c := co) (by rw [HBs.out.1]; exact HOb.out)) (OwnTT.trs (base := wz.heap.size) (c := bo) (by rw [HTs.out.1]; exact HOt.out))
      subst hBo
      have HFx : Hid (Fx wo Ao co b off TC V cF) := Lib.hid hfx
      have HAo : Hid (∀ W, Below wo.heap.size wo W → Calls Tryd.prog 11 #[] W fun e w' => e = .returned (.bool true) ∧ Below w.heap.size w w') := Lib.hid (fun W h => HAz.out W (HB.out.trans (h.mono HB.out.size)))
      have b3 : 3 ≤ bo := by
        obtain ⟨us, h1, _⟩ := HOt.out
        rw [HTs.out.1] at h1
        rcases h1.2 with ⟨e1, _⟩ | ⟨g, cp, cur, e1, _, _, h5, _⟩
        · simp at e1
        · obtain ⟨_, rfl⟩ : (⟨b, off, none⟩ : Addr) = ⟨g, 0, none⟩ ∧ bo = cp := by simpa using e1
          omega
      clear hfx HBs HTs HOb HOt HB HRz HTz HAz HT1 HR1 HT2 HI0 HZ0 HZ1 HZ2 HJ0 HY0 HY1 HY2 HM
      go_upto_region 10 with fail
      have HN0 : Hid (Nine (wo.alloc (.cells #[iv 0, iv 0, iv 0, iv 0, iv 0, iv 0, iv 0, iv 0, iv 0] 72)) wo.heap.size (fun _ _ => 0)) := Lib.hid (BoxAt.new wo 72 _)
      have HB0 : Hid (Below wo.heap.size wo (wo.alloc (.cells #[iv 0, iv 0, iv 0, iv 0, iv 0, iv 0, iv 0, iv 0, iv 0] 72))) := Lib.hid ((Below.refl _ wo).alloc (Nat.le_refl _) _)
      go_loopw [11] (fun iv0 wr => ∃ (i : Nat) (M : Nat → Nat → Int), i ≤ 3 ∧ iv0 = iv i ∧ Hid (∀ a b, a < i → b < 3 → M a b = cF a b) ∧ Hid (Nine wr wo.heap.size M) ∧ Hid (Below wo.heap.size wo wr)) (fun iv0 _ => 3 - (intOf iv0).toNat)
      case atStart => exact ⟨0, fun _ _ => 0, by decide, rfl, Lib.hid (fun a b h => absurd h (Nat.not_lt_zero _)), HN0, HB0⟩
      case round =>
        obtain ⟨i, M, hi, rfl, HMi, HNi, HBi⟩ := hrel
        rename World => wr
        have i0 : (0 : Int) ≤ (i : Int) := Int.natCast_nonneg _
        by_cases hlt : i < 3
        · have i1 : (i : Int) < 3 := by omega
          have hcell := HFx.out.cell i hlt wr HBi.out
          have lc := World.block_lt_of_cell? wr _ hcell
          have HCs := Lib.hid (HFx.out.cost i hlt)
          have HZe := Lib.hid (HFx.out.zero i hlt)
          go_upto_region 12 with fail
          go_cut [12, 13] from 47 to 55 (fun v e w' => ∃ gw, v = .slice (some ⟨gw, 0, none⟩) 10 10 ∧ e = iv 0 ∧ Hid (gw ≠ wo.heap.size) ∧ Hid (NumL w' (some ⟨gw, 0, none⟩) (V i)) ∧ Hid (Nine w' wo.heap.size M) ∧ Hid (Below wo.heap.size wo w'))
          case first =>
            go_wp2_with (go_at_call 34; (with_reducible refine (HCs.out _ HBi.out).mono ?_); rintro e w1 ⟨gw, hgw, rfl, hnu, hb1⟩)
            all_goals go_meet
            all_goals exact ⟨gw, rfl, rfl, Lib.hid (by have := BoxAt.lt HNi.out; omega), Lib.hid hnu, Lib.hid (BoxAt.below HNi.out hb1 (BoxAt.lt HNi.out)), Lib.hid (below_step HBi.out hb1)⟩
          case rest =>
            obtain ⟨gw, rfl, rfl, HGw, HNw, HN1, HB1⟩ := hcut
            rename World => w1
            clear hcell lc HNi HBi HCs
            have hcell := HFx.out.cell i hlt w1 HB1.out
            have lc := World.block_lt_of_cell? w1 _ hcell
            go_upto_region 18 with (go_at_call 35; (with_reducible refine (HZe.out _ HB1.out).mono ?_); rintro e w2 ⟨z, rfl, hz, hb2⟩; have hz2 : ¬ 0 < z := by omega)
            have HNw2 := Lib.hid (HNw.out.below hb2)
            have HN2 : Hid (Nine w2 wo.heap.size M) := Lib.hid (BoxAt.below HN1.out hb2 (BoxAt.lt HN1.out))
            have HB2 := Lib.hid (below_step HB1.out hb2)
            clear hcell lc HNw HN1 HB1 HZe hz hz2 hb2
            go_wp2
            go_loopw [15] (fun jv wk => ∃ (j : Nat) (M : Nat → Nat → Int), j ≤ 3 ∧ jv = iv j ∧ Hid (∀ a b, a < i → b < 3 → M a b = cF a b) ∧ Hid (∀ b, b < j → M i b = cF i b) ∧ Hid (NumL wk (some ⟨gw, 0, none⟩) (V i)) ∧ Hid (Nine wk wo.heap.size M) ∧ Hid (Below wo.heap.size wo wk)) (fun jv _ => 3 - (intOf jv).toNat)
            case atStart => exact ⟨0, M, by decide, rfl, HMi, Lib.hid (fun b h => absurd h (Nat.not_lt_zero _)), HNw2, HN2, HB2⟩
            case round =>
              obtain ⟨j, M', hj, rfl, HMa, HMb, HNj, HN, HBj⟩ := hrel
              rename World => wk
              have j0 : (0 : Int) ≤ (j : Int) := Int.natCast_nonneg _
              by_cases hlj : j < 3
              · have j1 : (j : Int) < 3 := by omega
                clear HNw2 HN2 HB2
                have hcj := HFx.out.cell j hlj wk HBj.out
                have lj := World.block_lt_of_cell? wk _ hcj
                have HCs := Lib.hid (HFx.out.cost j hlj)
                go_upto_region 21 with fail
                go_cut [16, 17] from 82 to 90 (fun v e w' => ∃ gg, v = .slice (some ⟨gg, 0, none⟩) 10 10 ∧ e = iv 0 ∧ Hid (NumL w' (some ⟨gg, 0, none⟩) (V j)) ∧ Hid (NumL w' (some ⟨gw, 0, none⟩) (V i)) ∧ Hid (Nine w' wo.heap.size M') ∧ Hid (Below wo.heap.size wo w'))
                case first =>
                  go_wp2_with (go_at_call 34; (with_reducible refine (HCs.out _ HBj.out).mono ?_); rintro e w1 ⟨gg, hgg, rfl, hnu, hb1⟩)
                  all_goals go_meet
                  all_goals exact ⟨gg, rfl, rfl, Lib.hid hnu, Lib.hid (HNj.out.below hb1), Lib.hid (BoxAt.below HN.out hb1 (BoxAt.lt HN.out)), Lib.hid (below_step HBj.out hb1)⟩
                case rest =>
                  obtain ⟨gg, rfl, rfl, HNg3, HNw3, HN3, HB3⟩ := hcut
                  rename World => w3
                  clear hcj lj HCs HNj HN HBj
                  go_upto_region 22 with fail
                  go_cut [18, 19] from 91 to 103 (fun v e w' => v = iv (cF i j) ∧ e = iv 0 ∧ Hid (Below w3.heap.size w3 w'))
                  case first =>
                    have hci := HFx.out.cell i hlt w3 HB3.out
                    have hcj := HFx.out.cell j hlj w3 HB3.out
                    have lj := World.block_lt_of_cell? w3 _ hcj
                    have HBd : Hid (Below wo.heap.size wo w3.drew) := Lib.hid HB3.out.drew
                    have HBt := Lib.hid (HFx.out.bet i j hlt hlj)
                    clear HNg3 HNw3 HN3 HB3
                    go_region_law (first
                      | (go_simp; go_at_call 35; (with_reducible refine (HBt.out _ HBd.out).mono ?_); rintro e w4 ⟨rfl, hb4⟩))
                    all_goals go_wp2
                    all_goals go_meet
                    all_goals exact ⟨rfl, rfl, Lib.hid (Below.trans ((Below.refl _ w3).drew) hb4)⟩
                  case rest =>
                    obtain ⟨rfl, rfl, HB4⟩ := hcut
                    rename World => w4
                    have HNg4 := Lib.hid (HNg3.out.below HB4.out)
                    have HNw4 := Lib.hid (HNw3.out.below HB4.out)
                    have HN4 : Hid (Nine w4 wo.heap.size M') := Lib.hid (BoxAt.below HN3.out HB4.out (BoxAt.lt HN3.out))
                    have HB5 := Lib.hid (below_step HB3.out HB4.out)
                    have HLo := Lib.hid (HFx.out.long i j)
                    have HPm := Lib.hid (HFx.out.pm i j)
                    clear HNg3 HNw3 HN3 HB3 HB4
                    generalize hcc : cF i j = cc at *
                    have HCc := Lib.hid hcc
                    clear hcc
                    have hq : (!(cc == 0) == decide (cc = 0)) = false := by by_cases h : cc = 0 <;> simp [h]
                    go_upto_region 25 with (go_at_call 26; (with_reducible refine (HLo.out _ _ _ HNw4.out HNg4.out).mono ?_); rintro e w5 ⟨rfl, hb5⟩)
                    have HNw5 := Lib.hid (HNw4.out.below hb5)
                    have HN5 : Hid (Nine w5 wo.heap.size M') := Lib.hid (BoxAt.below HN4.out hb5 (BoxAt.lt HN4.out))
                    have HB6 := Lib.hid (below_step HB5.out hb5)
                    have hf5 : w5.frozen? ⟨wo.heap.size, i * 3 + j, none⟩ = false := BoxAt.frozen HN5.out _
                    have l5 : wo.heap.size < w5.heap.size := BoxAt.lt HN5.out
                    have hc5 : ∃ v0, w5.cell? ⟨wo.heap.size, i * 3 + j, none⟩ = some v0 := by
                      have h := BoxAt.cell HN5.out (i * 3 + j)
                      rw [h]
                      exact ⟨_, Array.getElem?_eq_getElem (by simp; omega)⟩
                    obtain ⟨v0, hc5⟩ := hc5
                    clear HNg4 HNw4 HN4 HB5 HLo hb5 hq
                    go_wp2
                    refine ⟨⟨j + 1, fun a b => if a = i ∧ b = j then cc else M' a b, by omega, by go_num, Lib.hid (fun a b ha hb => ?_), Lib.hid (fun b hb => ?_), Lib.hid (HNw5.out.set HGw.out _ _), Lib.hid (HN5.out.set i j hlt hlj cc), Lib.hid (HB6.out.setCell (p := ⟨wo.heap.size, i * 3 + j, none⟩) (Nat.le_refl _) _)⟩, by simp [intOf]; omega⟩
                    · show (if a = i ∧ b = j then cc else M' a b) = _
                      rw [if_neg (by omega)]
                      exact HMa.out a b ha hb
                    · show (if i = i ∧ b = j then cc else M' i b) = _
                      by_cases e : b = j
                      · subst e
                        rw [if_pos ⟨rfl, rfl⟩]
                        exact HCc.out.symm
                      · rw [if_neg (by omega)]
                        exact HMb.out b (by omega)
              · obtain rfl : j = 3 := by omega
                have j1 : ¬ (((3 : Nat) : Int) < 3) := by decide
                go_wp2
                refine ⟨⟨i + 1, M', by omega, by go_num, Lib.hid (fun a b ha hb => ?_), HN, HBj⟩, by simp [intOf]; omega⟩
                by_cases e : a = i
                · subst e
                  exact HMb.out b hb
                · exact HMa.out a b (by omega) hb
        · obtain rfl : i = 3 := by omega
          have i1 : ¬ (((3 : Nat) : Int) < 3) := by decide
          have x1 : wr.cell? ⟨wo.heap.size, 1, none⟩ = some (iv (M 0 1)) := BoxAt.cell HNi.out 1
          have x2 : wr.cell? ⟨wo.heap.size, 2, none⟩ = some (iv (M 0 2)) := BoxAt.cell HNi.out 2
          have x3 : wr.cell? ⟨wo.heap.size, 3, none⟩ = some (iv (M 1 0)) := BoxAt.cell HNi.out 3
          have x5 : wr.cell? ⟨wo.heap.size, 5, none⟩ = some (iv (M 1 2)) := BoxAt.cell HNi.out 5
          have x6 : wr.cell? ⟨wo.heap.size, 6, none⟩ = some (iv (M 2 0)) := BoxAt.cell HNi.out 6
          have x7 : wr.cell? ⟨wo.heap.size, 7, none⟩ = some (iv (M 2 1)) := BoxAt.cell HNi.out 7
          have lN : wo.heap.size < wr.heap.size := BoxAt.lt HNi.out
          rw [HMi.out 0 1 (by decide) (by decide)] at x1
          rw [HMi.out 0 2 (by decide) (by decide)] at x2
          rw [HMi.out 1 0 (by decide) (by decide), HFx.out.neg 0 1] at x3
          rw [HMi.out 1 2 (by decide) (by decide)] at x5
          rw [HMi.out 2 0 (by decide) (by decide), HFx.out.neg 0 2] at x6
          rw [HMi.out 2 1 (by decide) (by decide), HFx.out.neg 1 2] at x7
          have p1 := HFx.out.pm 0 1
          have p2 := HFx.out.pm 0 2
          have p3 := HFx.out.pm 1 2
          have p4 := HFx.out.trans 0 1 2
          generalize cF 0 1 = a1 at *
          generalize cF 0 2 = a2 at *
          generalize cF 1 2 = a3 at *
          clear HMi HNi HN0 HB0 HFx
          have hgo : (0 < a1 ∨ 0 < a3) ∨ a2 ≤ 0 := by omega
          have e1 : (-(-a1)) = a1 := by omega
          have e2 : (-(-a2)) = a2 := by omega
          have e3 : (-(-a3)) = a3 := by omega
          have HAr := Lib.hid (HAo.out wr HBi.out)
          clear HAo HBi
          rcases p1 with rfl | rfl | rfl <;> rcases p2 with rfl | rfl | rfl <;> rcases p3 with rfl | rfl | rfl
          all_goals first | (exfalso; revert hgo; decide) | skip
          all_goals clear p4 hgo e1 e2 e3
          all_goals go_wp2_with (go_at_call 11; (with_reducible refine HAr.out.mono ?_); rintro e w9 ⟨rfl, hb9⟩)
          all_goals go_ret
          all_goals exact ⟨rfl, hb9⟩
end Go.Proofs.YtnpnfdnaglcnfaaDoor
