/- The law RulesDual: its walk. -/
import Derived.Test.YtnpnfdnaglcnfaaDoorDulM
import Derived.Test.YtnpnfdnaglcnfaaDoorDulJ
import Derived.Test.YtnpnfdnaglcnfaaDoorAwk
namespace Go.Proofs.YtnpnfdnaglcnfaaDoor
open Go.RowKit Go.Shelf

set_option maxRecDepth 100000 in
set_option maxHeartbeats 8000000 in
theorem dual_walk (A : Option Addr) (cap : Nat) (l : List Int) (A2 : Option Addr) (cap2 : Nat) (l2 : List Int) (A3 : Option Addr) (cap3 : Nat) (l3 : List Int) (lo hi : Int) (w : World) (hE : Env w) (hl : l.length ≤ 9223372036854775807) (hl2 : l2.length ≤ 9223372036854775807) (hA : NumL w A l) (hA2 : NumL w A2 l2) (hA3 : NumL w A3 l3) :
    Calls Tryd.prog 7 #[.slice A l.length cap, .slice A2 l2.length cap2, .slice A3 l3.length cap3, iv lo, iv hi] w fun e w' => e = .returned (.bool true) ∧ Below w.heap.size w w' := by
  have HR := Lib.hid (rule_any A cap l 2 2 w hl hA (by decide) (by decide) (by decide) (by decide))
  have HR2 := Lib.hid (fun W (h : Below w.heap.size w W) => rule_any A2 cap2 l2 2 2 W hl2 (hA2.below h) (by decide) (by decide) (by decide) (by decide))
  have HT := Lib.hid (fun W (h : Below w.heap.size w W) => trace_any2 A3 cap3 l3 2 12 W (hA3.below h) (by decide) (by decide) (by decide) (by decide))
  have HAw := Lib.hid (fun W (h : Below w.heap.size w W) => awake_any W (hE.below h))
  have HM := Lib.hid (fun n W => mod_any n 5 (by decide) (by decide) W)
  generalize l.length = N1 at *
  generalize l2.length = N2 at *
  generalize l3.length = N3 at *
  clear hE hA hA2 hA3 hl hl2
  go_enter Tryd.func7, Tryd.ntmps7
  go_upto_region 2 with (first
    | (go_at_call 27; (with_reducible refine HR.out.mono ?_); rintro e w1 ⟨xa, Aa, ca, hxa, rfl, hna, hb1⟩)
    | (go_at_call 27; (with_reducible refine (HR2.out _ hb1).mono ?_); rintro e w2 ⟨xb, Ab, cb, hxb, rfl, hnb, hb2⟩; have hb2' := below_step hb1 hb2)
    | (go_at_call 28; (with_reducible refine (HT.out _ hb2').mono ?_); rintro e w3 ⟨t, C, c, ht, rfl, hc, hrw, hb3⟩))
  have HVa : Hid (Vx xa 6 15) := Lib.hid ⟨hxa.1, hxa.2.1, hor_nn _ hxa.2.1 hxa.1, by have := hxa.2.2.1; omega, hxa.2.2.2⟩
  have HVb : Hid (Vx xb 6 15) := Lib.hid ⟨hxb.1, hxb.2.1, hor_nn _ hxb.2.1 hxb.1, by have := hxb.2.2.1; omega, hxb.2.2.2⟩
  have HNa := Lib.hid ((hna.below hb2).below hb3)
  have HNb := Lib.hid (hnb.below hb3)
  have HRW := Lib.hid hrw
  have HTr := Lib.hid ht
  have HB3 := Lib.hid (below_step hb2' hb3)
  have la : xa.flat.length ≤ 15 := hxa.2.2.2
  have lb : xb.flat.length ≤ 15 := hxb.2.2.2
  have pa : 0 < xa.flat.length := by cases xa <;> simp [Fm.flat]
  have pb : 0 < xb.flat.length := by cases xb <;> simp [Fm.flat]
  have t1 : t.length ≤ 12 := by have := ht.1; omega
  clear hxa hxb hna hnb hb1 hb2 hb2' hb3 hrw ht hc HR HR2 HT
  obtain ⟨NA, hNA⟩ : ∃ N, N = xa.flat.length := ⟨_, rfl⟩
  obtain ⟨NB, hNB⟩ : ∃ N, N = xb.flat.length := ⟨_, rfl⟩
  obtain ⟨T, hT⟩ : ∃ N, N = t.length := ⟨_, rfl⟩
  rw [← hNA] at la pa ⊢
  rw [← hNB] at lb pb ⊢
  rw [← hT] at t1 ⊢
  have HNA := Lib.hid hNA
  have HNB := Lib.hid hNB
  have HTT := Lib.hid hT
  clear hNA hNB hT
  have s1 : (NA : Int) + (NB : Int) ≤ 30 := by omega
  have s2 : ¬ 30 < (NA : Int) + (NB : Int) := by omega
  have HM1 := HM
  go_upto_region 5 with (first
    | (go_at_call 32; (with_reducible refine (HM1.out _ _).mono ?_); rintro e w4 ⟨p0, rfl, p1, p2, hw⟩; obtain rfl := hw.symm; clear HM1)
    | (go_at_call 32; (with_reducible refine (HM.out _ _).mono ?_); rintro e w4 ⟨q0, rfl, q1, q2, hw⟩; obtain rfl := hw.symm))
  clear HM
  by_cases hxy : p0 ≤ q0
  · have hm1 : min p0 q0 = p0 := Int.min_eq_left hxy
    have hm2 : max p0 q0 = q0 := Int.max_eq_right hxy
    go_upto_region 8 with fail
    have HXY : Hid (0 ≤ p0 ∧ p0 ≤ q0 ∧ q0 ≤ 4) := Lib.hid (by omega)
    have HBz : Hid (Below w.heap.size w (((w3.alloc (.cells #[iv 3, iv 0, iv 0, iv 0, iv 0, iv 0] 61)).alloc (.cells #[iv 6, iv 0, iv 0, iv 0, iv p0, iv q0] 61)).alloc (.cells #[iv 7, iv 0, iv 0, iv 0, iv p0, iv q0] 61))) := Lib.hid (Below.al (Below.al (Below.al HB3.out _) _) _)
    have hz3 : Below w3.heap.size w3 (((w3.alloc (.cells #[iv 3, iv 0, iv 0, iv 0, iv 0, iv 0] 61)).alloc (.cells #[iv 6, iv 0, iv 0, iv 0, iv p0, iv q0] 61)).alloc (.cells #[iv 7, iv 0, iv 0, iv 0, iv p0, iv q0] 61)) := Below.al (Below.al (Below.al (Below.refl _ w3) _) _) _
    have HNn : Hid (NdsL (((w3.alloc (.cells #[iv 3, iv 0, iv 0, iv 0, iv 0, iv 0] 61)).alloc (.cells #[iv 6, iv 0, iv 0, iv 0, iv p0, iv q0] 61)).alloc (.cells #[iv 7, iv 0, iv 0, iv 0, iv p0, iv q0] 61)) (some ⟨w3.heap.size, 0, none⟩) [nNot]) := Lib.hid (nds_box (n := nNot) (((box_new _ _ _ rfl).alloc _).alloc _))
    have HNl : Hid (NdsL (((w3.alloc (.cells #[iv 3, iv 0, iv 0, iv 0, iv 0, iv 0] 61)).alloc (.cells #[iv 6, iv 0, iv 0, iv 0, iv p0, iv q0] 61)).alloc (.cells #[iv 7, iv 0, iv 0, iv 0, iv p0, iv q0] 61)) (some ⟨w3.heap.size + 1, 0, none⟩) [nAll p0 q0]) := Lib.hid (nds_box (n := nAll p0 q0) ((box_new _ _ _ (by simp)).alloc _))
    have HNs : Hid (NdsL (((w3.alloc (.cells #[iv 3, iv 0, iv 0, iv 0, iv 0, iv 0] 61)).alloc (.cells #[iv 6, iv 0, iv 0, iv 0, iv p0, iv q0] 61)).alloc (.cells #[iv 7, iv 0, iv 0, iv 0, iv p0, iv q0] 61)) (some ⟨w3.heap.size + 1 + 1, 0, none⟩) [nSome p0 q0]) := Lib.hid (nds_box (n := nSome p0 q0) (box_new _ _ _ (by simp)))
    replace HNa := Lib.hid (HNa.out.below hz3)
    replace HNb := Lib.hid (HNb.out.below hz3)
    replace HRW := Lib.hid (HRW.out.below hz3)
    clear hz3 HB3 hxy hm1 hm2
    generalize ((w3.alloc (.cells #[iv 3, iv 0, iv 0, iv 0, iv 0, iv 0] 61)).alloc (.cells #[iv 6, iv 0, iv 0, iv 0, iv p0, iv q0] 61)).alloc (.cells #[iv 7, iv 0, iv 0, iv 0, iv p0, iv q0] 61) = wz at *
    generalize w3.heap.size = q at *
    have HJ1 : Hid (∀ (W : World) (g : Nat), Below wz.heap.size wz W → BoxAt W g 22 #[.slice Aa NA ca] → Calls Tryd.prog 33 #[.slice (some ⟨q + 1, 0, none⟩) 1 1, .slice (some ⟨g, 0, none⟩) 1 1] W fun e w' => ∃ (C : Option Addr) (c N : Nat), e = .returned (.slice C N c) ∧ N = (Fm.flat (.un (nAll p0 q0) xa)).length ∧ NdsL w' C (Fm.flat (.un (nAll p0 q0) xa)) ∧ Below W.heap.size W w') := Lib.hid (by
      have e1 := HNA.out
      have e2 := HNB.out
      clear HNA HNB
      subst e1 e2
      intro W g hb hg
      exact join_to (n := [nAll p0 q0]) (L := [xa.flat]) rfl rfl (by simp [Fm.flat]) (Nat.zero_lt_succ _) (by simp [Fm.flat]; omega) (by simp) (HNl.out.below hb) (row_boxm [(Aa, ca, xa.flat)] hg (List.forall_mem_cons.2 ⟨⟨pa, (HNa.out.below hb)⟩, (fun _ h => by cases h)⟩)))
    have HJ2 : Hid (∀ (W : World) (g : Nat), Below wz.heap.size wz W → BoxAt W g 22 #[.slice (some ⟨q + 1 + 1, 0, none⟩) 1 1, .slice (some ⟨q, 0, none⟩) 1 1, .slice Aa NA ca] → Calls Tryd.prog 33 #[.slice (some ⟨q, 0, none⟩) 1 1, .slice (some ⟨g, 0, none⟩) 3 3] W fun e w' => ∃ (C : Option Addr) (c N : Nat), e = .returned (.slice C N c) ∧ N = (Fm.flat (.un nNot (.un (nSome p0 q0) (.un nNot xa)))).length ∧ NdsL w' C (Fm.flat (.un nNot (.un (nSome p0 q0) (.un nNot xa)))) ∧ Below W.heap.size W w') := Lib.hid (by
      have e1 := HNA.out
      have e2 := HNB.out
      clear HNA HNB
      subst e1 e2
      intro W g hb hg
      exact join_to (n := [nNot]) (L := [[nSome p0 q0], [nNot], xa.flat]) rfl rfl (by simp [Fm.flat]) (Nat.zero_lt_succ _) (by simp [Fm.flat]; omega) (by simp) (HNn.out.below hb) (row_boxm [((some ⟨q + 1 + 1, 0, none⟩), 1, [nSome p0 q0]), ((some ⟨q, 0, none⟩), 1, [nNot]), (Aa, ca, xa.flat)] hg (List.forall_mem_cons.2 ⟨⟨(Nat.zero_lt_succ _), (HNs.out.below hb)⟩, (List.forall_mem_cons.2 ⟨⟨(Nat.zero_lt_succ _), (HNn.out.below hb)⟩, (List.forall_mem_cons.2 ⟨⟨pa, (HNa.out.below hb)⟩, (fun _ h => by cases h)⟩)⟩)⟩)))
    have HJ3 : Hid (∀ (W : World) (g g0 : Nat), Below wz.heap.size wz W → BoxAt W g0 61 #[iv 4, iv 0, iv 0, iv 0, iv 0, iv 0] → BoxAt W g 22 #[.slice Aa NA ca, .slice Ab NB cb] → Calls Tryd.prog 33 #[.slice (some ⟨g0, 0, none⟩) 1 1, .slice (some ⟨g, 0, none⟩) 2 2] W fun e w' => ∃ (C : Option Addr) (c N : Nat), e = .returned (.slice C N c) ∧ N = (Fm.flat (.bi nAnd xa xb)).length ∧ NdsL w' C (Fm.flat (.bi nAnd xa xb)) ∧ Below W.heap.size W w') := Lib.hid (by
      have e1 := HNA.out
      have e2 := HNB.out
      clear HNA HNB
      subst e1 e2
      intro W g g0 hb hg0 hg
      exact join_to (n := [nAnd]) (L := [xa.flat, xb.flat]) rfl rfl (by simp [Fm.flat]) (Nat.zero_lt_succ _) (by simp [Fm.flat]; omega) (by simp) (nds_box (n := nAnd) hg0) (row_boxm [(Aa, ca, xa.flat), (Ab, cb, xb.flat)] hg (List.forall_mem_cons.2 ⟨⟨pa, (HNa.out.below hb)⟩, (List.forall_mem_cons.2 ⟨⟨pb, (HNb.out.below hb)⟩, (fun _ h => by cases h)⟩)⟩)))
    have HJ4 : Hid (∀ (W : World) (g g0 : Nat), Below wz.heap.size wz W → BoxAt W g0 61 #[iv 5, iv 0, iv 0, iv 0, iv 0, iv 0] → BoxAt W g 22 #[.slice (some ⟨g0, 0, none⟩) 1 1, .slice (some ⟨q, 0, none⟩) 1 1, .slice Aa NA ca, .slice (some ⟨q, 0, none⟩) 1 1, .slice Ab NB cb] → Calls Tryd.prog 33 #[.slice (some ⟨q, 0, none⟩) 1 1, .slice (some ⟨g, 0, none⟩) 5 5] W fun e w' => ∃ (C : Option Addr) (c N : Nat), e = .returned (.slice C N c) ∧ N = (Fm.flat (.un nNot (.bi nOr (.un nNot xa) (.un nNot xb)))).length ∧ NdsL w' C (Fm.flat (.un nNot (.bi nOr (.un nNot xa) (.un nNot xb)))) ∧ Below W.heap.size W w') := Lib.hid (by
      have e1 := HNA.out
      have e2 := HNB.out
      clear HNA HNB
      subst e1 e2
      intro W g g0 hb hg0 hg
      exact join_to (n := [nNot]) (L := [[nOr], [nNot], xa.flat, [nNot], xb.flat]) rfl rfl (by simp [Fm.flat]) (Nat.zero_lt_succ _) (by simp [Fm.flat]; omega) (by simp) (HNn.out.below hb) (row_boxm [((some ⟨g0, 0, none⟩), 1, [nOr]), ((some ⟨q, 0, none⟩), 1, [nNot]), (Aa, ca, xa.flat), ((some ⟨q, 0, none⟩), 1, [nNot]), (Ab, cb, xb.flat)] hg (List.forall_mem_cons.2 ⟨⟨(Nat.zero_lt_succ _), (nds_box (n := nOr) hg0)⟩, (List.forall_mem_cons.2 ⟨⟨(Nat.zero_lt_succ _), (HNn.out.below hb)⟩, (List.forall_mem_cons.2 ⟨⟨pa, (HNa.out.below hb)⟩, (List.forall_mem_cons.2 ⟨⟨(Nat.zero_lt_succ _), (HNn.out.below hb)⟩, (List.forall_mem_cons.2 ⟨⟨pb, (HNb.out.below hb)⟩, (fun _ h => by cases h)⟩)⟩)⟩)⟩)⟩)))
    have HJ5 : Hid (∀ (W : World) (g g0 : Nat), Below wz.heap.size wz W → BoxAt W g0 61 #[iv 6, iv 0, iv 0, iv 0, iv 0, iv 0] → BoxAt W g 22 #[.slice Aa NA ca] → Calls Tryd.prog 33 #[.slice (some ⟨g0, 0, none⟩) 1 1, .slice (some ⟨g, 0, none⟩) 1 1] W fun e w' => ∃ (C : Option Addr) (c N : Nat), e = .returned (.slice C N c) ∧ N = (Fm.flat (.un (nAll 0 0) xa)).length ∧ NdsL w' C (Fm.flat (.un (nAll 0 0) xa)) ∧ Below W.heap.size W w') := Lib.hid (by
      have e1 := HNA.out
      have e2 := HNB.out
      clear HNA HNB
      subst e1 e2
      intro W g g0 hb hg0 hg
      exact join_to (n := [nAll 0 0]) (L := [xa.flat]) rfl rfl (by simp [Fm.flat]) (Nat.zero_lt_succ _) (by simp [Fm.flat]; omega) (by simp) (nds_box (n := nAll 0 0) hg0) (row_boxm [(Aa, ca, xa.flat)] hg (List.forall_mem_cons.2 ⟨⟨pa, (HNa.out.below hb)⟩, (fun _ h => by cases h)⟩)))
    have HJ6 : Hid (∀ (W : World) (g g0 : Nat), Below wz.heap.size wz W → BoxAt W g0 61 #[iv 7, iv 0, iv 0, iv 0, iv 0, iv 0] → BoxAt W g 22 #[.slice Ab NB cb] → Calls Tryd.prog 33 #[.slice (some ⟨g0, 0, none⟩) 1 1, .slice (some ⟨g, 0, none⟩) 1 1] W fun e w' => ∃ (C : Option Addr) (c N : Nat), e = .returned (.slice C N c) ∧ N = (Fm.flat (.un (nSome 0 0) xb)).length ∧ NdsL w' C (Fm.flat (.un (nSome 0 0) xb)) ∧ Below W.heap.size W w') := Lib.hid (by
      have e1 := HNA.out
      have e2 := HNB.out
      clear HNA HNB
      subst e1 e2
      intro W g g0 hb hg0 hg
      exact join_to (n := [nSome 0 0]) (L := [xb.flat]) rfl rfl (by simp [Fm.flat]) (Nat.zero_lt_succ _) (by simp [Fm.flat]; omega) (by simp) (nds_box (n := nSome 0 0) hg0) (row_boxm [(Ab, cb, xb.flat)] hg (List.forall_mem_cons.2 ⟨⟨pb, (HNb.out.below hb)⟩, (fun _ h => by cases h)⟩)))
    have HJ7 : Hid (∀ (W : World) (g g0 : Nat), Below wz.heap.size wz W → BoxAt W g0 61 #[iv 8, iv 0, iv 0, iv 0, iv p0, iv q0, iv 1, iv 0, iv 0, iv 0, iv 0, iv 0] → BoxAt W g 22 #[.slice Ab NB cb] → Calls Tryd.prog 33 #[.slice (some ⟨g0, 0, none⟩) 2 2, .slice (some ⟨g, 0, none⟩) 1 1] W fun e w' => ∃ (C : Option Addr) (c N : Nat), e = .returned (.slice C N c) ∧ N = (Fm.flat (.bi (nUnt p0 q0) (.lf nTrue) xb)).length ∧ NdsL w' C (Fm.flat (.bi (nUnt p0 q0) (.lf nTrue) xb)) ∧ Below W.heap.size W w') := Lib.hid (by
      have e1 := HNA.out
      have e2 := HNB.out
      clear HNA HNB
      subst e1 e2
      intro W g g0 hb hg0 hg
      exact join_to (n := [nUnt p0 q0, nTrue]) (L := [xb.flat]) rfl rfl (by simp [Fm.flat]) (Nat.zero_lt_succ _) (by simp [Fm.flat]; omega) (by simp) (nds_box2 (n := nUnt p0 q0) (m := nTrue) hg0) (row_boxm [(Ab, cb, xb.flat)] hg (List.forall_mem_cons.2 ⟨⟨pb, (HNb.out.below hb)⟩, (fun _ h => by cases h)⟩)))
    have HJ8 : Hid (∀ (W : World) (g : Nat), Below wz.heap.size wz W → BoxAt W g 22 #[.slice Ab NB cb] → Calls Tryd.prog 33 #[.slice (some ⟨q + 1 + 1, 0, none⟩) 1 1, .slice (some ⟨g, 0, none⟩) 1 1] W fun e w' => ∃ (C : Option Addr) (c N : Nat), e = .returned (.slice C N c) ∧ N = (Fm.flat (.un (nSome p0 q0) xb)).length ∧ NdsL w' C (Fm.flat (.un (nSome p0 q0) xb)) ∧ Below W.heap.size W w') := Lib.hid (by
      have e1 := HNA.out
      have e2 := HNB.out
      clear HNA HNB
      subst e1 e2
      intro W g hb hg
      exact join_to (n := [nSome p0 q0]) (L := [xb.flat]) rfl rfl (by simp [Fm.flat]) (Nat.zero_lt_succ _) (by simp [Fm.flat]; omega) (by simp) (HNs.out.below hb) (row_boxm [(Ab, cb, xb.flat)] hg (List.forall_mem_cons.2 ⟨⟨pb, (HNb.out.below hb)⟩, (fun _ h => by cases h)⟩)))
    have hB1 : Below wz.heap.size wz ((wz).alloc (.cells #[.slice Aa NA ca] 22)) := (Below.al (Below.refl _ wz) _)
    have hD1 : Below wz.heap.size wz ((wz).alloc (.cells #[.slice Aa NA ca] 22)) := (Below.al (Below.refl _ wz) _)
    have hx1 : BoxAt ((wz).alloc (.cells #[.slice Aa NA ca] 22)) (wz.heap.size) 22 #[.slice Aa NA ca] := box_new _ _ _ (by simp)
    have HQ1 := Lib.hid (HJ1.out _ _ hB1 hx1)
    clear HJ1 hx1
    go_upto_region 9 with (first
      | (go_at_call 33; (with_reducible refine HQ8.out.mono ?_); rintro e v8 ⟨C8, c8, N8, rfl, hn8, hc8, hb8⟩; have hz8 := below_step hB8 hb8; have hE8 := below_step hD8 hb8; have HC1 := Lib.hid (HC1.out.below hE8); have HC2 := Lib.hid (HC2.out.below hE8); have HC3 := Lib.hid (HC3.out.below hE8); have HC4 := Lib.hid (HC4.out.below hE8); have HC5 := Lib.hid (HC5.out.below hE8); have HC6 := Lib.hid (HC6.out.below hE8); have HC7 := Lib.hid (HC7.out.below hE8); have HP1 := Lib.hid (box_step HP1.out hE8); have HP2 := Lib.hid (box_step HP2.out hE8); have HP3 := Lib.hid (box_step HP3.out hE8); have HP4 := Lib.hid (box_step HP4.out hE8); have HC8 := Lib.hid hc8; have HL8 := Lib.hid hn8; clear hb8 hB8 hD8 hc8 hn8 HQ8 hE8)
      | (go_at_call 33; (with_reducible refine HQ7.out.mono ?_); rintro e v7 ⟨C7, c7, N7, rfl, hn7, hc7, hb7⟩; have hz7 := below_step hB7 hb7; have hE7 := below_step hD7 hb7; have HC1 := Lib.hid (HC1.out.below hE7); have HC2 := Lib.hid (HC2.out.below hE7); have HC3 := Lib.hid (HC3.out.below hE7); have HC4 := Lib.hid (HC4.out.below hE7); have HC5 := Lib.hid (HC5.out.below hE7); have HC6 := Lib.hid (HC6.out.below hE7); have HP1 := Lib.hid (box_step HP1.out hE7); have HP2 := Lib.hid (box_step HP2.out hE7); have HP3 := Lib.hid (box_step HP3.out hE7); have HP4 := Lib.hid (box_step hp4 hb7); have HC7 := Lib.hid hc7; have HL7 := Lib.hid hn7; clear hb7 hB7 hD7 hc7 hn7 HQ7 hE7 hp4; have hB8 : Below wz.heap.size wz ((v7).alloc (.cells #[.slice Ab NB cb] 22)) := (Below.al hz7 _); have hD8 : Below v7.heap.size v7 ((v7).alloc (.cells #[.slice Ab NB cb] 22)) := (Below.al (Below.refl _ v7) _); have hx8 : BoxAt ((v7).alloc (.cells #[.slice Ab NB cb] 22)) (v7.heap.size) 22 #[.slice Ab NB cb] := box_new _ _ _ (by simp); have HQ8 := Lib.hid (HJ8.out _ _ hB8 hx8); clear HJ8 hx8)
      | (go_at_call 33; (with_reducible refine HQ6.out.mono ?_); rintro e v6 ⟨C6, c6, N6, rfl, hn6, hc6, hb6⟩; have hz6 := below_step hB6 hb6; have hE6 := below_step hD6 hb6; have HC1 := Lib.hid (HC1.out.below hE6); have HC2 := Lib.hid (HC2.out.below hE6); have HC3 := Lib.hid (HC3.out.below hE6); have HC4 := Lib.hid (HC4.out.below hE6); have HC5 := Lib.hid (HC5.out.below hE6); have HP1 := Lib.hid (box_step HP1.out hE6); have HP2 := Lib.hid (box_step HP2.out hE6); have HP3 := Lib.hid (box_step hp3 hb6); have HC6 := Lib.hid hc6; have HL6 := Lib.hid hn6; clear hb6 hB6 hD6 hc6 hn6 HQ6 hE6 hp3; have hB7 : Below wz.heap.size wz ((((v6).alloc (.cells #[.slice C6 N6 c6, .slice Ab NB cb] 22)).alloc (.cells #[iv 8, iv 0, iv 0, iv 0, iv p0, iv q0, iv 1, iv 0, iv 0, iv 0, iv 0, iv 0] 61)).alloc (.cells #[.slice Ab NB cb] 22)) := (Below.al (Below.al (Below.al hz6 _) _) _); have hD7 : Below v6.heap.size v6 ((((v6).alloc (.cells #[.slice C6 N6 c6, .slice Ab NB cb] 22)).alloc (.cells #[iv 8, iv 0, iv 0, iv 0, iv p0, iv q0, iv 1, iv 0, iv 0, iv 0, iv 0, iv 0] 61)).alloc (.cells #[.slice Ab NB cb] 22)) := (Below.al (Below.al (Below.al (Below.refl _ v6) _) _) _); have hy7 : BoxAt ((((v6).alloc (.cells #[.slice C6 N6 c6, .slice Ab NB cb] 22)).alloc (.cells #[iv 8, iv 0, iv 0, iv 0, iv p0, iv q0, iv 1, iv 0, iv 0, iv 0, iv 0, iv 0] 61)).alloc (.cells #[.slice Ab NB cb] 22)) (v6.heap.size + 1) 61 #[iv 8, iv 0, iv 0, iv 0, iv p0, iv q0, iv 1, iv 0, iv 0, iv 0, iv 0, iv 0] := (box_new _ _ _ (by simp)).alloc _; have hx7 : BoxAt ((((v6).alloc (.cells #[.slice C6 N6 c6, .slice Ab NB cb] 22)).alloc (.cells #[iv 8, iv 0, iv 0, iv 0, iv p0, iv q0, iv 1, iv 0, iv 0, iv 0, iv 0, iv 0] 61)).alloc (.cells #[.slice Ab NB cb] 22)) (v6.heap.size + 1 + 1) 22 #[.slice Ab NB cb] := box_new _ _ _ (by simp); have hp4 : BoxAt ((((v6).alloc (.cells #[.slice C6 N6 c6, .slice Ab NB cb] 22)).alloc (.cells #[iv 8, iv 0, iv 0, iv 0, iv p0, iv q0, iv 1, iv 0, iv 0, iv 0, iv 0, iv 0] 61)).alloc (.cells #[.slice Ab NB cb] 22)) v6.heap.size 22 #[.slice C6 N6 c6, .slice Ab NB cb] := (((box_new _ _ _ rfl).alloc _).alloc _); have HQ7 := Lib.hid (HJ7.out _ _ _ hB7 hy7 hx7); clear HJ7 hx7 hy7)
      | (go_at_call 33; (with_reducible refine HQ5.out.mono ?_); rintro e v5 ⟨C5, c5, N5, rfl, hn5, hc5, hb5⟩; have hz5 := below_step hB5 hb5; have hE5 := below_step hD5 hb5; have HC1 := Lib.hid (HC1.out.below hE5); have HC2 := Lib.hid (HC2.out.below hE5); have HC3 := Lib.hid (HC3.out.below hE5); have HC4 := Lib.hid (HC4.out.below hE5); have HP1 := Lib.hid (box_step HP1.out hE5); have HP2 := Lib.hid (box_step hp2 hb5); have HC5 := Lib.hid hc5; have HL5 := Lib.hid hn5; clear hb5 hB5 hD5 hc5 hn5 HQ5 hE5 hp2; have hB6 : Below wz.heap.size wz ((((v5).alloc (.cells #[.slice C5 N5 c5, .slice Aa NA ca] 22)).alloc (.cells #[iv 7, iv 0, iv 0, iv 0, iv 0, iv 0] 61)).alloc (.cells #[.slice Ab NB cb] 22)) := (Below.al (Below.al (Below.al hz5 _) _) _); have hD6 : Below v5.heap.size v5 ((((v5).alloc (.cells #[.slice C5 N5 c5, .slice Aa NA ca] 22)).alloc (.cells #[iv 7, iv 0, iv 0, iv 0, iv 0, iv 0] 61)).alloc (.cells #[.slice Ab NB cb] 22)) := (Below.al (Below.al (Below.al (Below.refl _ v5) _) _) _); have hy6 : BoxAt ((((v5).alloc (.cells #[.slice C5 N5 c5, .slice Aa NA ca] 22)).alloc (.cells #[iv 7, iv 0, iv 0, iv 0, iv 0, iv 0] 61)).alloc (.cells #[.slice Ab NB cb] 22)) (v5.heap.size + 1) 61 #[iv 7, iv 0, iv 0, iv 0, iv 0, iv 0] := (box_new _ _ _ (by simp)).alloc _; have hx6 : BoxAt ((((v5).alloc (.cells #[.slice C5 N5 c5, .slice Aa NA ca] 22)).alloc (.cells #[iv 7, iv 0, iv 0, iv 0, iv 0, iv 0] 61)).alloc (.cells #[.slice Ab NB cb] 22)) (v5.heap.size + 1 + 1) 22 #[.slice Ab NB cb] := box_new _ _ _ (by simp); have hp3 : BoxAt ((((v5).alloc (.cells #[.slice C5 N5 c5, .slice Aa NA ca] 22)).alloc (.cells #[iv 7, iv 0, iv 0, iv 0, iv 0, iv 0] 61)).alloc (.cells #[.slice Ab NB cb] 22)) v5.heap.size 22 #[.slice C5 N5 c5, .slice Aa NA ca] := (((box_new _ _ _ rfl).alloc _).alloc _); have HQ6 := Lib.hid (HJ6.out _ _ _ hB6 hy6 hx6); clear HJ6 hx6 hy6)
      | (go_at_call 33; (with_reducible refine HQ4.out.mono ?_); rintro e v4 ⟨C4, c4, N4, rfl, hn4, hc4, hb4⟩; have hz4 := below_step hB4 hb4; have hE4 := below_step hD4 hb4; have HC1 := Lib.hid (HC1.out.below hE4); have HC2 := Lib.hid (HC2.out.below hE4); have HC3 := Lib.hid (HC3.out.below hE4); have HP1 := Lib.hid (box_step HP1.out hE4); have HC4 := Lib.hid hc4; have HL4 := Lib.hid hn4; clear hb4 hB4 hD4 hc4 hn4 HQ4 hE4; have hB5 : Below wz.heap.size wz ((((v4).alloc (.cells #[.slice C3 N3 c3, .slice C4 N4 c4] 22)).alloc (.cells #[iv 6, iv 0, iv 0, iv 0, iv 0, iv 0] 61)).alloc (.cells #[.slice Aa NA ca] 22)) := (Below.al (Below.al (Below.al hz4 _) _) _); have hD5 : Below v4.heap.size v4 ((((v4).alloc (.cells #[.slice C3 N3 c3, .slice C4 N4 c4] 22)).alloc (.cells #[iv 6, iv 0, iv 0, iv 0, iv 0, iv 0] 61)).alloc (.cells #[.slice Aa NA ca] 22)) := (Below.al (Below.al (Below.al (Below.refl _ v4) _) _) _); have hy5 : BoxAt ((((v4).alloc (.cells #[.slice C3 N3 c3, .slice C4 N4 c4] 22)).alloc (.cells #[iv 6, iv 0, iv 0, iv 0, iv 0, iv 0] 61)).alloc (.cells #[.slice Aa NA ca] 22)) (v4.heap.size + 1) 61 #[iv 6, iv 0, iv 0, iv 0, iv 0, iv 0] := (box_new _ _ _ (by simp)).alloc _; have hx5 : BoxAt ((((v4).alloc (.cells #[.slice C3 N3 c3, .slice C4 N4 c4] 22)).alloc (.cells #[iv 6, iv 0, iv 0, iv 0, iv 0, iv 0] 61)).alloc (.cells #[.slice Aa NA ca] 22)) (v4.heap.size + 1 + 1) 22 #[.slice Aa NA ca] := box_new _ _ _ (by simp); have hp2 : BoxAt ((((v4).alloc (.cells #[.slice C3 N3 c3, .slice C4 N4 c4] 22)).alloc (.cells #[iv 6, iv 0, iv 0, iv 0, iv 0, iv 0] 61)).alloc (.cells #[.slice Aa NA ca] 22)) v4.heap.size 22 #[.slice C3 N3 c3, .slice C4 N4 c4] := (((box_new _ _ _ rfl).alloc _).alloc _); have HQ5 := Lib.hid (HJ5.out _ _ _ hB5 hy5 hx5); clear HJ5 hx5 hy5)
      | (go_at_call 33; (with_reducible refine HQ3.out.mono ?_); rintro e v3 ⟨C3, c3, N3, rfl, hn3, hc3, hb3⟩; have hz3 := below_step hB3 hb3; have hE3 := below_step hD3 hb3; have HC1 := Lib.hid (HC1.out.below hE3); have HC2 := Lib.hid (HC2.out.below hE3); have HP1 := Lib.hid (box_step hp1 hb3); have HC3 := Lib.hid hc3; have HL3 := Lib.hid hn3; clear hb3 hB3 hD3 hc3 hn3 HQ3 hE3 hp1; have hB4 : Below wz.heap.size wz (((v3).alloc (.cells #[iv 5, iv 0, iv 0, iv 0, iv 0, iv 0] 61)).alloc (.cells #[.slice (some ⟨v3.heap.size, 0, none⟩) 1 1, .slice (some ⟨q, 0, none⟩) 1 1, .slice Aa NA ca, .slice (some ⟨q, 0, none⟩) 1 1, .slice Ab NB cb] 22)) := (Below.al (Below.al hz3 _) _); have hD4 : Below v3.heap.size v3 (((v3).alloc (.cells #[iv 5, iv 0, iv 0, iv 0, iv 0, iv 0] 61)).alloc (.cells #[.slice (some ⟨v3.heap.size, 0, none⟩) 1 1, .slice (some ⟨q, 0, none⟩) 1 1, .slice Aa NA ca, .slice (some ⟨q, 0, none⟩) 1 1, .slice Ab NB cb] 22)) := (Below.al (Below.al (Below.refl _ v3) _) _); have hy4 : BoxAt (((v3).alloc (.cells #[iv 5, iv 0, iv 0, iv 0, iv 0, iv 0] 61)).alloc (.cells #[.slice (some ⟨v3.heap.size, 0, none⟩) 1 1, .slice (some ⟨q, 0, none⟩) 1 1, .slice Aa NA ca, .slice (some ⟨q, 0, none⟩) 1 1, .slice Ab NB cb] 22)) (v3.heap.size) 61 #[iv 5, iv 0, iv 0, iv 0, iv 0, iv 0] := (box_new _ _ _ (by simp)).alloc _; have hx4 : BoxAt (((v3).alloc (.cells #[iv 5, iv 0, iv 0, iv 0, iv 0, iv 0] 61)).alloc (.cells #[.slice (some ⟨v3.heap.size, 0, none⟩) 1 1, .slice (some ⟨q, 0, none⟩) 1 1, .slice Aa NA ca, .slice (some ⟨q, 0, none⟩) 1 1, .slice Ab NB cb] 22)) (v3.heap.size + 1) 22 #[.slice (some ⟨v3.heap.size, 0, none⟩) 1 1, .slice (some ⟨q, 0, none⟩) 1 1, .slice Aa NA ca, .slice (some ⟨q, 0, none⟩) 1 1, .slice Ab NB cb] := box_new _ _ _ (by simp); have HQ4 := Lib.hid (HJ4.out _ _ _ hB4 hy4 hx4); clear HJ4 hx4 hy4)
      | (go_at_call 33; (with_reducible refine HQ2.out.mono ?_); rintro e v2 ⟨C2, c2, N2, rfl, hn2, hc2, hb2⟩; have hz2 := below_step hB2 hb2; have hE2 := below_step hD2 hb2; have HC1 := Lib.hid (HC1.out.below hE2); have HC2 := Lib.hid hc2; have HL2 := Lib.hid hn2; clear hb2 hB2 hD2 hc2 hn2 HQ2 hE2; have hB3 : Below wz.heap.size wz ((((v2).alloc (.cells #[.slice C1 N1 c1, .slice C2 N2 c2] 22)).alloc (.cells #[iv 4, iv 0, iv 0, iv 0, iv 0, iv 0] 61)).alloc (.cells #[.slice Aa NA ca, .slice Ab NB cb] 22)) := (Below.al (Below.al (Below.al hz2 _) _) _); have hD3 : Below v2.heap.size v2 ((((v2).alloc (.cells #[.slice C1 N1 c1, .slice C2 N2 c2] 22)).alloc (.cells #[iv 4, iv 0, iv 0, iv 0, iv 0, iv 0] 61)).alloc (.cells #[.slice Aa NA ca, .slice Ab NB cb] 22)) := (Below.al (Below.al (Below.al (Below.refl _ v2) _) _) _); have hy3 : BoxAt ((((v2).alloc (.cells #[.slice C1 N1 c1, .slice C2 N2 c2] 22)).alloc (.cells #[iv 4, iv 0, iv 0, iv 0, iv 0, iv 0] 61)).alloc (.cells #[.slice Aa NA ca, .slice Ab NB cb] 22)) (v2.heap.size + 1) 61 #[iv 4, iv 0, iv 0, iv 0, iv 0, iv 0] := (box_new _ _ _ (by simp)).alloc _; have hx3 : BoxAt ((((v2).alloc (.cells #[.slice C1 N1 c1, .slice C2 N2 c2] 22)).alloc (.cells #[iv 4, iv 0, iv 0, iv 0, iv 0, iv 0] 61)).alloc (.cells #[.slice Aa NA ca, .slice Ab NB cb] 22)) (v2.heap.size + 1 + 1) 22 #[.slice Aa NA ca, .slice Ab NB cb] := box_new _ _ _ (by simp); have hp1 : BoxAt ((((v2).alloc (.cells #[.slice C1 N1 c1, .slice C2 N2 c2] 22)).alloc (.cells #[iv 4, iv 0, iv 0, iv 0, iv 0, iv 0] 61)).alloc (.cells #[.slice Aa NA ca, .slice Ab NB cb] 22)) v2.heap.size 22 #[.slice C1 N1 c1, .slice C2 N2 c2] := (((box_new _ _ _ rfl).alloc _).alloc _); have HQ3 := Lib.hid (HJ3.out _ _ _ hB3 hy3 hx3); clear HJ3 hx3 hy3)
      | (go_at_call 33; (with_reducible refine HQ1.out.mono ?_); rintro e v1 ⟨C1, c1, N1, rfl, hn1, hc1, hb1⟩; have hz1 := below_step hB1 hb1; have hE1 := below_step hD1 hb1; have HC1 := Lib.hid hc1; have HL1 := Lib.hid hn1; clear hb1 hB1 hD1 hc1 hn1 HQ1 hE1; have hB2 : Below wz.heap.size wz ((v1).alloc (.cells #[.slice (some ⟨q + 1 + 1, 0, none⟩) 1 1, .slice (some ⟨q, 0, none⟩) 1 1, .slice Aa NA ca] 22)) := (Below.al hz1 _); have hD2 : Below v1.heap.size v1 ((v1).alloc (.cells #[.slice (some ⟨q + 1 + 1, 0, none⟩) 1 1, .slice (some ⟨q, 0, none⟩) 1 1, .slice Aa NA ca] 22)) := (Below.al (Below.refl _ v1) _); have hx2 : BoxAt ((v1).alloc (.cells #[.slice (some ⟨q + 1 + 1, 0, none⟩) 1 1, .slice (some ⟨q, 0, none⟩) 1 1, .slice Aa NA ca] 22)) (v1.heap.size) 22 #[.slice (some ⟨q + 1 + 1, 0, none⟩) 1 1, .slice (some ⟨q, 0, none⟩) 1 1, .slice Aa NA ca] := box_new _ _ _ (by simp); have HQ2 := Lib.hid (HJ2.out _ _ hB2 hx2); clear HJ2 hx2))
    have hE9 : Below v8.heap.size v8 ((v8.alloc (.cells #[.slice C7 N7 c7, .slice C8 N8 c8] 22)).alloc (.cells #[.slice (some ⟨v2.heap.size, 0, none⟩) 2 2, .slice (some ⟨v4.heap.size, 0, none⟩) 2 2, .slice (some ⟨v5.heap.size, 0, none⟩) 2 2, .slice (some ⟨v6.heap.size, 0, none⟩) 2 2, .slice (some ⟨v8.heap.size, 0, none⟩) 2 2] 63)) := Below.al (Below.al (Below.refl _ v8) _) _
    have hZ9 : Below wz.heap.size wz ((v8.alloc (.cells #[.slice C7 N7 c7, .slice C8 N8 c8] 22)).alloc (.cells #[.slice (some ⟨v2.heap.size, 0, none⟩) 2 2, .slice (some ⟨v4.heap.size, 0, none⟩) 2 2, .slice (some ⟨v5.heap.size, 0, none⟩) 2 2, .slice (some ⟨v6.heap.size, 0, none⟩) 2 2, .slice (some ⟨v8.heap.size, 0, none⟩) 2 2] 63)) := Below.al (Below.al hz8 _) _
    replace HC1 := Lib.hid (HC1.out.below hE9)
    replace HC2 := Lib.hid (HC2.out.below hE9)
    replace HC3 := Lib.hid (HC3.out.below hE9)
    replace HC4 := Lib.hid (HC4.out.below hE9)
    replace HC5 := Lib.hid (HC5.out.below hE9)
    replace HC6 := Lib.hid (HC6.out.below hE9)
    replace HC7 := Lib.hid (HC7.out.below hE9)
    replace HC8 := Lib.hid (HC8.out.below hE9)
    replace HP1 := Lib.hid (box_step HP1.out hE9)
    replace HP2 := Lib.hid (box_step HP2.out hE9)
    replace HP3 := Lib.hid (box_step HP3.out hE9)
    replace HP4 := Lib.hid (box_step HP4.out hE9)
    have HP5 : Hid (BoxAt ((v8.alloc (.cells #[.slice C7 N7 c7, .slice C8 N8 c8] 22)).alloc (.cells #[.slice (some ⟨v2.heap.size, 0, none⟩) 2 2, .slice (some ⟨v4.heap.size, 0, none⟩) 2 2, .slice (some ⟨v5.heap.size, 0, none⟩) 2 2, .slice (some ⟨v6.heap.size, 0, none⟩) 2 2, .slice (some ⟨v8.heap.size, 0, none⟩) 2 2] 63)) v8.heap.size 22 #[.slice C7 N7 c7, .slice C8 N8 c8]) := Lib.hid ((box_new _ _ _ rfl).alloc _)
    have HTB : Hid (BoxAt ((v8.alloc (.cells #[.slice C7 N7 c7, .slice C8 N8 c8] 22)).alloc (.cells #[.slice (some ⟨v2.heap.size, 0, none⟩) 2 2, .slice (some ⟨v4.heap.size, 0, none⟩) 2 2, .slice (some ⟨v5.heap.size, 0, none⟩) 2 2, .slice (some ⟨v6.heap.size, 0, none⟩) 2 2, .slice (some ⟨v8.heap.size, 0, none⟩) 2 2] 63)) (v8.heap.size + 1) 63 #[.slice (some ⟨v2.heap.size, 0, none⟩) 2 2, .slice (some ⟨v4.heap.size, 0, none⟩) 2 2, .slice (some ⟨v5.heap.size, 0, none⟩) 2 2, .slice (some ⟨v6.heap.size, 0, none⟩) 2 2, .slice (some ⟨v8.heap.size, 0, none⟩) 2 2]) := Lib.hid (box_new _ _ _ (by simp))
    have HBE := Lib.hid (below_step HBz.out hZ9)
    replace HRW := Lib.hid (HRW.out.below hZ9)
    replace HNa := Lib.hid (HNa.out.below hZ9)
    replace HNb := Lib.hid (HNb.out.below hZ9)
    clear hE9 hZ9 hz1 hz2 hz3 hz4 hz5 hz6 hz7 hz8 HBz HNn HNl HNs
    generalize (v8.alloc (.cells #[.slice C7 N7 c7, .slice C8 N8 c8] 22)).alloc (.cells #[.slice (some ⟨v2.heap.size, 0, none⟩) 2 2, .slice (some ⟨v4.heap.size, 0, none⟩) 2 2, .slice (some ⟨v5.heap.size, 0, none⟩) 2 2, .slice (some ⟨v6.heap.size, 0, none⟩) 2 2, .slice (some ⟨v8.heap.size, 0, none⟩) 2 2] 63) = we at *
    generalize v8.heap.size = q8 at *
    obtain ⟨x0, x1, x2⟩ := HXY.out
    have h4 : q0 ≤ 4 := x2
    have hz0 : (0 : Int) ≤ 4 := by decide
    have hAll : ndE 2 (nAll p0 q0) = 0 := by unfold ndE nAll; simp; omega
    have hSome : ndE 2 (nSome p0 q0) = 0 := by unfold ndE nSome; simp; omega
    have hUnt : ndE 2 (nUnt p0 q0) = 0 := by unfold ndE nUnt; simp; omega
    have HE1 : Hid (∀ (W : World) (i : Nat), Below we.heap.size we W → i ≤ 1000 → Calls Tryd.prog 29 #[.slice C1 N1 c1, iv 2, .slice C T c, iv i] W fun e w' => e = .returned (.tuple #[iv (evT t (.un (nAll p0 q0) xa) i), iv 0]) ∧ Below W.heap.size W w') := Lib.hid (fun W i hb hi => by
      have h := eval_two C1 c1 C c (x := (.un (nAll p0 q0) xa)) ((HVa.out.un rfl hAll h4).mono (by decide) (by decide)) HTr.out i hi W (HC1.out.below hb) (HRW.out.below hb)
      rw [← HL1.out, ← HTT.out] at h
      exact h)
    have HE2 : Hid (∀ (W : World) (i : Nat), Below we.heap.size we W → i ≤ 1000 → Calls Tryd.prog 29 #[.slice C2 N2 c2, iv 2, .slice C T c, iv i] W fun e w' => e = .returned (.tuple #[iv (evT t (.un nNot (.un (nSome p0 q0) (.un nNot xa))) i), iv 0]) ∧ Below W.heap.size W w') := Lib.hid (fun W i hb hi => by
      have h := eval_two C2 c2 C c (x := (.un nNot (.un (nSome p0 q0) (.un nNot xa)))) ((((HVa.out.un rfl rfl hz0).un rfl hSome h4).un rfl rfl hz0).mono (by decide) (by decide)) HTr.out i hi W (HC2.out.below hb) (HRW.out.below hb)
      rw [← HL2.out, ← HTT.out] at h
      exact h)
    have HE3 : Hid (∀ (W : World) (i : Nat), Below we.heap.size we W → i ≤ 1000 → Calls Tryd.prog 29 #[.slice C3 N3 c3, iv 2, .slice C T c, iv i] W fun e w' => e = .returned (.tuple #[iv (evT t (.bi nAnd xa xb) i), iv 0]) ∧ Below W.heap.size W w') := Lib.hid (fun W i hb hi => by
      have h := eval_two C3 c3 C c (x := (.bi nAnd xa xb)) ((Vx.bi rfl rfl hz0 HVa.out HVb.out).mono (by decide) (by decide)) HTr.out i hi W (HC3.out.below hb) (HRW.out.below hb)
      rw [← HL3.out, ← HTT.out] at h
      exact h)
    have HE4 : Hid (∀ (W : World) (i : Nat), Below we.heap.size we W → i ≤ 1000 → Calls Tryd.prog 29 #[.slice C4 N4 c4, iv 2, .slice C T c, iv i] W fun e w' => e = .returned (.tuple #[iv (evT t (.un nNot (.bi nOr (.un nNot xa) (.un nNot xb))) i), iv 0]) ∧ Below W.heap.size W w') := Lib.hid (fun W i hb hi => by
      have h := eval_two C4 c4 C c (x := (.un nNot (.bi nOr (.un nNot xa) (.un nNot xb)))) (((Vx.bi rfl rfl hz0 (HVa.out.un rfl rfl hz0) (HVb.out.un rfl rfl hz0)).un rfl rfl hz0).mono (by decide) (by decide)) HTr.out i hi W (HC4.out.below hb) (HRW.out.below hb)
      rw [← HL4.out, ← HTT.out] at h
      exact h)
    have HE5 : Hid (∀ (W : World) (i : Nat), Below we.heap.size we W → i ≤ 1000 → Calls Tryd.prog 29 #[.slice C5 N5 c5, iv 2, .slice C T c, iv i] W fun e w' => e = .returned (.tuple #[iv (evT t (.un (nAll 0 0) xa) i), iv 0]) ∧ Below W.heap.size W w') := Lib.hid (fun W i hb hi => by
      have h := eval_two C5 c5 C c (x := (.un (nAll 0 0) xa)) ((HVa.out.un rfl rfl hz0).mono (by decide) (by decide)) HTr.out i hi W (HC5.out.below hb) (HRW.out.below hb)
      rw [← HL5.out, ← HTT.out] at h
      exact h)
    have HE6 : Hid (∀ (W : World) (i : Nat), Below we.heap.size we W → i ≤ 1000 → Calls Tryd.prog 29 #[.slice C6 N6 c6, iv 2, .slice C T c, iv i] W fun e w' => e = .returned (.tuple #[iv (evT t (.un (nSome 0 0) xb) i), iv 0]) ∧ Below W.heap.size W w') := Lib.hid (fun W i hb hi => by
      have h := eval_two C6 c6 C c (x := (.un (nSome 0 0) xb)) ((HVb.out.un rfl rfl hz0).mono (by decide) (by decide)) HTr.out i hi W (HC6.out.below hb) (HRW.out.below hb)
      rw [← HL6.out, ← HTT.out] at h
      exact h)
    have HE7 : Hid (∀ (W : World) (i : Nat), Below we.heap.size we W → i ≤ 1000 → Calls Tryd.prog 29 #[.slice C7 N7 c7, iv 2, .slice C T c, iv i] W fun e w' => e = .returned (.tuple #[iv (evT t (.bi (nUnt p0 q0) (.lf nTrue) xb) i), iv 0]) ∧ Below W.heap.size W w') := Lib.hid (fun W i hb hi => by
      have h := eval_two C7 c7 C c (x := (.bi (nUnt p0 q0) (.lf nTrue) xb)) ((Vx.bi rfl hUnt h4 (Vx.true.mono (by decide) (Nat.le_refl _)) HVb.out).mono (by decide) (by decide)) HTr.out i hi W (HC7.out.below hb) (HRW.out.below hb)
      rw [← HL7.out, ← HTT.out] at h
      exact h)
    have HE8 : Hid (∀ (W : World) (i : Nat), Below we.heap.size we W → i ≤ 1000 → Calls Tryd.prog 29 #[.slice C8 N8 c8, iv 2, .slice C T c, iv i] W fun e w' => e = .returned (.tuple #[iv (evT t (.un (nSome p0 q0) xb) i), iv 0]) ∧ Below W.heap.size W w') := Lib.hid (fun W i hb hi => by
      have h := eval_two C8 c8 C c (x := (.un (nSome p0 q0) xb)) ((HVb.out.un rfl hSome h4).mono (by decide) (by decide)) HTr.out i hi W (HC8.out.below hb) (HRW.out.below hb)
      rw [← HL8.out, ← HTT.out] at h
      exact h)
    have HEa : Hid (∀ (W : World) (i : Nat), Below we.heap.size we W → i ≤ 1000 → Calls Tryd.prog 29 #[.slice Aa NA ca, iv 2, .slice C T c, iv i] W fun e w' => e = .returned (.tuple #[iv (evT t xa i), iv 0]) ∧ Below W.heap.size W w') := Lib.hid (fun W i hb hi => by
      have h := eval_two Aa ca C c (x := xa) (HVa.out.mono (by decide) (by decide)) HTr.out i hi W (HNa.out.below hb) (HRW.out.below hb)
      rw [← HNA.out, ← HTT.out] at h
      exact h)
    have HEb : Hid (∀ (W : World) (i : Nat), Below we.heap.size we W → i ≤ 1000 → Calls Tryd.prog 29 #[.slice Ab NB cb, iv 2, .slice C T c, iv i] W fun e w' => e = .returned (.tuple #[iv (evT t xb i), iv 0]) ∧ Below W.heap.size W w') := Lib.hid (fun W i hb hi => by
      have h := eval_two Ab cb C c (x := xb) (HVb.out.mono (by decide) (by decide)) HTr.out i hi W (HNb.out.below hb) (HRW.out.below hb)
      rw [← HNB.out, ← HTT.out] at h
      exact h)
    have HPr : Hid (∀ k : Nat, k < 5 → ∃ (g : Nat) (D : Option Addr) (d N : Nat) (D' : Option Addr) (d' N' : Nat) (F : Nat → Int), we.cell? ⟨q8 + 1, k, none⟩ = some (.slice (some ⟨g, 0, none⟩) 2 2) ∧ BoxAt we g 22 #[.slice D N d, .slice D' N' d'] ∧
        (∀ (W : World) (i : Nat), Below we.heap.size we W → i ≤ 1000 → Calls Tryd.prog 29 #[.slice D N d, iv 2, .slice C T c, iv i] W fun e w' => e = .returned (.tuple #[iv (F i), iv 0]) ∧ Below W.heap.size W w') ∧
        (∀ (W : World) (i : Nat), Below we.heap.size we W → i ≤ 1000 → Calls Tryd.prog 29 #[.slice D' N' d', iv 2, .slice C T c, iv i] W fun e w' => e = .returned (.tuple #[iv (F i), iv 0]) ∧ Below W.heap.size W w')) := Lib.hid (fun k hk => by
      match k, hk with
      | 0, _ => exact ⟨_, _, _, _, _, _, _, _, HTB.out.cell 0, HP1.out, HE1.out, fun W i hb hi => by rw [dual1 t xa p0 q0 i]; exact HE2.out W i hb hi⟩
      | 1, _ => exact ⟨_, _, _, _, _, _, _, _, HTB.out.cell 1, HP2.out, HE3.out, fun W i hb hi => by rw [dual2 t xa xb i]; exact HE4.out W i hb hi⟩
      | 2, _ => exact ⟨_, _, _, _, _, _, _, _, HTB.out.cell 2, HP3.out, HE5.out, fun W i hb hi => by rw [dual3 t xa i]; exact HEa.out W i hb hi⟩
      | 3, _ => exact ⟨_, _, _, _, _, _, _, _, HTB.out.cell 3, HP4.out, HE6.out, fun W i hb hi => by rw [dual4 t xb i]; exact HEb.out W i hb hi⟩
      | 4, _ => exact ⟨_, _, _, _, _, _, _, _, HTB.out.cell 4, HP5.out, HE7.out, fun W i hb hi => by rw [dual5 t xb p0 q0 x1 i]; exact HE8.out W i hb hi⟩
      | k + 5, h => exact absurd h (by omega))
    clear HE1 HE2 HE3 HE4 HE5 HE6 HE7 HE8 HEa HEb HC1 HC2 HC3 HC4 HC5 HC6 HC7 HC8 HP1 HP2 HP3 HP4 HP5 HL1 HL2 HL3 HL4 HL5 HL6 HL7 HL8 HTB HTr HRW HNa HNb HVa HVb HNA HNB HTT HXY x0 x1 x2 h4 hz0 hAll hSome hUnt
    go_wp2
    go_loopw [20] (fun kv wr => ∃ k : Nat, kv = iv k ∧ k ≤ 5 ∧ Hid (Below we.heap.size we wr)) (fun kv _ => 5 - (intOf kv).toNat)
    case atStart => exact ⟨0, rfl, by decide, Lib.hid (Below.refl _ _)⟩
    case round =>
      obtain ⟨k, rfl, hk5, HBk⟩ := hrel
      have i0 : (0 : Int) ≤ (k : Int) := Int.natCast_nonneg _
      by_cases hk : k < 5
      · have i1 : (k : Int) < 5 := by omega
        obtain ⟨g, D, d, N, D', d', N', F, h1, h2, h3, h4⟩ := HPr.out k hk
        have H1 := Lib.hid h1
        have H2 := Lib.hid h2
        have H3 := Lib.hid h3
        have H4 := Lib.hid h4
        clear h1 h2 h3 h4
        go_wp2
        go_loopw [21] (fun nv wk => ∃ i : Nat, nv = iv i ∧ i ≤ T + 1 ∧ Hid (Below we.heap.size we wk)) (fun nv _ => T + 1 - (intOf nv).toNat)
        case atStart => exact ⟨0, rfl, Nat.zero_le _, HBk⟩
        case round =>
          obtain ⟨i, rfl, hiT, HBi⟩ := hrel
          have j0 : (0 : Int) ≤ (i : Int) := Int.natCast_nonneg _
          by_cases hi : i ≤ T
          · have j1 : (i : Int) ≤ (T : Int) := by omega
            have hq1 := World.block_lt_of_cell? we _ H1.out
            have c0 := (HBi.out.cell (p := ⟨q8 + 1, k, none⟩) hq1).trans H1.out
            have hb0 := box_step H2.out HBi.out
            have c1 : wr.cell? ⟨g, 0, none⟩ = some (.slice D N d) := hb0.cell 0
            have l1 := hb0.lt
            have l0 := World.block_lt_of_cell? wr _ c0
            have HE1 := Lib.hid (H3.out _ i HBi.out (by omega))
            have HE2 := Lib.hid (fun W h => H4.out W i h (by omega))
            clear hb0 hq1
            generalize F i = v at *
            go_upto_region 17 with (first
              | (go_at_call 29; (with_reducible refine (HE2.out _ hB5).mono ?_); rintro e w6 ⟨rfl, hb6⟩; have HB6 := Lib.hid (below_step hB5 hb6))
              | (go_at_call 29; (with_reducible refine HE1.out.mono ?_); rintro e w5 ⟨rfl, hb5⟩; have hB5 := below_step HBi.out hb5; have c0 := (hb5.cell (p := ⟨q8 + 1, k, none⟩) l0).trans c0; have c2 : w5.cell? ⟨g, 1, none⟩ = some (.slice D' N' d') := (box_step H2.out hB5).cell 1; have l2 : g < w5.heap.size := (box_step H2.out hB5).lt; have l3 := World.block_lt_of_cell? w5 _ c0))
            go_wp2
            exact ⟨⟨i + 1, by go_num, by omega, HB6⟩, by simp [intOf]; omega⟩
          · have j1 : ¬ (i : Int) ≤ (T : Int) := by omega
            go_wp2
            exact ⟨⟨k + 1, by go_num, by omega, HBi⟩, by simp [intOf]; omega⟩
      · obtain rfl : k = 5 := by omega
        go_wp2_with (go_at_call 11; (with_reducible refine (HAw.out _ (below_step HBE.out HBk.out)).mono ?_); rintro e w4 ⟨rfl, hb4⟩)
        go_ret
        exact ⟨rfl, below_step (below_step HBE.out HBk.out) hb4⟩
  · have hxy2 : q0 ≤ p0 := by omega
    have hm1 : min p0 q0 = q0 := Int.min_eq_right hxy2
    have hm2 : max p0 q0 = p0 := Int.max_eq_left hxy2
    go_upto_region 8 with fail
    have HXY : Hid (0 ≤ q0 ∧ q0 ≤ p0 ∧ p0 ≤ 4) := Lib.hid (by omega)
    have HBz : Hid (Below w.heap.size w (((w3.alloc (.cells #[iv 3, iv 0, iv 0, iv 0, iv 0, iv 0] 61)).alloc (.cells #[iv 6, iv 0, iv 0, iv 0, iv q0, iv p0] 61)).alloc (.cells #[iv 7, iv 0, iv 0, iv 0, iv q0, iv p0] 61))) := Lib.hid (Below.al (Below.al (Below.al HB3.out _) _) _)
    have hz3 : Below w3.heap.size w3 (((w3.alloc (.cells #[iv 3, iv 0, iv 0, iv 0, iv 0, iv 0] 61)).alloc (.cells #[iv 6, iv 0, iv 0, iv 0, iv q0, iv p0] 61)).alloc (.cells #[iv 7, iv 0, iv 0, iv 0, iv q0, iv p0] 61)) := Below.al (Below.al (Below.al (Below.refl _ w3) _) _) _
    have HNn : Hid (NdsL (((w3.alloc (.cells #[iv 3, iv 0, iv 0, iv 0, iv 0, iv 0] 61)).alloc (.cells #[iv 6, iv 0, iv 0, iv 0, iv q0, iv p0] 61)).alloc (.cells #[iv 7, iv 0, iv 0, iv 0, iv q0, iv p0] 61)) (some ⟨w3.heap.size, 0, none⟩) [nNot]) := Lib.hid (nds_box (n := nNot) (((box_new _ _ _ rfl).alloc _).alloc _))
    have HNl : Hid (NdsL (((w3.alloc (.cells #[iv 3, iv 0, iv 0, iv 0, iv 0, iv 0] 61)).alloc (.cells #[iv 6, iv 0, iv 0, iv 0, iv q0, iv p0] 61)).alloc (.cells #[iv 7, iv 0, iv 0, iv 0, iv q0, iv p0] 61)) (some ⟨w3.heap.size + 1, 0, none⟩) [nAll q0 p0]) := Lib.hid (nds_box (n := nAll q0 p0) ((box_new _ _ _ (by simp)).alloc _))
    have HNs : Hid (NdsL (((w3.alloc (.cells #[iv 3, iv 0, iv 0, iv 0, iv 0, iv 0] 61)).alloc (.cells #[iv 6, iv 0, iv 0, iv 0, iv q0, iv p0] 61)).alloc (.cells #[iv 7, iv 0, iv 0, iv 0, iv q0, iv p0] 61)) (some ⟨w3.heap.size + 1 + 1, 0, none⟩) [nSome q0 p0]) := Lib.hid (nds_box (n := nSome q0 p0) (box_new _ _ _ (by simp)))
    replace HNa := Lib.hid (HNa.out.below hz3)
    replace HNb := Lib.hid (HNb.out.below hz3)
    replace HRW := Lib.hid (HRW.out.below hz3)
    clear hz3 HB3 hxy hm1 hm2
    generalize ((w3.alloc (.cells #[iv 3, iv 0, iv 0, iv 0, iv 0, iv 0] 61)).alloc (.cells #[iv 6, iv 0, iv 0, iv 0, iv q0, iv p0] 61)).alloc (.cells #[iv 7, iv 0, iv 0, iv 0, iv q0, iv p0] 61) = wz at *
    generalize w3.heap.size = q at *
    have HJ1 : Hid (∀ (W : World) (g : Nat), Below wz.heap.size wz W → BoxAt W g 22 #[.slice Aa NA ca] → Calls Tryd.prog 33 #[.slice (some ⟨q + 1, 0, none⟩) 1 1, .slice (some ⟨g, 0, none⟩) 1 1] W fun e w' => ∃ (C : Option Addr) (c N : Nat), e = .returned (.slice C N c) ∧ N = (Fm.flat (.un (nAll q0 p0) xa)).length ∧ NdsL w' C (Fm.flat (.un (nAll q0 p0) xa)) ∧ Below W.heap.size W w') := Lib.hid (by
      have e1 := HNA.out
      have e2 := HNB.out
      clear HNA HNB
      subst e1 e2
      intro W g hb hg
      exact join_to (n := [nAll q0 p0]) (L := [xa.flat]) rfl rfl (by simp [Fm.flat]) (Nat.zero_lt_succ _) (by simp [Fm.flat]; omega) (by simp) (HNl.out.below hb) (row_boxm [(Aa, ca, xa.flat)] hg (List.forall_mem_cons.2 ⟨⟨pa, (HNa.out.below hb)⟩, (fun _ h => by cases h)⟩)))
    have HJ2 : Hid (∀ (W : World) (g : Nat), Below wz.heap.size wz W → BoxAt W g 22 #[.slice (some ⟨q + 1 + 1, 0, none⟩) 1 1, .slice (some ⟨q, 0, none⟩) 1 1, .slice Aa NA ca] → Calls Tryd.prog 33 #[.slice (some ⟨q, 0, none⟩) 1 1, .slice (some ⟨g, 0, none⟩) 3 3] W fun e w' => ∃ (C : Option Addr) (c N : Nat), e = .returned (.slice C N c) ∧ N = (Fm.flat (.un nNot (.un (nSome q0 p0) (.un nNot xa)))).length ∧ NdsL w' C (Fm.flat (.un nNot (.un (nSome q0 p0) (.un nNot xa)))) ∧ Below W.heap.size W w') := Lib.hid (by
      have e1 := HNA.out
      have e2 := HNB.out
      clear HNA HNB
      subst e1 e2
      intro W g hb hg
      exact join_to (n := [nNot]) (L := [[nSome q0 p0], [nNot], xa.flat]) rfl rfl (by simp [Fm.flat]) (Nat.zero_lt_succ _) (by simp [Fm.flat]; omega) (by simp) (HNn.out.below hb) (row_boxm [((some ⟨q + 1 + 1, 0, none⟩), 1, [nSome q0 p0]), ((some ⟨q, 0, none⟩), 1, [nNot]), (Aa, ca, xa.flat)] hg (List.forall_mem_cons.2 ⟨⟨(Nat.zero_lt_succ _), (HNs.out.below hb)⟩, (List.forall_mem_cons.2 ⟨⟨(Nat.zero_lt_succ _), (HNn.out.below hb)⟩, (List.forall_mem_cons.2 ⟨⟨pa, (HNa.out.below hb)⟩, (fun _ h => by cases h)⟩)⟩)⟩)))
    have HJ3 : Hid (∀ (W : World) (g g0 : Nat), Below wz.heap.size wz W → BoxAt W g0 61 #[iv 4, iv 0, iv 0, iv 0, iv 0, iv 0] → BoxAt W g 22 #[.slice Aa NA ca, .slice Ab NB cb] → Calls Tryd.prog 33 #[.slice (some ⟨g0, 0, none⟩) 1 1, .slice (some ⟨g, 0, none⟩) 2 2] W fun e w' => ∃ (C : Option Addr) (c N : Nat), e = .returned (.slice C N c) ∧ N = (Fm.flat (.bi nAnd xa xb)).length ∧ NdsL w' C (Fm.flat (.bi nAnd xa xb)) ∧ Below W.heap.size W w') := Lib.hid (by
      have e1 := HNA.out
      have e2 := HNB.out
      clear HNA HNB
      subst e1 e2
      intro W g g0 hb hg0 hg
      exact join_to (n := [nAnd]) (L := [xa.flat, xb.flat]) rfl rfl (by simp [Fm.flat]) (Nat.zero_lt_succ _) (by simp [Fm.flat]; omega) (by simp) (nds_box (n := nAnd) hg0) (row_boxm [(Aa, ca, xa.flat), (Ab, cb, xb.flat)] hg (List.forall_mem_cons.2 ⟨⟨pa, (HNa.out.below hb)⟩, (List.forall_mem_cons.2 ⟨⟨pb, (HNb.out.below hb)⟩, (fun _ h => by cases h)⟩)⟩)))
    have HJ4 : Hid (∀ (W : World) (g g0 : Nat), Below wz.heap.size wz W → BoxAt W g0 61 #[iv 5, iv 0, iv 0, iv 0, iv 0, iv 0] → BoxAt W g 22 #[.slice (some ⟨g0, 0, none⟩) 1 1, .slice (some ⟨q, 0, none⟩) 1 1, .slice Aa NA ca, .slice (some ⟨q, 0, none⟩) 1 1, .slice Ab NB cb] → Calls Tryd.prog 33 #[.slice (some ⟨q, 0, none⟩) 1 1, .slice (some ⟨g, 0, none⟩) 5 5] W fun e w' => ∃ (C : Option Addr) (c N : Nat), e = .returned (.slice C N c) ∧ N = (Fm.flat (.un nNot (.bi nOr (.un nNot xa) (.un nNot xb)))).length ∧ NdsL w' C (Fm.flat (.un nNot (.bi nOr (.un nNot xa) (.un nNot xb)))) ∧ Below W.heap.size W w') := Lib.hid (by
      have e1 := HNA.out
      have e2 := HNB.out
      clear HNA HNB
      subst e1 e2
      intro W g g0 hb hg0 hg
      exact join_to (n := [nNot]) (L := [[nOr], [nNot], xa.flat, [nNot], xb.flat]) rfl rfl (by simp [Fm.flat]) (Nat.zero_lt_succ _) (by simp [Fm.flat]; omega) (by simp) (HNn.out.below hb) (row_boxm [((some ⟨g0, 0, none⟩), 1, [nOr]), ((some ⟨q, 0, none⟩), 1, [nNot]), (Aa, ca, xa.flat), ((some ⟨q, 0, none⟩), 1, [nNot]), (Ab, cb, xb.flat)] hg (List.forall_mem_cons.2 ⟨⟨(Nat.zero_lt_succ _), (nds_box (n := nOr) hg0)⟩, (List.forall_mem_cons.2 ⟨⟨(Nat.zero_lt_succ _), (HNn.out.below hb)⟩, (List.forall_mem_cons.2 ⟨⟨pa, (HNa.out.below hb)⟩, (List.forall_mem_cons.2 ⟨⟨(Nat.zero_lt_succ _), (HNn.out.below hb)⟩, (List.forall_mem_cons.2 ⟨⟨pb, (HNb.out.below hb)⟩, (fun _ h => by cases h)⟩)⟩)⟩)⟩)⟩)))
    have HJ5 : Hid (∀ (W : World) (g g0 : Nat), Below wz.heap.size wz W → BoxAt W g0 61 #[iv 6, iv 0, iv 0, iv 0, iv 0, iv 0] → BoxAt W g 22 #[.slice Aa NA ca] → Calls Tryd.prog 33 #[.slice (some ⟨g0, 0, none⟩) 1 1, .slice (some ⟨g, 0, none⟩) 1 1] W fun e w' => ∃ (C : Option Addr) (c N : Nat), e = .returned (.slice C N c) ∧ N = (Fm.flat (.un (nAll 0 0) xa)).length ∧ NdsL w' C (Fm.flat (.un (nAll 0 0) xa)) ∧ Below W.heap.size W w') := Lib.hid (by
      have e1 := HNA.out
      have e2 := HNB.out
      clear HNA HNB
      subst e1 e2
      intro W g g0 hb hg0 hg
      exact join_to (n := [nAll 0 0]) (L := [xa.flat]) rfl rfl (by simp [Fm.flat]) (Nat.zero_lt_succ _) (by simp [Fm.flat]; omega) (by simp) (nds_box (n := nAll 0 0) hg0) (row_boxm [(Aa, ca, xa.flat)] hg (List.forall_mem_cons.2 ⟨⟨pa, (HNa.out.below hb)⟩, (fun _ h => by cases h)⟩)))
    have HJ6 : Hid (∀ (W : World) (g g0 : Nat), Below wz.heap.size wz W → BoxAt W g0 61 #[iv 7, iv 0, iv 0, iv 0, iv 0, iv 0] → BoxAt W g 22 #[.slice Ab NB cb] → Calls Tryd.prog 33 #[.slice (some ⟨g0, 0, none⟩) 1 1, .slice (some ⟨g, 0, none⟩) 1 1] W fun e w' => ∃ (C : Option Addr) (c N : Nat), e = .returned (.slice C N c) ∧ N = (Fm.flat (.un (nSome 0 0) xb)).length ∧ NdsL w' C (Fm.flat (.un (nSome 0 0) xb)) ∧ Below W.heap.size W w') := Lib.hid (by
      have e1 := HNA.out
      have e2 := HNB.out
      clear HNA HNB
      subst e1 e2
      intro W g g0 hb hg0 hg
      exact join_to (n := [nSome 0 0]) (L := [xb.flat]) rfl rfl (by simp [Fm.flat]) (Nat.zero_lt_succ _) (by simp [Fm.flat]; omega) (by simp) (nds_box (n := nSome 0 0) hg0) (row_boxm [(Ab, cb, xb.flat)] hg (List.forall_mem_cons.2 ⟨⟨pb, (HNb.out.below hb)⟩, (fun _ h => by cases h)⟩)))
    have HJ7 : Hid (∀ (W : World) (g g0 : Nat), Below wz.heap.size wz W → BoxAt W g0 61 #[iv 8, iv 0, iv 0, iv 0, iv q0, iv p0, iv 1, iv 0, iv 0, iv 0, iv 0, iv 0] → BoxAt W g 22 #[.slice Ab NB cb] → Calls Tryd.prog 33 #[.slice (some ⟨g0, 0, none⟩) 2 2, .slice (some ⟨g, 0, none⟩) 1 1] W fun e w' => ∃ (C : Option Addr) (c N : Nat), e = .returned (.slice C N c) ∧ N = (Fm.flat (.bi (nUnt q0 p0) (.lf nTrue) xb)).length ∧ NdsL w' C (Fm.flat (.bi (nUnt q0 p0) (.lf nTrue) xb)) ∧ Below W.heap.size W w') := Lib.hid (by
      have e1 := HNA.out
      have e2 := HNB.out
      clear HNA HNB
      subst e1 e2
      intro W g g0 hb hg0 hg
      exact join_to (n := [nUnt q0 p0, nTrue]) (L := [xb.flat]) rfl rfl (by simp [Fm.flat]) (Nat.zero_lt_succ _) (by simp [Fm.flat]; omega) (by simp) (nds_box2 (n := nUnt q0 p0) (m := nTrue) hg0) (row_boxm [(Ab, cb, xb.flat)] hg (List.forall_mem_cons.2 ⟨⟨pb, (HNb.out.below hb)⟩, (fun _ h => by cases h)⟩)))
    have HJ8 : Hid (∀ (W : World) (g : Nat), Below wz.heap.size wz W → BoxAt W g 22 #[.slice Ab NB cb] → Calls Tryd.prog 33 #[.slice (some ⟨q + 1 + 1, 0, none⟩) 1 1, .slice (some ⟨g, 0, none⟩) 1 1] W fun e w' => ∃ (C : Option Addr) (c N : Nat), e = .returned (.slice C N c) ∧ N = (Fm.flat (.un (nSome q0 p0) xb)).length ∧ NdsL w' C (Fm.flat (.un (nSome q0 p0) xb)) ∧ Below W.heap.size W w') := Lib.hid (by
      have e1 := HNA.out
      have e2 := HNB.out
      clear HNA HNB
      subst e1 e2
      intro W g hb hg
      exact join_to (n := [nSome q0 p0]) (L := [xb.flat]) rfl rfl (by simp [Fm.flat]) (Nat.zero_lt_succ _) (by simp [Fm.flat]; omega) (by simp) (HNs.out.below hb) (row_boxm [(Ab, cb, xb.flat)] hg (List.forall_mem_cons.2 ⟨⟨pb, (HNb.out.below hb)⟩, (fun _ h => by cases h)⟩)))
    have hB1 : Below wz.heap.size wz ((wz).alloc (.cells #[.slice Aa NA ca] 22)) := (Below.al (Below.refl _ wz) _)
    have hD1 : Below wz.heap.size wz ((wz).alloc (.cells #[.slice Aa NA ca] 22)) := (Below.al (Below.refl _ wz) _)
    have hx1 : BoxAt ((wz).alloc (.cells #[.slice Aa NA ca] 22)) (wz.heap.size) 22 #[.slice Aa NA ca] := box_new _ _ _ (by simp)
    have HQ1 := Lib.hid (HJ1.out _ _ hB1 hx1)
    clear HJ1 hx1
    go_upto_region 9 with (first
      | (go_at_call 33; (with_reducible refine HQ8.out.mono ?_); rintro e v8 ⟨C8, c8, N8, rfl, hn8, hc8, hb8⟩; have hz8 := below_step hB8 hb8; have hE8 := below_step hD8 hb8; have HC1 := Lib.hid (HC1.out.below hE8); have HC2 := Lib.hid (HC2.out.below hE8); have HC3 := Lib.hid (HC3.out.below hE8); have HC4 := Lib.hid (HC4.out.below hE8); have HC5 := Lib.hid (HC5.out.below hE8); have HC6 := Lib.hid (HC6.out.below hE8); have HC7 := Lib.hid (HC7.out.below hE8); have HP1 := Lib.hid (box_step HP1.out hE8); have HP2 := Lib.hid (box_step HP2.out hE8); have HP3 := Lib.hid (box_step HP3.out hE8); have HP4 := Lib.hid (box_step HP4.out hE8); have HC8 := Lib.hid hc8; have HL8 := Lib.hid hn8; clear hb8 hB8 hD8 hc8 hn8 HQ8 hE8)
      | (go_at_call 33; (with_reducible refine HQ7.out.mono ?_); rintro e v7 ⟨C7, c7, N7, rfl, hn7, hc7, hb7⟩; have hz7 := below_step hB7 hb7; have hE7 := below_step hD7 hb7; have HC1 := Lib.hid (HC1.out.below hE7); have HC2 := Lib.hid (HC2.out.below hE7); have HC3 := Lib.hid (HC3.out.below hE7); have HC4 := Lib.hid (HC4.out.below hE7); have HC5 := Lib.hid (HC5.out.below hE7); have HC6 := Lib.hid (HC6.out.below hE7); have HP1 := Lib.hid (box_step HP1.out hE7); have HP2 := Lib.hid (box_step HP2.out hE7); have HP3 := Lib.hid (box_step HP3.out hE7); have HP4 := Lib.hid (box_step hp4 hb7); have HC7 := Lib.hid hc7; have HL7 := Lib.hid hn7; clear hb7 hB7 hD7 hc7 hn7 HQ7 hE7 hp4; have hB8 : Below wz.heap.size wz ((v7).alloc (.cells #[.slice Ab NB cb] 22)) := (Below.al hz7 _); have hD8 : Below v7.heap.size v7 ((v7).alloc (.cells #[.slice Ab NB cb] 22)) := (Below.al (Below.refl _ v7) _); have hx8 : BoxAt ((v7).alloc (.cells #[.slice Ab NB cb] 22)) (v7.heap.size) 22 #[.slice Ab NB cb] := box_new _ _ _ (by simp); have HQ8 := Lib.hid (HJ8.out _ _ hB8 hx8); clear HJ8 hx8)
      | (go_at_call 33; (with_reducible refine HQ6.out.mono ?_); rintro e v6 ⟨C6, c6, N6, rfl, hn6, hc6, hb6⟩; have hz6 := below_step hB6 hb6; have hE6 := below_step hD6 hb6; have HC1 := Lib.hid (HC1.out.below hE6); have HC2 := Lib.hid (HC2.out.below hE6); have HC3 := Lib.hid (HC3.out.below hE6); have HC4 := Lib.hid (HC4.out.below hE6); have HC5 := Lib.hid (HC5.out.below hE6); have HP1 := Lib.hid (box_step HP1.out hE6); have HP2 := Lib.hid (box_step HP2.out hE6); have HP3 := Lib.hid (box_step hp3 hb6); have HC6 := Lib.hid hc6; have HL6 := Lib.hid hn6; clear hb6 hB6 hD6 hc6 hn6 HQ6 hE6 hp3; have hB7 : Below wz.heap.size wz ((((v6).alloc (.cells #[.slice C6 N6 c6, .slice Ab NB cb] 22)).alloc (.cells #[iv 8, iv 0, iv 0, iv 0, iv q0, iv p0, iv 1, iv 0, iv 0, iv 0, iv 0, iv 0] 61)).alloc (.cells #[.slice Ab NB cb] 22)) := (Below.al (Below.al (Below.al hz6 _) _) _); have hD7 : Below v6.heap.size v6 ((((v6).alloc (.cells #[.slice C6 N6 c6, .slice Ab NB cb] 22)).alloc (.cells #[iv 8, iv 0, iv 0, iv 0, iv q0, iv p0, iv 1, iv 0, iv 0, iv 0, iv 0, iv 0] 61)).alloc (.cells #[.slice Ab NB cb] 22)) := (Below.al (Below.al (Below.al (Below.refl _ v6) _) _) _); have hy7 : BoxAt ((((v6).alloc (.cells #[.slice C6 N6 c6, .slice Ab NB cb] 22)).alloc (.cells #[iv 8, iv 0, iv 0, iv 0, iv q0, iv p0, iv 1, iv 0, iv 0, iv 0, iv 0, iv 0] 61)).alloc (.cells #[.slice Ab NB cb] 22)) (v6.heap.size + 1) 61 #[iv 8, iv 0, iv 0, iv 0, iv q0, iv p0, iv 1, iv 0, iv 0, iv 0, iv 0, iv 0] := (box_new _ _ _ (by simp)).alloc _; have hx7 : BoxAt ((((v6).alloc (.cells #[.slice C6 N6 c6, .slice Ab NB cb] 22)).alloc (.cells #[iv 8, iv 0, iv 0, iv 0, iv q0, iv p0, iv 1, iv 0, iv 0, iv 0, iv 0, iv 0] 61)).alloc (.cells #[.slice Ab NB cb] 22)) (v6.heap.size + 1 + 1) 22 #[.slice Ab NB cb] := box_new _ _ _ (by simp); have hp4 : BoxAt ((((v6).alloc (.cells #[.slice C6 N6 c6, .slice Ab NB cb] 22)).alloc (.cells #[iv 8, iv 0, iv 0, iv 0, iv q0, iv p0, iv 1, iv 0, iv 0, iv 0, iv 0, iv 0] 61)).alloc (.cells #[.slice Ab NB cb] 22)) v6.heap.size 22 #[.slice C6 N6 c6, .slice Ab NB cb] := (((box_new _ _ _ rfl).alloc _).alloc _); have HQ7 := Lib.hid (HJ7.out _ _ _ hB7 hy7 hx7); clear HJ7 hx7 hy7)
      | (go_at_call 33; (with_reducible refine HQ5.out.mono ?_); rintro e v5 ⟨C5, c5, N5, rfl, hn5, hc5, hb5⟩; have hz5 := below_step hB5 hb5; have hE5 := below_step hD5 hb5; have HC1 := Lib.hid (HC1.out.below hE5); have HC2 := Lib.hid (HC2.out.below hE5); have HC3 := Lib.hid (HC3.out.below hE5); have HC4 := Lib.hid (HC4.out.below hE5); have HP1 := Lib.hid (box_step HP1.out hE5); have HP2 := Lib.hid (box_step hp2 hb5); have HC5 := Lib.hid hc5; have HL5 := Lib.hid hn5; clear hb5 hB5 hD5 hc5 hn5 HQ5 hE5 hp2; have hB6 : Below wz.heap.size wz ((((v5).alloc (.cells #[.slice C5 N5 c5, .slice Aa NA ca] 22)).alloc (.cells #[iv 7, iv 0, iv 0, iv 0, iv 0, iv 0] 61)).alloc (.cells #[.slice Ab NB cb] 22)) := (Below.al (Below.al (Below.al hz5 _) _) _); have hD6 : Below v5.heap.size v5 ((((v5).alloc (.cells #[.slice C5 N5 c5, .slice Aa NA ca] 22)).alloc (.cells #[iv 7, iv 0, iv 0, iv 0, iv 0, iv 0] 61)).alloc (.cells #[.slice Ab NB cb] 22)) := (Below.al (Below.al (Below.al (Below.refl _ v5) _) _) _); have hy6 : BoxAt ((((v5).alloc (.cells #[.slice C5 N5 c5, .slice Aa NA ca] 22)).alloc (.cells #[iv 7, iv 0, iv 0, iv 0, iv 0, iv 0] 61)).alloc (.cells #[.slice Ab NB cb] 22)) (v5.heap.size + 1) 61 #[iv 7, iv 0, iv 0, iv 0, iv 0, iv 0] := (box_new _ _ _ (by simp)).alloc _; have hx6 : BoxAt ((((v5).alloc (.cells #[.slice C5 N5 c5, .slice Aa NA ca] 22)).alloc (.cells #[iv 7, iv 0, iv 0, iv 0, iv 0, iv 0] 61)).alloc (.cells #[.slice Ab NB cb] 22)) (v5.heap.size + 1 + 1) 22 #[.slice Ab NB cb] := box_new _ _ _ (by simp); have hp3 : BoxAt ((((v5).alloc (.cells #[.slice C5 N5 c5, .slice Aa NA ca] 22)).alloc (.cells #[iv 7, iv 0, iv 0, iv 0, iv 0, iv 0] 61)).alloc (.cells #[.slice Ab NB cb] 22)) v5.heap.size 22 #[.slice C5 N5 c5, .slice Aa NA ca] := (((box_new _ _ _ rfl).alloc _).alloc _); have HQ6 := Lib.hid (HJ6.out _ _ _ hB6 hy6 hx6); clear HJ6 hx6 hy6)
      | (go_at_call 33; (with_reducible refine HQ4.out.mono ?_); rintro e v4 ⟨C4, c4, N4, rfl, hn4, hc4, hb4⟩; have hz4 := below_step hB4 hb4; have hE4 := below_step hD4 hb4; have HC1 := Lib.hid (HC1.out.below hE4); have HC2 := Lib.hid (HC2.out.below hE4); have HC3 := Lib.hid (HC3.out.below hE4); have HP1 := Lib.hid (box_step HP1.out hE4); have HC4 := Lib.hid hc4; have HL4 := Lib.hid hn4; clear hb4 hB4 hD4 hc4 hn4 HQ4 hE4; have hB5 : Below wz.heap.size wz ((((v4).alloc (.cells #[.slice C3 N3 c3, .slice C4 N4 c4] 22)).alloc (.cells #[iv 6, iv 0, iv 0, iv 0, iv 0, iv 0] 61)).alloc (.cells #[.slice Aa NA ca] 22)) := (Below.al (Below.al (Below.al hz4 _) _) _); have hD5 : Below v4.heap.size v4 ((((v4).alloc (.cells #[.slice C3 N3 c3, .slice C4 N4 c4] 22)).alloc (.cells #[iv 6, iv 0, iv 0, iv 0, iv 0, iv 0] 61)).alloc (.cells #[.slice Aa NA ca] 22)) := (Below.al (Below.al (Below.al (Below.refl _ v4) _) _) _); have hy5 : BoxAt ((((v4).alloc (.cells #[.slice C3 N3 c3, .slice C4 N4 c4] 22)).alloc (.cells #[iv 6, iv 0, iv 0, iv 0, iv 0, iv 0] 61)).alloc (.cells #[.slice Aa NA ca] 22)) (v4.heap.size + 1) 61 #[iv 6, iv 0, iv 0, iv 0, iv 0, iv 0] := (box_new _ _ _ (by simp)).alloc _; have hx5 : BoxAt ((((v4).alloc (.cells #[.slice C3 N3 c3, .slice C4 N4 c4] 22)).alloc (.cells #[iv 6, iv 0, iv 0, iv 0, iv 0, iv 0] 61)).alloc (.cells #[.slice Aa NA ca] 22)) (v4.heap.size + 1 + 1) 22 #[.slice Aa NA ca] := box_new _ _ _ (by simp); have hp2 : BoxAt ((((v4).alloc (.cells #[.slice C3 N3 c3, .slice C4 N4 c4] 22)).alloc (.cells #[iv 6, iv 0, iv 0, iv 0, iv 0, iv 0] 61)).alloc (.cells #[.slice Aa NA ca] 22)) v4.heap.size 22 #[.slice C3 N3 c3, .slice C4 N4 c4] := (((box_new _ _ _ rfl).alloc _).alloc _); have HQ5 := Lib.hid (HJ5.out _ _ _ hB5 hy5 hx5); clear HJ5 hx5 hy5)
      | (go_at_call 33; (with_reducible refine HQ3.out.mono ?_); rintro e v3 ⟨C3, c3, N3, rfl, hn3, hc3, hb3⟩; have hz3 := below_step hB3 hb3; have hE3 := below_step hD3 hb3; have HC1 := Lib.hid (HC1.out.below hE3); have HC2 := Lib.hid (HC2.out.below hE3); have HP1 := Lib.hid (box_step hp1 hb3); have HC3 := Lib.hid hc3; have HL3 := Lib.hid hn3; clear hb3 hB3 hD3 hc3 hn3 HQ3 hE3 hp1; have hB4 : Below wz.heap.size wz (((v3).alloc (.cells #[iv 5, iv 0, iv 0, iv 0, iv 0, iv 0] 61)).alloc (.cells #[.slice (some ⟨v3.heap.size, 0, none⟩) 1 1, .slice (some ⟨q, 0, none⟩) 1 1, .slice Aa NA ca, .slice (some ⟨q, 0, none⟩) 1 1, .slice Ab NB cb] 22)) := (Below.al (Below.al hz3 _) _); have hD4 : Below v3.heap.size v3 (((v3).alloc (.cells #[iv 5, iv 0, iv 0, iv 0, iv 0, iv 0] 61)).alloc (.cells #[.slice (some ⟨v3.heap.size, 0, none⟩) 1 1, .slice (some ⟨q, 0, none⟩) 1 1, .slice Aa NA ca, .slice (some ⟨q, 0, none⟩) 1 1, .slice Ab NB cb] 22)) := (Below.al (Below.al (Below.refl _ v3) _) _); have hy4 : BoxAt (((v3).alloc (.cells #[iv 5, iv 0, iv 0, iv 0, iv 0, iv 0] 61)).alloc (.cells #[.slice (some ⟨v3.heap.size, 0, none⟩) 1 1, .slice (some ⟨q, 0, none⟩) 1 1, .slice Aa NA ca, .slice (some ⟨q, 0, none⟩) 1 1, .slice Ab NB cb] 22)) (v3.heap.size) 61 #[iv 5, iv 0, iv 0, iv 0, iv 0, iv 0] := (box_new _ _ _ (by simp)).alloc _; have hx4 : BoxAt (((v3).alloc (.cells #[iv 5, iv 0, iv 0, iv 0, iv 0, iv 0] 61)).alloc (.cells #[.slice (some ⟨v3.heap.size, 0, none⟩) 1 1, .slice (some ⟨q, 0, none⟩) 1 1, .slice Aa NA ca, .slice (some ⟨q, 0, none⟩) 1 1, .slice Ab NB cb] 22)) (v3.heap.size + 1) 22 #[.slice (some ⟨v3.heap.size, 0, none⟩) 1 1, .slice (some ⟨q, 0, none⟩) 1 1, .slice Aa NA ca, .slice (some ⟨q, 0, none⟩) 1 1, .slice Ab NB cb] := box_new _ _ _ (by simp); have HQ4 := Lib.hid (HJ4.out _ _ _ hB4 hy4 hx4); clear HJ4 hx4 hy4)
      | (go_at_call 33; (with_reducible refine HQ2.out.mono ?_); rintro e v2 ⟨C2, c2, N2, rfl, hn2, hc2, hb2⟩; have hz2 := below_step hB2 hb2; have hE2 := below_step hD2 hb2; have HC1 := Lib.hid (HC1.out.below hE2); have HC2 := Lib.hid hc2; have HL2 := Lib.hid hn2; clear hb2 hB2 hD2 hc2 hn2 HQ2 hE2; have hB3 : Below wz.heap.size wz ((((v2).alloc (.cells #[.slice C1 N1 c1, .slice C2 N2 c2] 22)).alloc (.cells #[iv 4, iv 0, iv 0, iv 0, iv 0, iv 0] 61)).alloc (.cells #[.slice Aa NA ca, .slice Ab NB cb] 22)) := (Below.al (Below.al (Below.al hz2 _) _) _); have hD3 : Below v2.heap.size v2 ((((v2).alloc (.cells #[.slice C1 N1 c1, .slice C2 N2 c2] 22)).alloc (.cells #[iv 4, iv 0, iv 0, iv 0, iv 0, iv 0] 61)).alloc (.cells #[.slice Aa NA ca, .slice Ab NB cb] 22)) := (Below.al (Below.al (Below.al (Below.refl _ v2) _) _) _); have hy3 : BoxAt ((((v2).alloc (.cells #[.slice C1 N1 c1, .slice C2 N2 c2] 22)).alloc (.cells #[iv 4, iv 0, iv 0, iv 0, iv 0, iv 0] 61)).alloc (.cells #[.slice Aa NA ca, .slice Ab NB cb] 22)) (v2.heap.size + 1) 61 #[iv 4, iv 0, iv 0, iv 0, iv 0, iv 0] := (box_new _ _ _ (by simp)).alloc _; have hx3 : BoxAt ((((v2).alloc (.cells #[.slice C1 N1 c1, .slice C2 N2 c2] 22)).alloc (.cells #[iv 4, iv 0, iv 0, iv 0, iv 0, iv 0] 61)).alloc (.cells #[.slice Aa NA ca, .slice Ab NB cb] 22)) (v2.heap.size + 1 + 1) 22 #[.slice Aa NA ca, .slice Ab NB cb] := box_new _ _ _ (by simp); have hp1 : BoxAt ((((v2).alloc (.cells #[.slice C1 N1 c1, .slice C2 N2 c2] 22)).alloc (.cells #[iv 4, iv 0, iv 0, iv 0, iv 0, iv 0] 61)).alloc (.cells #[.slice Aa NA ca, .slice Ab NB cb] 22)) v2.heap.size 22 #[.slice C1 N1 c1, .slice C2 N2 c2] := (((box_new _ _ _ rfl).alloc _).alloc _); have HQ3 := Lib.hid (HJ3.out _ _ _ hB3 hy3 hx3); clear HJ3 hx3 hy3)
      | (go_at_call 33; (with_reducible refine HQ1.out.mono ?_); rintro e v1 ⟨C1, c1, N1, rfl, hn1, hc1, hb1⟩; have hz1 := below_step hB1 hb1; have hE1 := below_step hD1 hb1; have HC1 := Lib.hid hc1; have HL1 := Lib.hid hn1; clear hb1 hB1 hD1 hc1 hn1 HQ1 hE1; have hB2 : Below wz.heap.size wz ((v1).alloc (.cells #[.slice (some ⟨q + 1 + 1, 0, none⟩) 1 1, .slice (some ⟨q, 0, none⟩) 1 1, .slice Aa NA ca] 22)) := (Below.al hz1 _); have hD2 : Below v1.heap.size v1 ((v1).alloc (.cells #[.slice (some ⟨q + 1 + 1, 0, none⟩) 1 1, .slice (some ⟨q, 0, none⟩) 1 1, .slice Aa NA ca] 22)) := (Below.al (Below.refl _ v1) _); have hx2 : BoxAt ((v1).alloc (.cells #[.slice (some ⟨q + 1 + 1, 0, none⟩) 1 1, .slice (some ⟨q, 0, none⟩) 1 1, .slice Aa NA ca] 22)) (v1.heap.size) 22 #[.slice (some ⟨q + 1 + 1, 0, none⟩) 1 1, .slice (some ⟨q, 0, none⟩) 1 1, .slice Aa NA ca] := box_new _ _ _ (by simp); have HQ2 := Lib.hid (HJ2.out _ _ hB2 hx2); clear HJ2 hx2))
    have hE9 : Below v8.heap.size v8 ((v8.alloc (.cells #[.slice C7 N7 c7, .slice C8 N8 c8] 22)).alloc (.cells #[.slice (some ⟨v2.heap.size, 0, none⟩) 2 2, .slice (some ⟨v4.heap.size, 0, none⟩) 2 2, .slice (some ⟨v5.heap.size, 0, none⟩) 2 2, .slice (some ⟨v6.heap.size, 0, none⟩) 2 2, .slice (some ⟨v8.heap.size, 0, none⟩) 2 2] 63)) := Below.al (Below.al (Below.refl _ v8) _) _
    have hZ9 : Below wz.heap.size wz ((v8.alloc (.cells #[.slice C7 N7 c7, .slice C8 N8 c8] 22)).alloc (.cells #[.slice (some ⟨v2.heap.size, 0, none⟩) 2 2, .slice (some ⟨v4.heap.size, 0, none⟩) 2 2, .slice (some ⟨v5.heap.size, 0, none⟩) 2 2, .slice (some ⟨v6.heap.size, 0, none⟩) 2 2, .slice (some ⟨v8.heap.size, 0, none⟩) 2 2] 63)) := Below.al (Below.al hz8 _) _
    replace HC1 := Lib.hid (HC1.out.below hE9)
    replace HC2 := Lib.hid (HC2.out.below hE9)
    replace HC3 := Lib.hid (HC3.out.below hE9)
    replace HC4 := Lib.hid (HC4.out.below hE9)
    replace HC5 := Lib.hid (HC5.out.below hE9)
    replace HC6 := Lib.hid (HC6.out.below hE9)
    replace HC7 := Lib.hid (HC7.out.below hE9)
    replace HC8 := Lib.hid (HC8.out.below hE9)
    replace HP1 := Lib.hid (box_step HP1.out hE9)
    replace HP2 := Lib.hid (box_step HP2.out hE9)
    replace HP3 := Lib.hid (box_step HP3.out hE9)
    replace HP4 := Lib.hid (box_step HP4.out hE9)
    have HP5 : Hid (BoxAt ((v8.alloc (.cells #[.slice C7 N7 c7, .slice C8 N8 c8] 22)).alloc (.cells #[.slice (some ⟨v2.heap.size, 0, none⟩) 2 2, .slice (some ⟨v4.heap.size, 0, none⟩) 2 2, .slice (some ⟨v5.heap.size, 0, none⟩) 2 2, .slice (some ⟨v6.heap.size, 0, none⟩) 2 2, .slice (some ⟨v8.heap.size, 0, none⟩) 2 2] 63)) v8.heap.size 22 #[.slice C7 N7 c7, .slice C8 N8 c8]) := Lib.hid ((box_new _ _ _ rfl).alloc _)
    have HTB : Hid (BoxAt ((v8.alloc (.cells #[.slice C7 N7 c7, .slice C8 N8 c8] 22)).alloc (.cells #[.slice (some ⟨v2.heap.size, 0, none⟩) 2 2, .slice (some ⟨v4.heap.size, 0, none⟩) 2 2, .slice (some ⟨v5.heap.size, 0, none⟩) 2 2, .slice (some ⟨v6.heap.size, 0, none⟩) 2 2, .slice (some ⟨v8.heap.size, 0, none⟩) 2 2] 63)) (v8.heap.size + 1) 63 #[.slice (some ⟨v2.heap.size, 0, none⟩) 2 2, .slice (some ⟨v4.heap.size, 0, none⟩) 2 2, .slice (some ⟨v5.heap.size, 0, none⟩) 2 2, .slice (some ⟨v6.heap.size, 0, none⟩) 2 2, .slice (some ⟨v8.heap.size, 0, none⟩) 2 2]) := Lib.hid (box_new _ _ _ (by simp))
    have HBE := Lib.hid (below_step HBz.out hZ9)
    replace HRW := Lib.hid (HRW.out.below hZ9)
    replace HNa := Lib.hid (HNa.out.below hZ9)
    replace HNb := Lib.hid (HNb.out.below hZ9)
    clear hE9 hZ9 hz1 hz2 hz3 hz4 hz5 hz6 hz7 hz8 HBz HNn HNl HNs
    generalize (v8.alloc (.cells #[.slice C7 N7 c7, .slice C8 N8 c8] 22)).alloc (.cells #[.slice (some ⟨v2.heap.size, 0, none⟩) 2 2, .slice (some ⟨v4.heap.size, 0, none⟩) 2 2, .slice (some ⟨v5.heap.size, 0, none⟩) 2 2, .slice (some ⟨v6.heap.size, 0, none⟩) 2 2, .slice (some ⟨v8.heap.size, 0, none⟩) 2 2] 63) = we at *
    generalize v8.heap.size = q8 at *
    obtain ⟨x0, x1, x2⟩ := HXY.out
    have h4 : p0 ≤ 4 := x2
    have hz0 : (0 : Int) ≤ 4 := by decide
    have hAll : ndE 2 (nAll q0 p0) = 0 := by unfold ndE nAll; simp; omega
    have hSome : ndE 2 (nSome q0 p0) = 0 := by unfold ndE nSome; simp; omega
    have hUnt : ndE 2 (nUnt q0 p0) = 0 := by unfold ndE nUnt; simp; omega
    have HE1 : Hid (∀ (W : World) (i : Nat), Below we.heap.size we W → i ≤ 1000 → Calls Tryd.prog 29 #[.slice C1 N1 c1, iv 2, .slice C T c, iv i] W fun e w' => e = .returned (.tuple #[iv (evT t (.un (nAll q0 p0) xa) i), iv 0]) ∧ Below W.heap.size W w') := Lib.hid (fun W i hb hi => by
      have h := eval_two C1 c1 C c (x := (.un (nAll q0 p0) xa)) ((HVa.out.un rfl hAll h4).mono (by decide) (by decide)) HTr.out i hi W (HC1.out.below hb) (HRW.out.below hb)
      rw [← HL1.out, ← HTT.out] at h
      exact h)
    have HE2 : Hid (∀ (W : World) (i : Nat), Below we.heap.size we W → i ≤ 1000 → Calls Tryd.prog 29 #[.slice C2 N2 c2, iv 2, .slice C T c, iv i] W fun e w' => e = .returned (.tuple #[iv (evT t (.un nNot (.un (nSome q0 p0) (.un nNot xa))) i), iv 0]) ∧ Below W.heap.size W w') := Lib.hid (fun W i hb hi => by
      have h := eval_two C2 c2 C c (x := (.un nNot (.un (nSome q0 p0) (.un nNot xa)))) ((((HVa.out.un rfl rfl hz0).un rfl hSome h4).un rfl rfl hz0).mono (by decide) (by decide)) HTr.out i hi W (HC2.out.below hb) (HRW.out.below hb)
      rw [← HL2.out, ← HTT.out] at h
      exact h)
    have HE3 : Hid (∀ (W : World) (i : Nat), Below we.heap.size we W → i ≤ 1000 → Calls Tryd.prog 29 #[.slice C3 N3 c3, iv 2, .slice C T c, iv i] W fun e w' => e = .returned (.tuple #[iv (evT t (.bi nAnd xa xb) i), iv 0]) ∧ Below W.heap.size W w') := Lib.hid (fun W i hb hi => by
      have h := eval_two C3 c3 C c (x := (.bi nAnd xa xb)) ((Vx.bi rfl rfl hz0 HVa.out HVb.out).mono (by decide) (by decide)) HTr.out i hi W (HC3.out.below hb) (HRW.out.below hb)
      rw [← HL3.out, ← HTT.out] at h
      exact h)
    have HE4 : Hid (∀ (W : World) (i : Nat), Below we.heap.size we W → i ≤ 1000 → Calls Tryd.prog 29 #[.slice C4 N4 c4, iv 2, .slice C T c, iv i] W fun e w' => e = .returned (.tuple #[iv (evT t (.un nNot (.bi nOr (.un nNot xa) (.un nNot xb))) i), iv 0]) ∧ Below W.heap.size W w') := Lib.hid (fun W i hb hi => by
      have h := eval_two C4 c4 C c (x := (.un nNot (.bi nOr (.un nNot xa) (.un nNot xb)))) (((Vx.bi rfl rfl hz0 (HVa.out.un rfl rfl hz0) (HVb.out.un rfl rfl hz0)).un rfl rfl hz0).mono (by decide) (by decide)) HTr.out i hi W (HC4.out.below hb) (HRW.out.below hb)
      rw [← HL4.out, ← HTT.out] at h
      exact h)
    have HE5 : Hid (∀ (W : World) (i : Nat), Below we.heap.size we W → i ≤ 1000 → Calls Tryd.prog 29 #[.slice C5 N5 c5, iv 2, .slice C T c, iv i] W fun e w' => e = .returned (.tuple #[iv (evT t (.un (nAll 0 0) xa) i), iv 0]) ∧ Below W.heap.size W w') := Lib.hid (fun W i hb hi => by
      have h := eval_two C5 c5 C c (x := (.un (nAll 0 0) xa)) ((HVa.out.un rfl rfl hz0).mono (by decide) (by decide)) HTr.out i hi W (HC5.out.below hb) (HRW.out.below hb)
      rw [← HL5.out, ← HTT.out] at h
      exact h)
    have HE6 : Hid (∀ (W : World) (i : Nat), Below we.heap.size we W → i ≤ 1000 → Calls Tryd.prog 29 #[.slice C6 N6 c6, iv 2, .slice C T c, iv i] W fun e w' => e = .returned (.tuple #[iv (evT t (.un (nSome 0 0) xb) i), iv 0]) ∧ Below W.heap.size W w') := Lib.hid (fun W i hb hi => by
      have h := eval_two C6 c6 C c (x := (.un (nSome 0 0) xb)) ((HVb.out.un rfl rfl hz0).mono (by decide) (by decide)) HTr.out i hi W (HC6.out.below hb) (HRW.out.below hb)
      rw [← HL6.out, ← HTT.out] at h
      exact h)
    have HE7 : Hid (∀ (W : World) (i : Nat), Below we.heap.size we W → i ≤ 1000 → Calls Tryd.prog 29 #[.slice C7 N7 c7, iv 2, .slice C T c, iv i] W fun e w' => e = .returned (.tuple #[iv (evT t (.bi (nUnt q0 p0) (.lf nTrue) xb) i), iv 0]) ∧ Below W.heap.size W w') := Lib.hid (fun W i hb hi => by
      have h := eval_two C7 c7 C c (x := (.bi (nUnt q0 p0) (.lf nTrue) xb)) ((Vx.bi rfl hUnt h4 (Vx.true.mono (by decide) (Nat.le_refl _)) HVb.out).mono (by decide) (by decide)) HTr.out i hi W (HC7.out.below hb) (HRW.out.below hb)
      rw [← HL7.out, ← HTT.out] at h
      exact h)
    have HE8 : Hid (∀ (W : World) (i : Nat), Below we.heap.size we W → i ≤ 1000 → Calls Tryd.prog 29 #[.slice C8 N8 c8, iv 2, .slice C T c, iv i] W fun e w' => e = .returned (.tuple #[iv (evT t (.un (nSome q0 p0) xb) i), iv 0]) ∧ Below W.heap.size W w') := Lib.hid (fun W i hb hi => by
      have h := eval_two C8 c8 C c (x := (.un (nSome q0 p0) xb)) ((HVb.out.un rfl hSome h4).mono (by decide) (by decide)) HTr.out i hi W (HC8.out.below hb) (HRW.out.below hb)
      rw [← HL8.out, ← HTT.out] at h
      exact h)
    have HEa : Hid (∀ (W : World) (i : Nat), Below we.heap.size we W → i ≤ 1000 → Calls Tryd.prog 29 #[.slice Aa NA ca, iv 2, .slice C T c, iv i] W fun e w' => e = .returned (.tuple #[iv (evT t xa i), iv 0]) ∧ Below W.heap.size W w') := Lib.hid (fun W i hb hi => by
      have h := eval_two Aa ca C c (x := xa) (HVa.out.mono (by decide) (by decide)) HTr.out i hi W (HNa.out.below hb) (HRW.out.below hb)
      rw [← HNA.out, ← HTT.out] at h
      exact h)
    have HEb : Hid (∀ (W : World) (i : Nat), Below we.heap.size we W → i ≤ 1000 → Calls Tryd.prog 29 #[.slice Ab NB cb, iv 2, .slice C T c, iv i] W fun e w' => e = .returned (.tuple #[iv (evT t xb i), iv 0]) ∧ Below W.heap.size W w') := Lib.hid (fun W i hb hi => by
      have h := eval_two Ab cb C c (x := xb) (HVb.out.mono (by decide) (by decide)) HTr.out i hi W (HNb.out.below hb) (HRW.out.below hb)
      rw [← HNB.out, ← HTT.out] at h
      exact h)
    have HPr : Hid (∀ k : Nat, k < 5 → ∃ (g : Nat) (D : Option Addr) (d N : Nat) (D' : Option Addr) (d' N' : Nat) (F : Nat → Int), we.cell? ⟨q8 + 1, k, none⟩ = some (.slice (some ⟨g, 0, none⟩) 2 2) ∧ BoxAt we g 22 #[.slice D N d, .slice D' N' d'] ∧
        (∀ (W : World) (i : Nat), Below we.heap.size we W → i ≤ 1000 → Calls Tryd.prog 29 #[.slice D N d, iv 2, .slice C T c, iv i] W fun e w' => e = .returned (.tuple #[iv (F i), iv 0]) ∧ Below W.heap.size W w') ∧
        (∀ (W : World) (i : Nat), Below we.heap.size we W → i ≤ 1000 → Calls Tryd.prog 29 #[.slice D' N' d', iv 2, .slice C T c, iv i] W fun e w' => e = .returned (.tuple #[iv (F i), iv 0]) ∧ Below W.heap.size W w')) := Lib.hid (fun k hk => by
      match k, hk with
      | 0, _ => exact ⟨_, _, _, _, _, _, _, _, HTB.out.cell 0, HP1.out, HE1.out, fun W i hb hi => by rw [dual1 t xa q0 p0 i]; exact HE2.out W i hb hi⟩
      | 1, _ => exact ⟨_, _, _, _, _, _, _, _, HTB.out.cell 1, HP2.out, HE3.out, fun W i hb hi => by rw [dual2 t xa xb i]; exact HE4.out W i hb hi⟩
      | 2, _ => exact ⟨_, _, _, _, _, _, _, _, HTB.out.cell 2, HP3.out, HE5.out, fun W i hb hi => by rw [dual3 t xa i]; exact HEa.out W i hb hi⟩
      | 3, _ => exact ⟨_, _, _, _, _, _, _, _, HTB.out.cell 3, HP4.out, HE6.out, fun W i hb hi => by rw [dual4 t xb i]; exact HEb.out W i hb hi⟩
      | 4, _ => exact ⟨_, _, _, _, _, _, _, _, HTB.out.cell 4, HP5.out, HE7.out, fun W i hb hi => by rw [dual5 t xb q0 p0 x1 i]; exact HE8.out W i hb hi⟩
      | k + 5, h => exact absurd h (by omega))
    clear HE1 HE2 HE3 HE4 HE5 HE6 HE7 HE8 HEa HEb HC1 HC2 HC3 HC4 HC5 HC6 HC7 HC8 HP1 HP2 HP3 HP4 HP5 HL1 HL2 HL3 HL4 HL5 HL6 HL7 HL8 HTB HTr HRW HNa HNb HVa HVb HNA HNB HTT HXY x0 x1 x2 h4 hz0 hAll hSome hUnt
    go_wp2
    go_loopw [20] (fun kv wr => ∃ k : Nat, kv = iv k ∧ k ≤ 5 ∧ Hid (Below we.heap.size we wr)) (fun kv _ => 5 - (intOf kv).toNat)
    case atStart => exact ⟨0, rfl, by decide, Lib.hid (Below.refl _ _)⟩
    case round =>
      obtain ⟨k, rfl, hk5, HBk⟩ := hrel
      have i0 : (0 : Int) ≤ (k : Int) := Int.natCast_nonneg _
      by_cases hk : k < 5
      · have i1 : (k : Int) < 5 := by omega
        obtain ⟨g, D, d, N, D', d', N', F, h1, h2, h3, h4⟩ := HPr.out k hk
        have H1 := Lib.hid h1
        have H2 := Lib.hid h2
        have H3 := Lib.hid h3
        have H4 := Lib.hid h4
        clear h1 h2 h3 h4
        go_wp2
        go_loopw [21] (fun nv wk => ∃ i : Nat, nv = iv i ∧ i ≤ T + 1 ∧ Hid (Below we.heap.size we wk)) (fun nv _ => T + 1 - (intOf nv).toNat)
        case atStart => exact ⟨0, rfl, Nat.zero_le _, HBk⟩
        case round =>
          obtain ⟨i, rfl, hiT, HBi⟩ := hrel
          have j0 : (0 : Int) ≤ (i : Int) := Int.natCast_nonneg _
          by_cases hi : i ≤ T
          · have j1 : (i : Int) ≤ (T : Int) := by omega
            have hq1 := World.block_lt_of_cell? we _ H1.out
            have c0 := (HBi.out.cell (p := ⟨q8 + 1, k, none⟩) hq1).trans H1.out
            have hb0 := box_step H2.out HBi.out
            have c1 : wr.cell? ⟨g, 0, none⟩ = some (.slice D N d) := hb0.cell 0
            have l1 := hb0.lt
            have l0 := World.block_lt_of_cell? wr _ c0
            have HE1 := Lib.hid (H3.out _ i HBi.out (by omega))
            have HE2 := Lib.hid (fun W h => H4.out W i h (by omega))
            clear hb0 hq1
            generalize F i = v at *
            go_upto_region 17 with (first
              | (go_at_call 29; (with_reducible refine (HE2.out _ hB5).mono ?_); rintro e w6 ⟨rfl, hb6⟩; have HB6 := Lib.hid (below_step hB5 hb6))
              | (go_at_call 29; (with_reducible refine HE1.out.mono ?_); rintro e w5 ⟨rfl, hb5⟩; have hB5 := below_step HBi.out hb5; have c0 := (hb5.cell (p := ⟨q8 + 1, k, none⟩) l0).trans c0; have c2 : w5.cell? ⟨g, 1, none⟩ = some (.slice D' N' d') := (box_step H2.out hB5).cell 1; have l2 : g < w5.heap.size := (box_step H2.out hB5).lt; have l3 := World.block_lt_of_cell? w5 _ c0))
            go_wp2
            exact ⟨⟨i + 1, by go_num, by omega, HB6⟩, by simp [intOf]; omega⟩
          · have j1 : ¬ (i : Int) ≤ (T : Int) := by omega
            go_wp2
            exact ⟨⟨k + 1, by go_num, by omega, HBi⟩, by simp [intOf]; omega⟩
      · obtain rfl : k = 5 := by omega
        go_wp2_with (go_at_call 11; (with_reducible refine (HAw.out _ (below_step HBE.out HBk.out)).mono ?_); rintro e w4 ⟨rfl, hb4⟩)
        go_ret
        exact ⟨rfl, below_step (below_step HBE.out HBk.out) hb4⟩
end Go.Proofs.YtnpnfdnaglcnfaaDoor
