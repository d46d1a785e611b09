/- The law PlanValid: its walk. -/
import Derived.Test.YtcoccfijikiamaaCnd
import Derived.Test.YtcoccfijikiamaaAwk
import Derived.Test.YtcoccfijikiamaaRfc
import Derived.Test.YtcoccfijikiamaaQBel
namespace Go.Proofs.Ytcoccfijikiamaa
open Go.RowKit Go.Shelf

/-- A queue of ramps. -/
def qF (c : Car) (a : Int) : List Int → List Int
  | [] => []
  | x :: l => rmp c a x :: qF c (rmp c a x) l
theorem qF_snoc (c : Car) (x : Int) : ∀ (l : List Int) (a : Int), qF c a (l ++ [x]) = qF c a l ++ [rmp c (lst a (qF c a l)) x]
  | [], _ => rfl
  | y :: l, a => by
    show rmp c a y :: qF c (rmp c a y) (l ++ [x]) = _
    rw [qF_snoc c x l]
    rfl
theorem qF_len (c : Car) : ∀ (l : List Int) (a : Int), (qF c a l).length = l.length
  | [], _ => rfl
  | y :: l, a => by
    show (qF c (rmp c a y) l).length + 1 = _
    rw [qF_len c l]
    rfl
theorem qF_all {c : Car} (h : c.ok) : ∀ (l : List Int) (a : Int), (qF c a l).all (inB c) = true
  | [], _ => rfl
  | y :: l, a => by
    show (inB c (rmp c a y) && (qF c (rmp c a y) l).all (inB c)) = true
    rw [qF_all h l, Bool.and_true]
    exact inB_rmp h a y
theorem qF_chn {c : Car} (h : c.ok) : ∀ (l : List Int) (a : Int), inB c a = true → chn c.rate (a :: qF c a l) = true
  | [], _, _ => rfl
  | y :: l, a, ha => by
    obtain ⟨h1, h2⟩ := inB_iff.1 ha
    exact chn_cons (rmp_near h h1 h2 y) (qF_chn h l _ (inB_rmp h a y))
theorem qF_ok {c : Car} (h : c.ok) {la : Int} (hl : inB c la = true) (l : List Int) (h5 : l.length ≤ 5) : QOk c la (qF c la l) := ⟨hl, qF_all h l la, qF_chn h l la hl, by rw [qF_len]; exact h5⟩
theorem inB_i64 {c : Car} (h : c.ok) {x : Int} (hx : inB c x = true) : -90 ≤ x ∧ x ≤ 30 := by
  obtain ⟨h1, h2⟩ := inB_iff.1 hx
  unfold Car.ok at h
  omega
theorem NumL.take {w : World} {A : Option Addr} {l : List Int} (h : NumL w A l) (n : Nat) : NumL w A (l.take n) := fun hn => by
  obtain ⟨b, off, e, hp⟩ := h (by rw [List.length_take] at hn; omega)
  refine ⟨b, off, e, fun i x hi => hp i x ?_⟩
  rw [List.getElem?_take] at hi
  split at hi
  · exact hi
  · cases hi
set_option maxRecDepth 100000 in
set_option maxHeartbeats 8000000 in
theorem valid_walk (p0 p1 p2 p3 : Int) (A : Option Addr) (cap : Nat) (l : List Int) (last v up hold : Int) (w : World) (hA : NumL w A l) (hml : l.length ≤ 9223372036854775807) (hv : I64 v) :
    Calls Try.prog 6 #[.agg #[iv p0, iv p1, iv p2, iv p3], .slice A l.length cap, iv last, iv v, iv up, iv hold] w fun e w' => e = .returned (.bool true) ∧ Below w.heap.size w w' := by
  have HM := Lib.hid (fun W => made_any p0 p1 p2 p3 W)
  have HOK := Lib.hid (mkCar_ok p0 p1 p2 p3)
  generalize mkCar p0 p1 p2 p3 = c at *
  have HA := Lib.hid hA
  have HV := Lib.hid hv
  obtain ⟨N, hN⟩ : ∃ N, N = l.length := ⟨_, rfl⟩
  rw [← hN] at hml ⊢
  have HN := Lib.hid hN
  have hB0 : Below w.heap.size w (w.alloc (.cells #[iv p0, iv p1, iv p2, iv p3] 44)) := (Below.refl _ w).alloc (Nat.le_refl _) _
  have HRa : Hid (∀ (a b : Int) W, Calls Try.prog 26 #[cv c, iv a, iv b] W fun e w' => e = .returned (iv (rmp c a b)) ∧ Below W.heap.size W w') := Lib.hid (fun a b W => by
    have h := rRamp_any c a b W
    rw [show rmpC c a b = rmp c a b from if_pos HOK.out] at h
    exact h)
  clear hA hv hN
  by_cases h5 : 5 < N
  · have e1 : decide ((5 : Int) < (N : Int)) = true := by simp; omega
    have e1' : (5 : Int) < (N : Int) := by omega
    go_enter Try.func6, Try.ntmps6
    go_wp2_with (first
      | (go_at_call 24; (with_reducible refine (HM.out _).mono ?_); rintro e w1 ⟨rfl, hb1⟩; have hb2 := (below_step hB0 hb1).alloc (below_step hB0 hb1).size (.cells #[iv c.len, iv c.acc, iv c.brk, iv c.rate, iv c.del] 23))
      | (go_at_call 7; (with_reducible refine (awake_any _).mono ?_); rintro e w2 ⟨rfl, hb3⟩))
    go_ret
    exact ⟨rfl, below_step hb2 hb3⟩
  · have e1 : decide ((5 : Int) < (N : Int)) = false := by simp; omega
    have e1' : ¬ (5 : Int) < (N : Int) := by omega
    go_enter Try.func6, Try.ntmps6
    go_upto_region 4 with (go_at_call 24; (with_reducible refine (HM.out _).mono ?_); rintro e w1 ⟨rfl, hb1⟩)
    have HB1 := Lib.hid ((below_step hB0 hb1).alloc (below_step hB0 hb1).size (.cells #[iv c.len, iv c.acc, iv c.brk, iv c.rate, iv c.del] 23))
    have HX1 := Lib.hid (BoxAt.new w1 23 #[iv c.len, iv c.acc, iv c.brk, iv c.rate, iv c.del])
    clear hb1 hB0 HM
    generalize w1.alloc (.cells #[iv c.len, iv c.acc, iv c.brk, iv c.rate, iv c.del] 23) = w2 at *
    generalize w1.heap.size = g at *
    have x0 : w2.cell? ⟨g, 0, none⟩ = some (iv c.len) := HX1.out.cell 0
    have x1 : w2.cell? ⟨g, 1, none⟩ = some (iv c.acc) := HX1.out.cell 1
    have x2 : w2.cell? ⟨g, 2, none⟩ = some (iv c.brk) := HX1.out.cell 2
    have x3 : w2.cell? ⟨g, 3, none⟩ = some (iv c.rate) := HX1.out.cell 3
    have x4 : w2.cell? ⟨g, 4, none⟩ = some (iv c.del) := HX1.out.cell 4
    have lx := HX1.out.lt
    have HLa : Hid (inB c (rmp c last last) = true) := Lib.hid (inB_rmp HOK.out last last)
    have HRl := Lib.hid (HRa.out last last)
    generalize rmp c last last = la at *
    go_upto_region 5 with (go_at_call 26; (with_reducible refine (HRl.out _).mono ?_); rintro e w3 ⟨rfl, hb3⟩)
    have HB3 := Lib.hid (HB1.out.trans (hb3.mono HB1.out.size))
    have HX3 := Lib.hid (HX1.out.below hb3 HX1.out.lt)
    have HA3 := Lib.hid (HA.out.below HB3.out)
    clear hb3 x0 x1 x2 x3 x4 lx HB1 HX1 HA HRl
    obtain ⟨i1_, hj0, hy0, hy1, hy2⟩ := info_parts inf2
    have HJ0 := Lib.hid hj0
    have HY0 := Lib.hid hy0
    have HY1 := Lib.hid hy1
    have HY2 := Lib.hid hy2
    clear hj0 hy0 hy1 hy2
    have HLn : Hid (∀ k, k ≤ N → (qF c la (l.take k)).length = k) := Lib.hid (fun k hk => by rw [qF_len, List.length_take, ← HN.out]; omega)
    go_wp2
    go_loopw [14, 15, 16] (fun qv av iv0 wr => ∃ k : Nat, iv0 = iv k ∧ k ≤ N ∧ av = iv (lst la (qF c la (l.take k))) ∧ Hid (wr.ownsRow w3.heap.size 2 1 qv k ((qF c la (l.take k)).map fun x => iv x)) ∧ Hid (Below w3.heap.size w3 wr)) (fun _ _ iv0 _ => N - (intOf iv0).toNat)
    case atStart => exact ⟨0, rfl, Nat.zero_le _, rfl, Lib.hid (World.ownsRow_nil _ _ _ _), Lib.hid (Below.refl _ _)⟩
    case round =>
      obtain ⟨k, rfl, hk, rfl, HO, HBr⟩ := hrel
      have k0 : (0 : Int) ≤ (k : Int) := Int.natCast_nonneg _
      obtain ⟨Ao, co, hov⟩ := own_form HO.out
      subst hov
      by_cases hlt : k < N
      · have k1 : (k : Int) < (N : Int) := by omega
        obtain ⟨x, hx, _⟩ := drop_at (L := l) (k := k) (by rw [← HN.out]; exact hlt)
        have HT : Hid (qF c la (l.take (k + 1)) = qF c la (l.take k) ++ [rmp c (lst la (qF c la (l.take k))) x]) := Lib.hid (by rw [List.take_add_one, hx]; exact qF_snoc c x _ la)
        have HT2 : Hid (lst la (qF c la (l.take (k + 1))) = rmp c (lst la (qF c la (l.take k))) x) := Lib.hid (by rw [HT.out, lst_append])
        obtain ⟨b, off, rfl, c0⟩ := (HA3.out.below HBr.out).at hx
        have HRk := Lib.hid (HRa.out (lst la (qF c la (l.take k))) x)
        generalize rmp c (lst la (qF c la (l.take k))) x = y at *
        generalize lst la (qF c la (l.take k)) = a at *
        have lb := World.block_lt_of_cell? _ _ c0
        have hxr := HX3.out.below HBr.out HX3.out.lt
        have f0 : ∀ n os, (grd wr n os).cell? ⟨g, 0, none⟩ = some (iv c.len) := cell_grd (hxr.cell 0)
        have f1 : ∀ n os, (grd wr n os).cell? ⟨g, 1, none⟩ = some (iv c.acc) := cell_grd (hxr.cell 1)
        have f2 : ∀ n os, (grd wr n os).cell? ⟨g, 2, none⟩ = some (iv c.brk) := cell_grd (hxr.cell 2)
        have f3 : ∀ n os, (grd wr n os).cell? ⟨g, 3, none⟩ = some (iv c.rate) := cell_grd (hxr.cell 3)
        have f4 : ∀ n os, (grd wr n os).cell? ⟨g, 4, none⟩ = some (iv c.del) := cell_grd (hxr.cell 4)
        have f5 : ∀ n os, (grd wr n os).cell? ⟨b, off + k, none⟩ = some (iv x) := cell_grd c0
        clear hx hxr c0 lb
        go_upto_region 10 with fail
        refine wp_region_quiet_grd (by kernel_rfl) (by kernel_rfl) ?_
        repeat (go_big_quiet_step (first
          | (go_at_call 26; with_reducible exact Calls.grd_of (HRk.out _))))
        refine wpQuiet_nil ?_
        intro _ hw'
        obtain ⟨⟨nq, osq⟩, rfl⟩ := hw'
        have HBq := Lib.hid (below_grd wr nq osq)
        generalize grd wr nq osq = w5 at *
        have HB5 := Lib.hid (below_step HBr.out HBq.out)
        have HO5 := Lib.hid ((HO.out.kept (grown_of_below HBq.out) (Classical.em _)).alloc (.cells #[iv y] 2))
        have hs5 : w3.heap.size ≤ w5.heap.size := HB5.out.size
        clear f0 f1 f2 f3 f4 f5 HBq HO HBr HRk
        go_wp2_with (at_builtin; refine wpList_append_lies _ rfl _ _ 24 rfl w3.heap.size 2 i1_ _ 1 8 Try.underlying24 HJ0.out HY0.out HY1.out HY2.out rfl (by decide) (.slice Ao k co) k ((qF c la (l.take k)).map fun x => iv x) rfl HO5.out ⟨w5.heap.size, 0, none⟩ 1 1 [iv y] rfl rfl (World.news_of_block (cs := #[iv y]) (t := 2) (fr := (0, 0)) (World.alloc_heap_new w5 (.cells #[iv y] 2))) (by simp [Value.oneCell']) (by decide) (by unfold maxLen; omega) (by omega) (by simp; omega) _ rfl ?_; intro gg cap1 w8 hown8 hgrow hat hlt8)
        have HB8 : Hid (Below w3.heap.size w3 w8) := Lib.hid ((HB5.out.alloc hs5 _).grown hgrow (by simp; omega) (fun j e => (HO5.out.lt j e).1))
        have HO8 : Hid (w8.ownsRow w3.heap.size 2 1 (.slice (some ⟨gg, 0, none⟩) (k + 1) cap1) (k + 1) ((qF c la (l.take (k + 1))).map fun x => iv x)) := Lib.hid (by rw [HT.out, List.map_append]; exact hown8)
        exact ⟨⟨k + 1, by go_num, by omega, by rw [HT2.out], HO8, HB8⟩, by simp [intOf]; omega⟩
      · obtain rfl : k = N := by omega
        have k1 : ¬ (k : Int) < (k : Int) := by omega
        have HQe : Hid (qF c la (l.take k) = qF c la l) := Lib.hid (by rw [HN.out, List.take_length])
        rw [HQe.out] at HO ⊢
        have HQo := Lib.hid (qF_ok HOK.out HLa.out l (by rw [← HN.out]; omega))
        have hql : (qF c la l).length = k := by rw [qF_len, ← HN.out]
        generalize qF c la l = q at *
        have HQl := Lib.hid hql
        clear hql HLn HQe
        have HQn := Lib.hid (num_row HO.out)
        have HQc := Lib.hid (own_cap HO.out)
        have HBk := Lib.hid (HB3.out.trans (HBr.out.mono HB3.out.size))
        have HXk := Lib.hid (HX3.out.below HBr.out HX3.out.lt)
        have HQi : Hid (∀ x ∈ q, I64 x) := Lib.hid (fun x hx => by
          have := inB_i64 HOK.out (List.all_eq_true.1 HQo.out.2.1 x hx)
          exact ⟨by omega, by omega⟩)
        have HCn : Hid (∀ W, NumL W Ao q → Calls Try.prog 27 #[cv c, .slice Ao k co, iv la, iv v] W fun e w' => ∃ (C : Option Addr) (cap : Nat) (ps : List (List Int)), e = .returned (.slice C 8 cap) ∧ ps.length = 8 ∧ (∀ p ∈ ps, Good c q la v p) ∧ OwnP w' W.heap.size (.slice C 8 cap) ps ∧ Below W.heap.size W w') := Lib.hid (fun W h => by
          have h1 := cands_any c HOK.out Ao co q la v W h (by rw [HQl.out]; exact HQc.out) (by rw [HQl.out]; omega) HQi.out HV.out
          rw [HQl.out] at h1
          exact h1)
        have HPr : Hid (∀ W, NumL W Ao q → Calls Try.prog 28 #[cv c, .slice Ao k co, iv la, iv v, iv up, iv hold] W fun e w' => ∃ p A N cap, Good c q la v p ∧ N = p.length ∧ e = .returned (pv A N cap) ∧ RowB w' (.slice A N cap) p ∧ Below W.heap.size W w') := Lib.hid (fun W h => by
          have h1 := profile_good c HOK.out Ao co q la v up hold W h (by rw [HQl.out]; exact HQc.out) (by rw [HQl.out]; omega) HQi.out HV.out
          rw [HQl.out] at h1
          exact h1)
        clear HO HB3 HX3 HA3 HBr HRa
        rename World => wo
        go_upto_region 12 with fail
        go_cut [17] from 48 to 61 (fun v w' => ∃ (C : Option Addr) (cap : Nat) (ps : List (List Int)), v = .slice C 9 cap ∧ Hid (ps.length = 9) ∧ Hid (∀ p ∈ ps, chkP c p = 0 ∧ q.length ≤ p.length ∧ p.take q.length = q ∧ ∃ x, p[0]? = some x ∧ la - c.rate ≤ x ∧ x ≤ la + c.rate) ∧ Hid (OwnP w' wo.heap.size (.slice C 9 cap) ps) ∧ Hid (Below wo.heap.size wo w'))
        case first =>
          have x0 : wo.cell? ⟨g, 0, none⟩ = some (iv c.len) := HXk.out.cell 0
          have x1 : wo.cell? ⟨g, 1, none⟩ = some (iv c.acc) := HXk.out.cell 1
          have x2 : wo.cell? ⟨g, 2, none⟩ = some (iv c.brk) := HXk.out.cell 2
          have x3 : wo.cell? ⟨g, 3, none⟩ = some (iv c.rate) := HXk.out.cell 3
          have x4 : wo.cell? ⟨g, 4, none⟩ = some (iv c.del) := HXk.out.cell 4
          have lx := HXk.out.lt
          obtain ⟨i0_, hi0, hz0, hz1, hz2⟩ := info_parts inf26
          have HI0 := Lib.hid hi0
          have HZ0 := Lib.hid hz0
          have HZ1 := Lib.hid hz1
          have HZ2 := Lib.hid hz2
          clear hi0 hz0 hz1 hz2
          have HQd : Hid (NumL wo.drew Ao q) := HQn
          have HXd : Hid (BoxAt wo.drew g 23 #[iv c.len, iv c.acc, iv c.brk, iv c.rate, iv c.del]) := HXk
          go_region_law (first
            | (refine step_append_lies _ (by rfl) _ _ 48 (by rfl) wo.heap.size 26 i0_ _ 1 24 Try.underlying48 HI0.out HZ0.out HZ1.out HZ2.out rfl (by decide) (.slice C8 8 c8) 8 us (by rfl) HRo.out ⟨w7.heap.size, 0, none⟩ 1 1 [.slice A7 N7 c7] (by rfl) (by rfl) (World.news_of_block (cs := #[.slice A7 N7 c7]) (t := 26) (fr := (0, 0)) (World.alloc_heap_new w7 (.cells #[.slice A7 N7 c7] 26))) (by simp [Value.oneCell']) (by decide) (by unfold maxLen; omega) (by omega) hs7 _ rfl ?_; intro gg cap1 w8 hown8 hgrow hat hlt8)
            | (go_simp; go_at_call 27; (with_reducible refine (HCn.out _ HQd.out).mono ?_); rintro e w6 ⟨C8, c8, ps8, rfl, hl8, hg8, ho8, hb6⟩; have HX6 := Lib.hid (HXd.out.below hb6 HXd.out.lt); have y0 : w6.cell? ⟨g, 0, none⟩ = some (iv c.len) := HX6.out.cell 0; have y1 : w6.cell? ⟨g, 1, none⟩ = some (iv c.acc) := HX6.out.cell 1; have y2 : w6.cell? ⟨g, 2, none⟩ = some (iv c.brk) := HX6.out.cell 2; have y3 : w6.cell? ⟨g, 3, none⟩ = some (iv c.rate) := HX6.out.cell 3; have y4 : w6.cell? ⟨g, 4, none⟩ = some (iv c.del) := HX6.out.cell 4; have ly := HX6.out.lt; have HQ6 := Lib.hid (HQd.out.below hb6); have HP8 := Lib.hid (And.intro hl8 hg8); have HO8 := Lib.hid ho8; have HB6 : Hid (Below wo.heap.size wo w6) := Lib.hid ((Below.refl _ wo).drew.trans hb6); clear hl8 hg8 ho8 hb6)
            | (go_simp; go_at_call 28; (with_reducible refine (HPr.out _ HQ6.out).mono ?_); rintro e w7 ⟨p7, A7, N7, c7, hg7, hn7, rfl, hu7, hb7⟩; clear hn7; obtain ⟨us, hro, hre⟩ := HO8.out.below hb7; have HB7 := Lib.hid (below_step HB6.out hb7); have HRo := Lib.hid ((by rw [HP8.out.1] at hro; exact own_lower hro (Nat.le_refl _) : w7.ownsRow wo.heap.size 26 1 (.slice C8 8 c8) 8 us).alloc (.cells #[.slice A7 N7 c7] 26)); have hkt := Kt2.of_below ((Below.refl _ w7).alloc (Nat.le_refl _) (.cells #[.slice A7 N7 c7] 26)); have HRe := Lib.hid (hre.mono fun u r h => h.kt hkt); have HU7 := Lib.hid (hu7.kt hkt); have hs7 : wo.heap.size ≤ (w7.alloc (.cells #[.slice A7 N7 c7] 26)).heap.size := by { have h1 := HB7.out.size; rw [World.size_alloc]; omega }; have HG7 := Lib.hid hg7; clear hro hre hkt hu7 hb7 hg7))
          all_goals go_wp2
          all_goals go_meet
          all_goals
            have hgo := OwnP.grown (base := wo.heap.size) (t := ps8) (r := p7) (by rw [HP8.out.1]; exact HRo.out) HRe.out HU7.out hgrow (by rw [HP8.out.1]; exact hown8)
            rw [HP8.out.1] at hgo
            refine ⟨some ⟨gg, 0, none⟩, cap1, ps8 ++ [p7], rfl, Lib.hid (by rw [List.length_append, HP8.out.1]; rfl), Lib.hid (fun p hp => ?_), Lib.hid hgo, Lib.hid ((HB7.out.alloc HB7.out.size _).grown hgrow hs7 (fun j e => (HRo.out.lt j e).1))⟩
            rcases List.mem_append.1 hp with h | h
            · exact good_ok HOK.out HQo.out (HP8.out.2 p h)
            · obtain rfl : p = p7 := by simpa using h
              exact good_ok HOK.out HQo.out HG7.out
        case rest =>
          obtain ⟨C, cp, ps, rfl, HPl, HPo, HOp, HBp⟩ := hcut
          rename World => wv
          have HBv := Lib.hid (HBk.out.trans (HBp.out.mono HBk.out.size))
          have HXv := Lib.hid (HXk.out.below HBp.out HXk.out.lt)
          have HQv := Lib.hid (HQn.out.below HBp.out)
          clear HBk HXk HQn HBp HCn HPr
          have i9 : ((9 : Int) != 9) = false := by decide
          go_upto_region 15 with fail
          go_wp2
          go_loopw [18] (fun iv0 wr => ∃ i : Nat, iv0 = iv i ∧ i ≤ 9 ∧ Hid (Below wv.heap.size wv wr)) (fun iv0 _ => 9 - (intOf iv0).toNat)
          case atStart => exact ⟨0, rfl, by decide, Lib.hid (Below.refl _ _)⟩
          case round =>
            obtain ⟨i, rfl, hi, HBr⟩ := hrel
            have j0 : (0 : Int) ≤ (i : Int) := Int.natCast_nonneg _
            by_cases hlt : i < 9
            · have j1 : (i : Int) < 9 := by omega
              obtain ⟨p, hp, _⟩ := drop_at (L := ps) (k := i) (by rw [HPl.out]; exact hlt)
              obtain ⟨gp, Cp, cc, rfl, c0, hcc, hpn⟩ := (HOp.out.below HBr.out).at hp
              obtain ⟨u1, u2, u3, xf, u4, u5, u6⟩ := HPo.out p (List.mem_of_getElem? hp)
              obtain ⟨b1, b2⟩ := inB_i64 HOK.out HLa.out
              have hrt : 5 ≤ c.rate ∧ c.rate ≤ 120 := HOK.out.2.2.2.1
              obtain ⟨r1, r2⟩ := hrt
              have hxr := HXv.out.below HBr.out HXv.out.lt
              have f0 : ∀ n os, (grd wr n os).cell? ⟨g, 0, none⟩ = some (iv c.len) := cell_grd (hxr.cell 0)
              have f1 : ∀ n os, (grd wr n os).cell? ⟨g, 1, none⟩ = some (iv c.acc) := cell_grd (hxr.cell 1)
              have f2 : ∀ n os, (grd wr n os).cell? ⟨g, 2, none⟩ = some (iv c.brk) := cell_grd (hxr.cell 2)
              have f3 : ∀ n os, (grd wr n os).cell? ⟨g, 3, none⟩ = some (iv c.rate) := cell_grd (hxr.cell 3)
              have f4 : ∀ n os, (grd wr n os).cell? ⟨g, 4, none⟩ = some (iv c.del) := cell_grd (hxr.cell 4)
              have f5 : ∀ n os, (grd wr n os).cell? ⟨gp, i, none⟩ = some (.slice Cp p.length cc) := cell_grd c0
              have hx0 : ∃ b' off', Cp = some ⟨b', off', none⟩ ∧ wr.cell? ⟨b', off', none⟩ = some (iv xf) := by
                obtain ⟨b', off', e', h'⟩ := hpn.at u4
                exact ⟨b', off', e', h'⟩
              have hlp : p.length ≤ 200 := by
                rcases Nat.lt_or_ge 200 p.length with h | h
                · unfold chkP at u1
                  rw [if_neg (fun h => h HOK.out), if_neg (by omega), if_pos h] at u1
                  cases u1
                · exact h
              have hp0 : 0 < p.length := (List.getElem?_eq_some_iff.1 u4).1
              have M1 : Hid (∀ W, Below wr.heap.size wr W → Calls Try.prog 10 #[cv c, pv Cp p.length cc] W fun e w' => e = .returned (iv 0) ∧ Below W.heap.size W w') := Lib.hid (fun W h => by
                have h1 := check_any c Cp cc p W (hpn.below h) hcc (by omega)
                rw [u1] at h1
                exact h1)
              have M2 : Hid (∀ W, Below wr.heap.size wr W → Calls Try.prog 21 #[.slice Cp k cc, .slice Ao k co] W fun e w' => e = .returned (.bool true) ∧ Below W.heap.size W w') := Lib.hid (fun W h => by
                have h1 := longs_any Cp cc (p.take q.length) Ao co q W (by rw [u3, HQl.out]; omega) (by rw [HQl.out]; omega) ((hpn.take _).below h) ((HQv.out.below HBr.out).below h)
                rw [u3, decide_eq_true rfl, HQl.out] at h1
                exact h1)
              rw [HQl.out] at u2
              obtain ⟨b', off', rfl, cx⟩ := hx0
              have HBr2 := HBr
              clear hxr hp hpn u1 u3 u4 c0
              generalize p.length = np at *
              have e2 : decide ((np : Int) < (k : Int)) = false := by simp; omega
              have e2' : ¬ (np : Int) < (k : Int) := by omega
              have e3 : (k : Int) ≤ (cc : Int) := by omega
              have e4 : k ≤ cc := by omega
              have e5 : ((0 : Int) != 0) = false := by decide
              go_upto_region 18 with fail
              refine wp_region_quiet_grd (by kernel_rfl) (by kernel_rfl) ?_
              repeat (go_big_quiet_step (first
                | (go_at_call 10; with_reducible exact Calls.grd_of (M1.out _ (below_grd _ _ _)))
                | (go_at_call 21; with_reducible exact Calls.grd_of (M2.out _ (below_grd _ _ _)))))
              refine wpQuiet_nil ?_
              intro _ hw'
              obtain ⟨⟨nq, osq⟩, rfl⟩ := hw'
              have HBq := Lib.hid (below_grd wr nq osq)
              have y0 : (grd wr nq osq).cell? ⟨gp, i, none⟩ = some (.slice (some ⟨b', off', none⟩) np cc) := f5 nq osq
              have y1 : (grd wr nq osq).cell? ⟨b', off', none⟩ = some (iv xf) := cell_grd cx nq osq
              have y2 : (grd wr nq osq).cell? ⟨g, 3, none⟩ = some (iv c.rate) := f3 nq osq
              have ly0 := World.block_lt_of_cell? _ _ y0
              have ly1 := World.block_lt_of_cell? _ _ y1
              have ly2 := World.block_lt_of_cell? _ _ y2
              clear f0 f1 f2 f3 f4 f5 M1 M2 cx
              generalize grd wr nq osq = w5 at *
              have HB5 := Lib.hid (below_step HBr2.out HBq.out)
              have w1e : IntKind.i64.wrap (xf - la) = xf - la := IntWalk.i64_in _ (by omega)
              have w2e : IntKind.i64.wrap (-(xf - la)) = -(xf - la) := IntWalk.i64_in _ (by omega)
              have d1 : decide (c.rate < xf - la) = false := by simp; omega
              have d1' : ¬ c.rate < xf - la := by omega
              have d2 : decide (c.rate < -(xf - la)) = false := by simp; omega
              have d2' : ¬ c.rate < -(xf - la) := by omega
              have np0 : (0 : Int) < (np : Int) := by omega
              go_wp2
              exact ⟨⟨i + 1, by go_num, by omega, HB5⟩, by simp [intOf]; omega⟩
            · obtain rfl : i = 9 := by omega
              go_wp2_with (go_at_call 7; (with_reducible refine (awake_any _).mono ?_); rintro e w6 ⟨rfl, hb6⟩)
              go_ret
              exact ⟨rfl, below_step (HBv.out.trans (HBr.out.mono HBv.out.size)) hb6⟩
end Go.Proofs.Ytcoccfijikiamaa
