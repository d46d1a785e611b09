/- The chain along a row of points. -/
import Derived.Test.YtaehfildhmljeaaHulF
import Derived.Test.YtaehfildhmljeaaRIdx
import Derived.Test.YtaehfildhmljeaaSid2
import Derived.Deep.CutBlock
import Derived.BigQuiet
namespace Go.Proofs.Ytaehfildhmljeaa
open Go.RowKit Go.Shelf

theorem chS_snoc (p : Pt) : ∀ (l st : List Pt), chS st (l ++ [p]) = p :: popS p (chS st l) := by
  intro l
  induction l with
  | nil => intro st; rfl
  | cons a l ih => intro st; rw [List.cons_append, chS, chS, ih]
theorem pop_mem (p : Pt) : ∀ (st : List Pt) (x : Pt), x ∈ popS p st → x ∈ st := by
  intro st
  induction st with
  | nil => intro x h; exact h
  | cons b r ih =>
    cases r with
    | nil => intro x h; exact h
    | cons a r =>
      intro x h
      rw [popS] at h
      split at h
      · exact h
      · exact List.mem_cons_of_mem _ (ih x h)
theorem chS_mem : ∀ (l st : List Pt) (x : Pt), x ∈ chS st l → x ∈ st ∨ x ∈ l := by
  intro l
  induction l with
  | nil => intro st x h; exact Or.inl h
  | cons p l ih =>
    intro st x h
    rw [chS] at h
    rcases ih _ x h with h | h
    · rcases List.mem_cons.1 h with rfl | h
      · simp
      · exact Or.inl (pop_mem p st x h)
    · exact Or.inr (List.mem_cons_of_mem _ h)
theorem ptV_append (L L' : List Pt) : ptV (L ++ L') = ptV L ++ ptV L' := by simp [ptV]
theorem ptV_take (L : List Pt) (k : Nat) : (ptV L).take (k * 2) = ptV (L.take k) := by
  induction L generalizing k with
  | nil => simp [ptV]
  | cons x r ih =>
    cases k with
    | zero => simp [ptV]
    | succ k =>
      rw [ptV_cons, show (k + 1) * 2 = k * 2 + 1 + 1 by omega]
      simp only [List.take_succ_cons, ptV_cons, ih]
theorem side_sgn {a b c : Pt} (ha : vp a = true) (hb : vp b = true) (hc : vp c = true) : sideF a b c = sgn (crs a b c) := by unfold sideF; rw [ha, hb, hc]; rfl
theorem sgn_cases (n : Int) : (0 < n ∧ sgn n = 1) ∨ (n = 0 ∧ sgn n = 0) ∨ (n < 0 ∧ sgn n = -1) := by
  unfold sgn
  rcases Int.lt_trichotomy n 0 with h | h | h
  · exact Or.inr (Or.inr ⟨h, by rw [if_neg (by omega), if_pos h]⟩)
  · exact Or.inr (Or.inl ⟨h, by rw [if_neg (by omega), if_neg (by omega)]⟩)
  · exact Or.inl ⟨h, by rw [if_pos h]⟩

set_option maxRecDepth 100000 in
set_option maxHeartbeats 16000000 in
theorem chain_any (S : List Pt) (v : Value) (base : Nat) (w : World) (hm : S.length ≤ 1000) (hv : ∀ p ∈ S, vp p = true) (hS : w.ownsRow base 24 2 v S.length (ptV S)) :
    Calls Try.prog 117 #[v] w fun e w' => ∃ v', e = .returned v' ∧ w'.ownsRow w.heap.size 24 2 v' (chS [] S).length (ptV (chS [] S).reverse) ∧ Below w.heap.size w w' := by
  obtain ⟨A, cv, hvv⟩ := own_form hS
  subst hvv
  obtain ⟨i0_, hi0, hz0, hz1, hz2⟩ := info_parts Try.info24
  have hI0 := Lib.hid hi0
  have hZ0 := Lib.hid hz0
  have hZ1 := Lib.hid hz1
  have hZ2 := Lib.hid hz2
  have HS := Lib.hid hS
  have HV := Lib.hid hv
  obtain ⟨n, hn⟩ : ∃ n, n = S.length := ⟨_, rfl⟩
  rw [← hn] at HS hm ⊢
  have HN := Lib.hid hn
  clear hi0 hz0 hz1 hz2 hS hv hn
  obtain ⟨Bs, hBs⟩ : ∃ z, z = w.heap.size := ⟨_, rfl⟩
  have HBs := Lib.hid hBs
  have I : ∃ (k : Nat) (wv : Value) (st : List Pt), k ≤ n ∧ (Value.slice none 0 0) = wv ∧ (Value.int .i64 0) = .int .i64 k ∧ Hid (st = chS [] (S.take k)) ∧ Hid (w.ownsRow Bs 24 2 wv st.length (ptV st.reverse)) ∧ Hid (Below w.heap.size w w) :=
    ⟨0, _, [], Nat.zero_le _, rfl, rfl, Lib.hid rfl, Lib.hid (World.ownsRow_nil _ _ _ _), Lib.hid (Below.refl _ _)⟩
  clear hBs
  go_enter Try.func117, Try.ntmps117
  go_wp2
  go_loopw [3, 9] (fun o iv wr => ∃ (k : Nat) (wv : Value) (st : List Pt), k ≤ n ∧ o = wv ∧ iv = .int .i64 k ∧ Hid (st = chS [] (S.take k)) ∧ Hid (wr.ownsRow Bs 24 2 wv st.length (ptV st.reverse)) ∧ Hid (Below w.heap.size w wr)) (fun _ iv _ => n + 1 - (intOf iv).toNat)
  case atStart => exact I
  case round =>
    clear I
    obtain ⟨k, wv, st, hk, rfl, rfl, HSt, HR, HB⟩ := hrel
    obtain ⟨Av, cw, hw⟩ := own_form HR.out
    subst hw
    by_cases hlt : k < n
    · obtain ⟨⟨p, q⟩, hp⟩ : ∃ p, S[k]? = some p := ⟨_, List.getElem?_eq_getElem (by rw [← HN.out]; exact hlt)⟩
      have HSr := HS.out.kept (grown_of_below HB.out) (Classical.em _)
      obtain ⟨g, c0, hform, hg0, hg1⟩ := HSr.form (by omega)
      obtain ⟨rfl, rfl⟩ : A = some ⟨g, 0, none⟩ ∧ cv = c0 := by simpa using hform
      have hpt := ptV_get S k (p, q) hp
      have d0 : wr.cell? ⟨g, k * 2, none⟩ = some (.int .i64 p) := by rw [World.ownsRow.cellAt HSr _ (by omega)]; exact hpt.1
      have d1 : wr.cell? ⟨g, k * 2 + 1, none⟩ = some (.int .i64 q) := by rw [World.ownsRow.cellAt HSr _ (by omega)]; exact hpt.2
      have i0 : (0 : Int) ≤ (k : Int) := Int.natCast_nonneg _
      have i1 : (k : Int) < (n : Int) := by omega
      have hpS : (p, q) ∈ S := List.mem_of_getElem? hp
      have HNx : Hid (chS [] (S.take (k + 1)) = (p, q) :: popS (p, q) st) := Lib.hid (by
        have e1 : S.take (k + 1) = S.take k ++ [(p, q)] := by rw [List.take_add_one, hp]; rfl
        rw [e1, chS_snoc, ← HSt.out])
      have HVs : Hid (∀ x ∈ st, vp x = true) := Lib.hid (fun x hx => by
        rw [HSt.out] at hx
        rcases chS_mem _ _ x hx with h | h
        · cases h
        · exact HV.out x (List.mem_of_mem_take h))
      have HVp := Lib.hid (HV.out _ hpS)
      have hstk : st.length ≤ k := by
        have h1 := chS_len (S.take k) []
        rw [← HSt.out] at h1
        simp at h1
        omega
      clear hpt hp hform hg0 HSr hpS
      go_upto_region 5 with fail
      have hb3 : Below wr.heap.size wr (wr.alloc (.cells #[.int .i64 p, .int .i64 q] 24)) := (Below.refl _ wr).alloc (Nat.le_refl _) _
      have hbx := BoxAt.new wr 24 #[.int .i64 p, .int .i64 q]
      obtain ⟨Lb, hLb⟩ : ∃ z, z = wr.heap.size := ⟨_, rfl⟩
      rw [← hLb] at hbx ⊢
      have HR3 := Lib.hid (HR.out.kept (grown_of_below hb3) (Classical.em _))
      have HB3 := Lib.hid (below_step HB.out hb3)
      clear d0 d1 hLb hb3 HR HB
      generalize wr.alloc (.cells #[.int .i64 p, .int .i64 q] 24) = w3 at *
      have HBx := Lib.hid hbx
      clear hbx
      go_upto_block 2 with fail
      go_cut [3, 6] from 15 to 37 (fun wv nv wz => Hid (wz.ownsRow Bs 24 2 wv (popS (p, q) st).length (ptV (popS (p, q) st).reverse)) ∧ Below w3.heap.size w3 wz)
      case first =>
        go_wp2
        go_loopw [3, 6] (fun o nv wr => ∃ (wv : Value) (s' : List Pt) (m : Nat), o = wv ∧ nv = .int .i64 m ∧ Hid (m = s'.length) ∧ Hid (popS (p, q) s' = popS (p, q) st) ∧ Hid (∀ x ∈ s', vp x = true) ∧ m ≤ 1000 ∧ Hid (wr.ownsRow Bs 24 2 wv m (ptV s'.reverse)) ∧ Hid (Below w3.heap.size w3 wr)) (fun _ nv _ => (intOf nv).toNat)
        case atStart => exact ⟨_, st, st.length, rfl, rfl, Lib.hid rfl, Lib.hid rfl, HVs, by omega, HR3, Lib.hid (Below.refl _ _)⟩
        case round =>
          obtain ⟨wv, s', m, rfl, rfl, HMl, HPop, HVv, hm1, HR4, HBB⟩ := hrel
          obtain ⟨Aw, cw', hw'⟩ := own_form HR4.out
          subst hw'
          by_cases hm2 : 1 < m
          · obtain ⟨b, a, r, rfl⟩ : ∃ b a r, s' = b :: a :: r := by
              have h := HMl.out
              cases s' with
              | nil => simp at h; omega
              | cons b r =>
                cases r with
                | nil => simp at h; omega
                | cons a r => exact ⟨b, a, r, rfl⟩
            obtain ⟨t, ht⟩ : ∃ t, t = r.length := ⟨_, rfl⟩
            obtain rfl : m = t + 2 := by have h := HMl.out; simp at h; omega
            obtain ⟨g2, c2, hform2, hg2, hg3⟩ := HR4.out.form (by omega)
            obtain ⟨rfl, rfl⟩ : Aw = some ⟨g2, 0, none⟩ ∧ cw' = c2 := by simpa using hform2
            have hrev : (b :: a :: r).reverse = r.reverse ++ [a, b] := by simp
            have ha := ptV_get (b :: a :: r).reverse t a (by rw [hrev, List.getElem?_append_right (by simp; omega)]; simp [ht])
            have hb := ptV_get (b :: a :: r).reverse (t + 1) b (by rw [hrev, List.getElem?_append_right (by simp; omega)]; simp [ht])
            have hva := HVv.out a (by simp)
            have hvb := HVv.out b (by simp)
            have hcr := sgn_cases (crs a b (p, q))
            have hsd := side_sgn hva hvb HVp.out
            have hpop : popS (p, q) (b :: a :: r) = if 0 < crs a b (p, q) then b :: a :: r else popS (p, q) (a :: r) := rfl
            rw [HPop.out] at hpop
            obtain ⟨a1, a2⟩ := a
            obtain ⟨b1, b2⟩ := b
            have e0 : wr.cell? ⟨g2, t * 2, none⟩ = some (.int .i64 a1) := by rw [World.ownsRow.cellAt HR4.out _ (by omega)]; exact ha.1
            have e1 : wr.cell? ⟨g2, t * 2 + 1, none⟩ = some (.int .i64 a2) := by rw [World.ownsRow.cellAt HR4.out _ (by omega)]; exact ha.2
            have e2 : wr.cell? ⟨g2, (t + 1) * 2, none⟩ = some (.int .i64 b1) := by rw [World.ownsRow.cellAt HR4.out _ (by omega)]; exact hb.1
            have e3 : wr.cell? ⟨g2, (t + 1) * 2 + 1, none⟩ = some (.int .i64 b2) := by rw [World.ownsRow.cellAt HR4.out _ (by omega)]; exact hb.2
            have e4 : wr.cell? ⟨Lb, 0, none⟩ = some (.int .i64 p) := (box_step HBx.out HBB.out).cell 0
            have e5 : wr.cell? ⟨Lb, 1, none⟩ = some (.int .i64 q) := (box_step HBx.out HBB.out).cell 1
            have lL := (box_step HBx.out HBB.out).lt
            obtain ⟨sd, hsdd⟩ : ∃ sd, sd = sgn (crs (a1, a2) (b1, b2) (p, q)) := ⟨_, rfl⟩
            rw [← hsdd] at hsd hcr
            have HSide : Hid (∀ W : World, Calls Try.prog 92 #[.agg #[.int .i64 a1, .int .i64 a2], .agg #[.int .i64 b1, .int .i64 b2], .agg #[.int .i64 p, .int .i64 q]] W fun e w' => e = .returned (.int .i64 sd) ∧ Below W.heap.size W w') := Lib.hid (fun W => side_any (a1, a2) (b1, b2) (p, q) sd W (Lib.hid hsd))
            have HSix : Hid (∀ W, Below wr.heap.size wr W → W.cell? ⟨g2, t * 2, none⟩ = some (.int .i64 a1) ∧ W.cell? ⟨g2, t * 2 + 1, none⟩ = some (.int .i64 a2) ∧ W.cell? ⟨g2, (t + 1) * 2, none⟩ = some (.int .i64 b1) ∧ W.cell? ⟨g2, (t + 1) * 2 + 1, none⟩ = some (.int .i64 b2) ∧
                W.cell? ⟨Lb, 0, none⟩ = some (.int .i64 p) ∧ W.cell? ⟨Lb, 1, none⟩ = some (.int .i64 q)) := Lib.hid (fun W hW =>
              ⟨(hW.cell (p := ⟨g2, t * 2, none⟩) hg3).trans e0, (hW.cell (p := ⟨g2, t * 2 + 1, none⟩) hg3).trans e1, (hW.cell (p := ⟨g2, (t + 1) * 2, none⟩) hg3).trans e2, (hW.cell (p := ⟨g2, (t + 1) * 2 + 1, none⟩) hg3).trans e3,
                (hW.cell (p := ⟨Lb, 0, none⟩) lL).trans e4, (hW.cell (p := ⟨Lb, 1, none⟩) lL).trans e5⟩)
            have hBx : Below wr.heap.size wr wr.drew := (Below.refl _ wr).drew
            obtain ⟨bb, hbb⟩ : ∃ bb, bb = decide (sd ≤ 0) := ⟨_, rfl⟩
            have hdec : decide (sd ≤ 0) = bb := hbb.symm
            have HPp : Hid (bb = true → popS (p, q) ((a1, a2) :: r) = popS (p, q) st) := Lib.hid (fun h => by
              have h1 : sd ≤ 0 := by rw [hbb] at h; exact of_decide_eq_true h
              rw [hpop, if_neg (by omega)])
            have HPn : Hid (bb = false → popS (p, q) st = (b1, b2) :: (a1, a2) :: r) := Lib.hid (fun h => by
              have h1 : ¬ sd ≤ 0 := by rw [hbb] at h; exact of_decide_eq_false h
              rw [hpop, if_pos (by omega)])
            have t0 : (0 : Int) ≤ (t : Int) := Int.natCast_nonneg _
            have t1 : (1 : Int) < (t : Int) + 2 := by omega
            have t2 : (t : Int) < (t : Int) + 2 := by omega
            have t3 : (0 : Int) ≤ (t : Int) + 1 := by omega
            have t4 : (t : Int) + 1 < (t : Int) + 2 := by omega
            have w1 : IntKind.i64.wrap ((t : Int) + 2 - 2) = (t : Int) := by rw [IntWalk.i64_in _ (by omega)]; omega
            have w3 : IntKind.i64.wrap (t : Int) = (t : Int) := IntWalk.i64_in _ (by omega)
            have w2 : IntKind.i64.wrap ((t : Int) + 2 - 1) = (t : Int) + 1 := by rw [IntWalk.i64_in _ (by omega)]; omega
            have HT := Lib.hid ht
            clear ha hb hva hvb hcr hsd hpop hsdd hrev hform2 hg2 hbb ht
            go_upto_region 6 with fail
            go_cut [31] from 15 to 31 (fun v wz => v = .bool bb ∧ Below wr.heap.size wr wz)
            case first =>
              go_region_held3 (fun W => W.cell? ⟨g2, t * 2, none⟩ = some (.int .i64 a1) ∧ W.cell? ⟨g2, t * 2 + 1, none⟩ = some (.int .i64 a2) ∧ W.cell? ⟨g2, (t + 1) * 2, none⟩ = some (.int .i64 b1) ∧ W.cell? ⟨g2, (t + 1) * 2 + 1, none⟩ = some (.int .i64 b2) ∧
                  W.cell? ⟨Lb, 0, none⟩ = some (.int .i64 p) ∧ W.cell? ⟨Lb, 1, none⟩ = some (.int .i64 q))
                (first | exact HSix.out _ hBx | go_keep)
                (first | (go_at_call 92; (with_reducible refine (HSide.out _).mono ?_); rintro e wa ⟨rfl, hba⟩; replace hBx := below_step hBx hba))
              all_goals go_wp2
              all_goals go_meet
              all_goals exact ⟨by first | rfl | rw [hdec], hBx⟩
            case rest =>
              obtain ⟨wz, rfl⟩ : ∃ x : World, x = wc := ⟨_, rfl⟩
              obtain ⟨rfl, hbz⟩ := hcut
              have HR5 := Lib.hid (HR4.out.kept (grown_of_below hbz) (Classical.em _))
              have HB5 := Lib.hid (below_step HBB.out hbz)
              clear hbz HSix HSide e0 e1 e2 e3 e4 e5 hBx HR4 HBB
              cases bb with
              | false =>
                have HE : Hid (wz.ownsRow Bs 24 2 (.slice (some ⟨g2, 0, none⟩) (t + 2) cw') (popS (p, q) st).length (ptV (popS (p, q) st).reverse)) := Lib.hid (by
                  rw [HPn.out rfl, ← HMl.out]
                  exact HR5.out)
                go_wp2
                go_meet
                exact ⟨HE.out, HB5.out⟩
              | true =>
                have HTk : Hid (wz.ownsRow Bs 24 2 (.slice (some ⟨g2, 0, none⟩) (t + 1) cw') (t + 1) (ptV ((a1, a2) :: r).reverse)) := Lib.hid (by
                  have h := ownsRow_take (m := t + 1) HR5.out (by omega)
                  rw [ptV_take, List.reverse_cons, List.take_append_of_le_length (by have := HT.out; simp <;> omega), List.take_of_length_le (by have := HT.out; simp <;> omega)] at h
                  exact h)
                have hcw : (t : Int) + 1 ≤ (cw' : Int) := by
                  rcases HR5.out.2 with ⟨h, _⟩ | ⟨g', cap', cur, h, _, _, h1, _⟩
                  · cases h
                  · obtain ⟨_, rfl⟩ : g2 = g' ∧ cw' = cap' := by simpa using h
                    omega
                go_wp2
                go_roundw
                case rel => exact ⟨_, (a1, a2) :: r, t + 1, rfl, by go_num, Lib.hid (by simp; have := HT.out; omega), Lib.hid (HPp.out rfl), Lib.hid (fun x hx => HVv.out x (List.mem_cons_of_mem _ hx)), by omega, HTk, HB5⟩
                case measure => simp [intOf]
          · have f0 : decide ((1 : Int) < (m : Int)) = false := decide_eq_false (by omega)
            have HE : Hid (wr.ownsRow Bs 24 2 (.slice Aw m cw') (popS (p, q) st).length (ptV (popS (p, q) st).reverse)) := Lib.hid (by
              have h1 : popS (p, q) s' = s' := by
                have h := HMl.out
                cases s' with
                | nil => rfl
                | cons b r =>
                  cases r with
                  | nil => rfl
                  | cons a r => have h2 : m = r.length + 1 + 1 := h
                                omega
              rw [← HPop.out, h1, ← HMl.out]
              exact HR4.out)
            go_upto_region 6 with fail
            go_quiet (fail)
            go_wp2
            go_meet
            exact ⟨HE.out.kept (grown_of_below (below_drewN (Below.refl _ wr) _)) (Classical.em _), below_drewN HBB.out _⟩
      case rest =>
        obtain ⟨wz, rfl⟩ : ∃ x : World, x = wc := ⟨_, rfl⟩
        obtain ⟨HR5, hbz⟩ := hcut
        have HB5 := Lib.hid (below_step HB3.out hbz)
        have HBx5 := Lib.hid (box_step HBx.out hbz)
        clear hbz HR3 HB3 HBx
        obtain ⟨Aw, cw2, hw2⟩ := own_form HR5.out
        subst hw2
        have hpl : (popS (p, q) st).length ≤ 1000 := by have := pop_len (p, q) st; omega
        obtain ⟨m, hm⟩ : ∃ m, m = (popS (p, q) st).length := ⟨_, rfl⟩
        rw [← hm] at HR5 hpl ⊢
        have HMl := Lib.hid hm
        have d0 : wz.cell? ⟨Lb, 0, none⟩ = some (.int .i64 p) := HBx5.out.cell 0
        have d1 : wz.cell? ⟨Lb, 1, none⟩ = some (.int .i64 q) := HBx5.out.cell 1
        have d2 := HBx5.out.lt
        have hBz : Bs ≤ wz.heap.size := by have h1 := HBs.out; have h2 := HB5.out.size; omega
        clear hm
        go_wp2_with (at_builtin; go_loud (refine wpList_append_lies _ rfl _ _ 56 rfl Bs 24 i0_ _ 2 16 Try.underlying56 hI0.out hZ0.out hZ1.out hZ2.out rfl (by decide) (.slice Aw m cw2) m (ptV (popS (p, q) st).reverse) rfl (HR5.out.alloc _) ⟨wz.heap.size, 0, none⟩ 1 1 [.int .i64 p, .int .i64 q] rfl rfl (World.news_of_block (cs := #[.int .i64 p, .int .i64 q]) (t := 24) (fr := (0, 0)) (heap_alloc_new wz _)) (by simp [Value.oneCell']) (by decide) (by unfold maxLen; omega) (by omega) (by simp; omega) _ rfl ?_; intro gg cap1 w7 hown7 hgrow hat hlt7))
        have HR7 : Hid (w7.ownsRow Bs 24 2 (.slice (some ⟨gg, 0, none⟩) (m + 1) cap1) ((p, q) :: popS (p, q) st).length (ptV ((p, q) :: popS (p, q) st).reverse)) := Lib.hid (by
          rw [List.reverse_cons, ptV_append, List.length_cons, ← HMl.out]
          exact hown7)
        have HB7 : Hid (Below w.heap.size w w7) := Lib.hid (by
          have h1 := below_step HB5.out ((Below.refl _ wz).alloc (Nat.le_refl _) (.cells #[.int .i64 p, .int .i64 q] 24))
          exact h1.grown hgrow h1.size (fun b e => by have h2 := (HR5.out.lt b e).1; have h3 := HBs.out; omega))
        clear hown7 hgrow hat hlt7 d0 d1 d2
        go_roundw
        case rel => exact ⟨k + 1, _, (p, q) :: popS (p, q) st, by omega, rfl, by go_num, Lib.hid HNx.out.symm, HR7, HB7⟩
        case measure => simp [intOf]; omega
    · obtain rfl : k = n := by omega
      have HE : Hid (wr.ownsRow w.heap.size 24 2 (.slice Av st.length cw) (chS [] S).length (ptV (chS [] S).reverse)) := Lib.hid (by
        have h1 : st = chS [] S := by rw [HSt.out, HN.out, List.take_length]
        rw [← HBs.out, ← h1]
        exact HR.out)
      have HB2 := HB
      obtain ⟨m, hm⟩ : ∃ m, m = st.length := ⟨_, rfl⟩
      rw [← hm] at HE ⊢
      clear HR HB hm HSt
      go_wp2
      go_ret
      exact ⟨_, rfl, HE.out, HB2.out⟩
end Go.Proofs.Ytaehfildhmljeaa
