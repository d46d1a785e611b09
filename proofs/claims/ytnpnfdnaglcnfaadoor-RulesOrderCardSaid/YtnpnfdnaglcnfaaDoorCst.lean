/- costs of a valid book and a valid trace. -/
import Derived.Test.YtnpnfdnaglcnfaaDoorBok
namespace Go.Proofs.YtnpnfdnaglcnfaaDoor
open Go.RowKit Go.Shelf

/-- Ten numbers in a block. -/
def TenAt (w : World) (g : Nat) (l : List Int) : Prop := BoxAt w g 102 (l.map fun x => iv x).toArray
theorem ten_set {w : World} {g : Nat} {l : List Int} (h : TenAt w g l) (r : Nat) (x : Int) : TenAt (w.setCell ⟨g, r, none⟩ (iv x)) g (l.set r x) := by
  have h2 := BoxAt.set h r (iv x)
  unfold TenAt
  rw [List.map_set, ← List.setIfInBounds_toArray]
  exact h2
theorem ten_cell {w : World} {g : Nat} {l : List Int} (h : TenAt w g l) {r : Nat} (hr : r < l.length) : w.cell? ⟨g, r, none⟩ = some (iv (l.getD r 0)) := by
  have h2 := BoxAt.cell h r
  rw [h2, List.getElem?_toArray, List.getElem?_map, List.getD_eq_getElem?_getD, List.getElem?_eq_getElem hr]
  rfl
theorem arr10 : ∀ (l : List Int), l.length = 10 → ∃ a0 a1 a2 a3 a4 a5 a6 a7 a8 a9, l = [a0, a1, a2, a3, a4, a5, a6, a7, a8, a9]
  | [a0, a1, a2, a3, a4, a5, a6, a7, a8, a9], _ => ⟨a0, a1, a2, a3, a4, a5, a6, a7, a8, a9, rfl⟩
theorem getD_in {l : List Int} {M : Int} (h : ∀ x ∈ l, 0 ≤ x ∧ x ≤ M) (hM : 0 ≤ M) (r : Nat) : 0 ≤ l.getD r 0 ∧ l.getD r 0 ≤ M := by
  rw [List.getD_eq_getElem?_getD]
  cases e : l[r]? with
  | none => exact ⟨Int.le_refl 0, hM⟩
  | some y => exact h y (List.mem_of_getElem? e)
theorem shp_of_chk {L : List Nd} {x : Int} (h : chkE L x = 0) : shpE L x = 0 := by
  unfold chkE at h
  by_cases h1 : shpE L x = 0
  · exact h1
  · rw [if_pos h1] at h; exact absurd h h1
theorem tr_len {t : List (List Int)} {x : Int} (h : trE t x = 0) : t.length ≤ 400 := by
  unfold trE at h
  by_cases h1 : 1 ≤ x ∧ x ≤ 12
  · rw [if_neg (fun h => h h1)] at h
    by_cases h2 : 400 < t.length
    · rw [if_pos h2] at h; cases h
    · omega
  · rw [if_pos h1] at h; cases h
set_option maxRecDepth 100000 in
set_option maxHeartbeats 8000000 in
theorem costs_ok (A : Option Addr) (cap : Nat) (bs : List (Nat × List Nd)) (B : Option Addr) (cb : Nat) (t : List (List Int)) (w : World) (hA : LawsL w A bs) (hb : BkOk bs) (hB : RowsL w B t) (ht : trE t 2 = 0) (hsh : Short t) :
    Calls Tryd.prog 61 #[.slice A bs.length cap, iv 2, .slice B t.length cb] w fun e w' => e = .returned (.tuple #[.agg ((cstL t bs).map fun x => iv x).toArray, iv 0]) ∧ Below w.heap.size w w' := by
  have hT := tr_len ht
  have hl := hb.1
  have HBk := Lib.hid (fun W (h : LawsL W A bs) => book_ok A cap bs W h hb)
  have HTr := Lib.hid (fun W (h : RowsL W B t) => trace_any B cb t 2 W hsh h)
  rw [ht] at HTr
  have HA := Lib.hid hA
  have HB := Lib.hid hB
  have HK := Lib.hid hb.2
  have HTe := Lib.hid ht
  have HCi := Lib.hid (fun k => cstL_in t (bs.take k))
  have HCl := Lib.hid (fun k => cstL_len t (bs.take k))
  have HCa : Hid (cstL t bs = cstL t (bs.take bs.length)) := Lib.hid (by rw [List.take_length])
  have HCs : Hid (∀ k p, bs[k]? = some p → cstL t (bs.take (k + 1)) = bump (cstL t (bs.take k)) p.1 (ctNo (vdsF t p.2) t.length)) := Lib.hid (fun k p hp => by rw [List.take_add_one, hp]; exact cstL_snoc t _ p)
  obtain ⟨M, hM⟩ : ∃ M, M = bs.length := ⟨_, rfl⟩
  obtain ⟨T, hTt⟩ : ∃ T, T = t.length := ⟨_, rfl⟩
  rw [← hM] at HBk hl HCa ⊢
  rw [← hTt] at HTr hT ⊢
  have HM := Lib.hid hM
  have HTl := Lib.hid hTt
  have hb0 : Below w.heap.size w ((w.alloc (.cells #[iv 0, iv 0, iv 0, iv 0, iv 0, iv 0, iv 0, iv 0, iv 0, iv 0] 102)).alloc (.cells #[iv 0, iv 0, iv 0, iv 0, iv 0, iv 0, iv 0, iv 0, iv 0, iv 0] 102)) := ((Below.refl _ w).alloc (Nat.le_refl _) _).alloc (by simp) _
  have HX := Lib.hid ((BoxAt.new w 102 #[iv 0, iv 0, iv 0, iv 0, iv 0, iv 0, iv 0, iv 0, iv 0, iv 0]).alloc (.cells #[iv 0, iv 0, iv 0, iv 0, iv 0, iv 0, iv 0, iv 0, iv 0, iv 0] 102))
  have HF : Hid (TenAt ((w.alloc (.cells #[iv 0, iv 0, iv 0, iv 0, iv 0, iv 0, iv 0, iv 0, iv 0, iv 0] 102)).alloc (.cells #[iv 0, iv 0, iv 0, iv 0, iv 0, iv 0, iv 0, iv 0, iv 0, iv 0] 102)) (w.heap.size + 1) (List.replicate 10 0)) := Lib.hid (by
    have h := BoxAt.new (w.alloc (.cells #[iv 0, iv 0, iv 0, iv 0, iv 0, iv 0, iv 0, iv 0, iv 0, iv 0] 102)) 102 #[iv 0, iv 0, iv 0, iv 0, iv 0, iv 0, iv 0, iv 0, iv 0, iv 0]
    rw [World.size_alloc] at h
    exact h)
  clear hA hb hB ht hM hTt hsh
  go_enter Tryd.func61, Tryd.ntmps61
  go_upto_region 8 with (first
    | (go_at_call 88; (with_reducible refine (HBk.out _ (HA.out.below hb0)).mono ?_); rintro e w1 ⟨rfl, hb1⟩; have hb2 := below_step hb0 hb1; have hX1 := HX.out.below hb1 HX.out.lt; have hF1 := BoxAt.below HF.out hb1 (BoxAt.lt HF.out))
    | (go_at_call 18; (with_reducible refine (HTr.out _ (HB.out.below hb2)).mono ?_); rintro e w2 ⟨rfl, hb3⟩))
  have HB2 := Lib.hid (below_step hb2 hb3)
  have HX2 := Lib.hid (hX1.below hb3 hX1.lt)
  have HF2 : Hid (TenAt w2 (w.heap.size + 1) (cstL t (bs.take 0))) := Lib.hid (BoxAt.below hF1 hb3 (BoxAt.lt hF1))
  clear hb0 hb1 hb2 hb3 hX1 hF1 HX HF HBk HTr
  go_wp2
  go_loopw [31] (fun iv0 wr => ∃ k : Nat, k ≤ M ∧ iv0 = iv k ∧ Hid (TenAt wr (w.heap.size + 1) (cstL t (bs.take k))) ∧ Hid (BoxAt wr w.heap.size 102 #[iv 0, iv 0, iv 0, iv 0, iv 0, iv 0, iv 0, iv 0, iv 0, iv 0]) ∧ Hid (Below w.heap.size w wr)) (fun iv0 _ => M - (intOf iv0).toNat)
  case atStart => exact ⟨0, Nat.zero_le _, rfl, HF2, HX2, HB2⟩
  case round =>
    obtain ⟨k, hk, rfl, HF, HX, HBr⟩ := hrel
    have i0 : (0 : Int) ≤ (k : Int) := Int.natCast_nonneg _
    by_cases hlt : k < M
    · have i1 : (k : Int) < (M : Int) := by omega
      obtain ⟨p, hp, _⟩ := drop_at (L := bs) (k := k) (by rw [← HM.out]; exact hlt)
      obtain ⟨b, off, C, c, rfl, c0, c1, hn⟩ := (HA.out.below HBr.out).at hp
      have l0 := World.block_lt_of_cell? wr _ c0
      obtain ⟨p1, p2⟩ := HK.out p (List.mem_of_getElem? hp)
      have HNx := Lib.hid (HCs.out k p hp)
      have HLk := Lib.hid (HCl.out k)
      have HIk : Hid (∀ x ∈ cstL t (bs.take k), 0 ≤ x ∧ x ≤ 3200) := Lib.hid (fun x hx => by
        obtain ⟨h1, h2⟩ := HCi.out k x hx
        refine ⟨h1, Int.le_trans h2 ?_⟩
        have h3 : (bs.take k).length ≤ 8 := by rw [List.length_take]; omega
        have h4 : t.length ≤ 400 := by rw [← HTl.out]; exact hT
        have h5 : (bs.take k).length * t.length ≤ 8 * 400 := Nat.mul_le_mul h3 h4
        have h6 : (((bs.take k).length * t.length : Nat) : Int) ≤ 3200 := by omega
        rw [Int.natCast_mul] at h6
        exact h6)
      have HV := Lib.hid (fun W (hW : Below wr.heap.size wr W) => verdicts_any C c p.2 B cb t 2 W (shp_of_chk p2) HTe.out (hn.below hW) ((HB.out.below HBr.out).below hW))
      clear hp hn p2
      obtain ⟨r, L⟩ := p
      dsimp only at *
      generalize vdsF t L = a at *
      rw [← HTl.out] at HV HNx
      generalize L.length = nl at *
      generalize cstL t (bs.take k) = lk at *
      have hb0 : Below wr.heap.size wr (wr.alloc (.cells #[iv r, .slice C nl c] 71)) := (Below.refl _ wr).alloc (Nat.le_refl _) _
      have HP := Lib.hid (BoxAt.new wr 71 #[iv r, .slice C nl c])
      have HPl : Hid (w.heap.size + 1 < wr.heap.size) := Lib.hid (BoxAt.lt HF.out)
      go_upto_region 11 with fail
      go_cut [41, 42, 43] from 35 to 43 (fun v n i w' => ∃ (g cg : Nat), v = .slice (some ⟨g, 0, none⟩) T cg ∧ n = iv T ∧ i = iv 0 ∧ Hid (LineAt w' (.slice (some ⟨g, 0, none⟩) (T + 1) cg) T a) ∧ Hid (BoxAt w' wr.heap.size 71 #[iv r, .slice C nl c]) ∧ Hid (Below wr.heap.size (wr.alloc (.cells #[iv r, .slice C nl c] 71)) w'))
      case first =>
        have y1 : (wr.alloc (.cells #[iv r, .slice C nl c] 71)).cell? ⟨wr.heap.size, 1, none⟩ = some (.slice C nl c) := HP.out.cell 1
        have ly := HP.out.lt
        go_wp2_with (go_at_call 53; (with_reducible refine (HV.out _ hb0).mono ?_); rintro e w5 ⟨v5, rfl, hv5, hb5⟩; have hv6 := hv5; obtain ⟨g5, c5, hvv, hc5, _, _⟩ := hv6.form; subst hvv; have hTc : (T : Int) ≤ (c5 : Int) := by omega)
        all_goals go_meet
        all_goals exact ⟨g5, c5, rfl, by simp, rfl, Lib.hid hv5, Lib.hid (HP.out.below hb5 HP.out.lt), Lib.hid (hb5.mono hb0.size)⟩
      case rest =>
        obtain ⟨g5, c5, rfl, rfl, rfl, HLi, HPc, HBc⟩ := hcut
        have HBz := Lib.hid (hb0.trans HBc.out)
        have HBw := Lib.hid (HBr.out.trans (HBz.out.mono HBr.out.size))
        have HFz : Hid (TenAt wc (w.heap.size + 1) lk) := Lib.hid (BoxAt.below HF.out HBz.out (BoxAt.lt HF.out))
        have HXz := Lib.hid (HX.out.below HBz.out HX.out.lt)
        have HPne : Hid (wr.heap.size ≠ w.heap.size + 1) := Lib.hid (by have := HPl.out; omega)
        have HGne : Hid (g5 ≠ w.heap.size + 1) := Lib.hid (fun e => by
          obtain ⟨g, c', cs, h1, _, h2, _⟩ := HLi.out
          obtain ⟨rfl, _⟩ : g5 = g ∧ c5 = c' := by simpa using h1
          subst e
          have h3 := h2.symm.trans (show wc.heap[w.heap.size + 1]? = _ from HFz.out)
          cases h3)
        have HLc : Hid (∀ i, i ≤ T → wc.cell? ⟨g5, i, none⟩ = some (iv (a i))) := Lib.hid (fun i hi => by
          obtain ⟨g, c', h1, _, _, h2⟩ := HLi.out.form
          obtain ⟨rfl, _⟩ : g5 = g ∧ c5 = c' := by simpa using h1
          exact h2 i hi)
        have hgz : g5 < wc.heap.size := by
          have := HLc.out 0 (Nat.zero_le _)
          exact World.block_lt_of_cell? _ _ this
        have HGz := Lib.hid hgz
        clear hgz hb0 HP HBc HBz HBr HX HF HLi c0 c1 l0 HV
        generalize wr.heap.size = gp at *
        have t0 : (0 : Int) ≤ (T : Int) := Int.natCast_nonneg _
        go_wp2
        go_loopw [43] (fun iv1 wi => ∃ j : Nat, j ≤ T ∧ iv1 = iv j ∧ Hid (TenAt wi (w.heap.size + 1) (bump lk r (ctNo a j))) ∧ Hid (Off1 (w.heap.size + 1) wc wi)) (fun iv1 _ => T - (intOf iv1).toNat)
        case atStart => exact ⟨0, Nat.zero_le _, rfl, Lib.hid (by rw [show ctNo a 0 = 0 from rfl, bump_zero]; exact HFz.out), Lib.hid (Off1.refl _ _)⟩
        case round =>
          obtain ⟨j, hj, rfl, HFj, HOf⟩ := hrel
          have j0 : (0 : Int) ≤ (j : Int) := Int.natCast_nonneg _
          by_cases hlj : j < T
          · have j1 : (j : Int) < (T : Int) := by omega
            have e5 : wr.cell? ⟨g5, j, none⟩ = some (iv (a j)) := by
              have h1 := HLc.out j (by omega)
              have h2 := HOf.out.2.2.2.2 g5 HGz.out HGne.out
              unfold World.cell? at h1 ⊢
              rw [h2]
              exact h1
            have l5 := World.block_lt_of_cell? _ _ e5
            have HSu : Hid (bump lk r (ctNo a (j + 1)) = if a j = 0 then bump (bump lk r (ctNo a j)) r 1 else bump lk r (ctNo a j)) := Lib.hid (by
              split
              · rw [bump_add _ _ _ _ (by rw [HLk.out]; omega)]
                congr 1
                show ctNo a j + (if a j = 0 then 1 else 0) = _
                rw [if_pos (by assumption)]
              · congr 1
                show ctNo a j + (if a j = 0 then 1 else 0) = _
                rw [if_neg (by assumption)]
                omega)
            have hcn := ctNo_in a j
            have HIj := Lib.hid (bump_in HIk.out r hcn.1 hcn.2 (by decide))
            have hlen : (bump lk r (ctNo a j)).length = 10 := by rw [bump_len, HLk.out]
            generalize bump lk r (ctNo a j) = lj at *
            by_cases ha0 : a j = 0
            · rw [ha0] at e5
              rw [if_pos ha0] at HSu
              have hp := HOf.out.box HPc.out HPne.out
              have y0 : wr.cell? ⟨gp, 0, none⟩ = some (iv r) := hp.cell 0
              have lp := hp.lt
              have hrl : r < lj.length := by omega
              have z0 := ten_cell HFj.out hrl
              have zf : wr.frozen? ⟨w.heap.size + 1, r, none⟩ = false := BoxAt.frozen HFj.out r
              have zl : w.heap.size + 1 < wr.heap.size := BoxAt.lt HFj.out
              obtain ⟨d1, d2⟩ := getD_in HIj.out (by omega) r
              have HBu : Hid (bump lj r 1 = lj.set r (lj.getD r 0 + 1)) := Lib.hid rfl
              have r0 : (0 : Int) ≤ (r : Int) := Int.natCast_nonneg _
              have r9 : (r : Int) < 10 := by omega
              generalize lj.getD r 0 = dv at *
              clear hp hrl ha0
              go_wp2
              refine ⟨⟨j + 1, by omega, by go_num, Lib.hid ?_, Lib.hid (HOf.out.set)⟩, by simp [intOf]; omega⟩
              rw [HSu.out, HBu.out]
              exact ten_set HFj.out r (dv + 1)
            · rw [if_neg ha0] at HSu
              go_wp2
              exact ⟨⟨j + 1, by omega, by go_num, Lib.hid (by rw [HSu.out]; exact HFj.out), HOf⟩, by simp [intOf]; omega⟩
          · obtain rfl : j = T := by omega
            have j1 : ¬ (j : Int) < (j : Int) := by omega
            go_wp2
            exact ⟨⟨k + 1, by omega, by go_num, Lib.hid (by rw [HNx.out]; exact HFj.out), Lib.hid (HOf.out.box HXz.out (by omega)), Lib.hid (HOf.out.below HBw.out (by omega) HBw.out.size)⟩, by simp [intOf]; omega⟩
    · obtain rfl : k = M := by omega
      have i1 : ¬ (k : Int) < (k : Int) := by omega
      have hlk := HCl.out k
      rw [← HCa.out] at HF hlk
      generalize hcl : cstL t bs = l at *
      obtain ⟨a0, a1, a2, a3, a4, a5, a6, a7, a8, a9, rfl⟩ := arr10 l hlk
      have HCe := Lib.hid hcl
      clear hcl
      have y0 : wr.cell? ⟨w.heap.size + 1, 0, none⟩ = some (iv a0) := BoxAt.cell HF.out 0
      have y1 : wr.cell? ⟨w.heap.size + 1, 1, none⟩ = some (iv a1) := BoxAt.cell HF.out 1
      have y2 : wr.cell? ⟨w.heap.size + 1, 2, none⟩ = some (iv a2) := BoxAt.cell HF.out 2
      have y3 : wr.cell? ⟨w.heap.size + 1, 3, none⟩ = some (iv a3) := BoxAt.cell HF.out 3
      have y4 : wr.cell? ⟨w.heap.size + 1, 4, none⟩ = some (iv a4) := BoxAt.cell HF.out 4
      have y5 : wr.cell? ⟨w.heap.size + 1, 5, none⟩ = some (iv a5) := BoxAt.cell HF.out 5
      have y6 : wr.cell? ⟨w.heap.size + 1, 6, none⟩ = some (iv a6) := BoxAt.cell HF.out 6
      have y7 : wr.cell? ⟨w.heap.size + 1, 7, none⟩ = some (iv a7) := BoxAt.cell HF.out 7
      have y8 : wr.cell? ⟨w.heap.size + 1, 8, none⟩ = some (iv a8) := BoxAt.cell HF.out 8
      have y9 : wr.cell? ⟨w.heap.size + 1, 9, none⟩ = some (iv a9) := BoxAt.cell HF.out 9
      have z0 : wr.cell? ⟨w.heap.size, 0, none⟩ = some (iv 0) := HX.out.cell 0
      have f0 := HX.out.frozen 0
      have z1 : wr.cell? ⟨w.heap.size, 1, none⟩ = some (iv 0) := HX.out.cell 1
      have f1 := HX.out.frozen 1
      have z2 : wr.cell? ⟨w.heap.size, 2, none⟩ = some (iv 0) := HX.out.cell 2
      have f2 := HX.out.frozen 2
      have z3 : wr.cell? ⟨w.heap.size, 3, none⟩ = some (iv 0) := HX.out.cell 3
      have f3 := HX.out.frozen 3
      have z4 : wr.cell? ⟨w.heap.size, 4, none⟩ = some (iv 0) := HX.out.cell 4
      have f4 := HX.out.frozen 4
      have z5 : wr.cell? ⟨w.heap.size, 5, none⟩ = some (iv 0) := HX.out.cell 5
      have f5 := HX.out.frozen 5
      have z6 : wr.cell? ⟨w.heap.size, 6, none⟩ = some (iv 0) := HX.out.cell 6
      have f6 := HX.out.frozen 6
      have z7 : wr.cell? ⟨w.heap.size, 7, none⟩ = some (iv 0) := HX.out.cell 7
      have f7 := HX.out.frozen 7
      have z8 : wr.cell? ⟨w.heap.size, 8, none⟩ = some (iv 0) := HX.out.cell 8
      have f8 := HX.out.frozen 8
      have z9 : wr.cell? ⟨w.heap.size, 9, none⟩ = some (iv 0) := HX.out.cell 9
      have f9 := HX.out.frozen 9
      have ly := BoxAt.lt HF.out
      have lz := HX.out.lt
      clear hlk HCa HCs HCi HCl
      go_wp2
      have HZ : Hid (TenAt ((((((((((wr.setCell ⟨w.heap.size, 0, none⟩ (iv a0)).setCell ⟨w.heap.size, 1, none⟩ (iv a1)).setCell ⟨w.heap.size, 2, none⟩ (iv a2)).setCell ⟨w.heap.size, 3, none⟩ (iv a3)).setCell ⟨w.heap.size, 4, none⟩ (iv a4)).setCell ⟨w.heap.size, 5, none⟩ (iv a5)).setCell ⟨w.heap.size, 6, none⟩ (iv a6)).setCell ⟨w.heap.size, 7, none⟩ (iv a7)).setCell ⟨w.heap.size, 8, none⟩ (iv a8)).setCell ⟨w.heap.size, 9, none⟩ (iv a9)) w.heap.size [a0, a1, a2, a3, a4, a5, a6, a7, a8, a9]) := Lib.hid (ten_set (ten_set (ten_set (ten_set (ten_set (ten_set (ten_set (ten_set (ten_set (ten_set (show TenAt wr w.heap.size [0, 0, 0, 0, 0, 0, 0, 0, 0, 0] from HX.out) 0 a0) 1 a1) 2 a2) 3 a3) 4 a4) 5 a5) 6 a6) 7 a7) 8 a8) 9 a9)
      have HBz := Lib.hid (bset (p := ⟨w.heap.size, 9, none⟩) (Nat.le_refl _) (bset (p := ⟨w.heap.size, 8, none⟩) (Nat.le_refl _) (bset (p := ⟨w.heap.size, 7, none⟩) (Nat.le_refl _) (bset (p := ⟨w.heap.size, 6, none⟩) (Nat.le_refl _) (bset (p := ⟨w.heap.size, 5, none⟩) (Nat.le_refl _) (bset (p := ⟨w.heap.size, 4, none⟩) (Nat.le_refl _) (bset (p := ⟨w.heap.size, 3, none⟩) (Nat.le_refl _) (bset (p := ⟨w.heap.size, 2, none⟩) (Nat.le_refl _) (bset (p := ⟨w.heap.size, 1, none⟩) (Nat.le_refl _) (bset (p := ⟨w.heap.size, 0, none⟩) (Nat.le_refl _) HBr.out (iv a0)) (iv a1)) (iv a2)) (iv a3)) (iv a4)) (iv a5)) (iv a6)) (iv a7)) (iv a8)) (iv a9))
      clear y0 y1 y2 y3 y4 y5 y6 y7 y8 y9 z0 z1 z2 z3 z4 z5 z6 z7 z8 z9 f0 f1 f2 f3 f4 f5 f6 f7 f8 f9 ly lz
      generalize (((((((((wr.setCell ⟨w.heap.size, 0, none⟩ (iv a0)).setCell ⟨w.heap.size, 1, none⟩ (iv a1)).setCell ⟨w.heap.size, 2, none⟩ (iv a2)).setCell ⟨w.heap.size, 3, none⟩ (iv a3)).setCell ⟨w.heap.size, 4, none⟩ (iv a4)).setCell ⟨w.heap.size, 5, none⟩ (iv a5)).setCell ⟨w.heap.size, 6, none⟩ (iv a6)).setCell ⟨w.heap.size, 7, none⟩ (iv a7)).setCell ⟨w.heap.size, 8, none⟩ (iv a8)).setCell ⟨w.heap.size, 9, none⟩ (iv a9) = wz at *
      have q0 : wz.cell? ⟨w.heap.size, 0, none⟩ = some (iv a0) := BoxAt.cell HZ.out 0
      have q1 : wz.cell? ⟨w.heap.size, 1, none⟩ = some (iv a1) := BoxAt.cell HZ.out 1
      have q2 : wz.cell? ⟨w.heap.size, 2, none⟩ = some (iv a2) := BoxAt.cell HZ.out 2
      have q3 : wz.cell? ⟨w.heap.size, 3, none⟩ = some (iv a3) := BoxAt.cell HZ.out 3
      have q4 : wz.cell? ⟨w.heap.size, 4, none⟩ = some (iv a4) := BoxAt.cell HZ.out 4
      have q5 : wz.cell? ⟨w.heap.size, 5, none⟩ = some (iv a5) := BoxAt.cell HZ.out 5
      have q6 : wz.cell? ⟨w.heap.size, 6, none⟩ = some (iv a6) := BoxAt.cell HZ.out 6
      have q7 : wz.cell? ⟨w.heap.size, 7, none⟩ = some (iv a7) := BoxAt.cell HZ.out 7
      have q8 : wz.cell? ⟨w.heap.size, 8, none⟩ = some (iv a8) := BoxAt.cell HZ.out 8
      have q9 : wz.cell? ⟨w.heap.size, 9, none⟩ = some (iv a9) := BoxAt.cell HZ.out 9
      exact bodyPost_ret (v := .tuple #[.agg #[iv a0, iv a1, iv a2, iv a3, iv a4, iv a5, iv a6, iv a7, iv a8, iv a9], iv 0]) (by simp [results, Tryd.results61, go_sem, q0, q1, q2, q3, q4, q5, q6, q7, q8, q9]) rfl ⟨by rw [HCe.out]; rfl, HBz.out⟩
end Go.Proofs.YtnpnfdnaglcnfaaDoor
