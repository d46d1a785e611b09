/- read: the nodes of a text that is one. -/
import Derived.Test.YtnpnfdnaglcnfaaDoorRd
import Derived.WalkMore
namespace Go.Proofs.YtnpnfdnaglcnfaaDoor
open Go.RowKit Go.Shelf

/-- A text, word by word: N nodes, the node j begins with the word q j, its operator is op j, its numbers x j. -/
structure Txt (s : ByteArray) (N : Nat) (q : Nat → Nat) (op : Nat → Nat) (x : Nat → Nat → Int) : Prop where
  pos : 0 < N
  le : N ≤ 40
  q0 : q 0 = 0
  qs : ∀ j, j < N → q (j + 1) = q j + 1 + cntN (op j)
  sz : ∀ p, (rst s p).size ≤ 1000 ∧ (cutH (rst s p)).size ≤ 1000
  o1 : ∀ j, j < N → 1 ≤ op j ∧ op j ≤ 8
  wd : ∀ j, j < N → wdB (op j) = cutH (rst s (q j))
  wn : ∀ j, j < N → ∀ i : Nat, 1 ≤ i → i < op j → ((wdB i).toList == (cutH (rst s (q j))).toList) = false
  num : ∀ j, j < N → ∀ i, i < cntN (op j) → Lib.parseIntB 64 (cutH (rst s (q j + 1 + i))).data.toList = .ok (x j i)
  bd : ∀ j, j < N → ∀ i, i < cntN (op j) → -1000000000000000000 < x j i ∧ x j i < 1000000000000000000
  wr : ∀ j, j < N → ∀ i, i < cntN (op j) → (⟨(Lib.itoa (x j i)).toArray⟩ : ByteArray) = cutH (rst s (q j + 1 + i))
  mo : ∀ j, j < N → cutM (rst s (q j + cntN (op j))) = decide (j + 1 < N)
def ndsT (op : Nat → Nat) (x : Nat → Nat → Int) (N : Nat) : List Nd := (List.range N).map fun j => nodeF (op j) (x j)
theorem ndsT_len (op : Nat → Nat) (x : Nat → Nat → Int) (N : Nat) : (ndsT op x N).length = N := by simp [ndsT]
theorem ndsT_succ (op : Nat → Nat) (x : Nat → Nat → Int) (N : Nat) : ndsT op x (N + 1) = ndsT op x N ++ [nodeF (op N) (x N)] := by unfold ndsT; rw [List.range_succ, List.map_append]; rfl

theorem row_ne_box' {W : World} {base e size q t : Nat} {v : Value} {k : Nat} {xs : List Value} {cs : Array Value} (h : W.ownsRow base e size v k xs) (hb : BoxAt W q t cs) (ht : e ≠ t) : v.ownBlock ≠ some q := fun e' => by
  obtain ⟨_, cur, h2⟩ := row_cells h e'
  have e3 := (show W.heap[q]? = _ from hb).symm.trans h2
  cases e3
  exact ht rfl
theorem cntN_le (o : Int) : cntN o ≤ 3 := by
  unfold cntN
  split
  · omega
  · split <;> omega
/-- A slice's length. -/
def lenV : Value → Nat
  | .slice _ n _ => n
  | _ => 0
set_option maxRecDepth 100000 in
set_option maxHeartbeats 8000000 in
theorem read_ok (s : ByteArray) (N : Nat) (q : Nat → Nat) (op : Nat → Nat) (x : Nat → Nat → Int) (ht : Txt s N q op x) (w : World) (hE : Env w) :
    Calls Tryd.prog 67 #[.string s] w fun e w' => ∃ A c, e = .returned (.tuple #[.slice A N c, .bool true]) ∧ NdsL w' A (ndsT op x N) ∧ Below w.heap.size w w' := by
  have HE := Lib.hid (fun W (h : Below w.heap.size w W) => hE.below h)
  have hN := ht.le
  have hN0 := ht.pos
  have HT := Lib.hid ht
  clear ht hE
  obtain ⟨i0_, hi0, hz0, hz1, hz2⟩ := info_parts inf61
  have HI0 := Lib.hid hi0
  have HZ0 := Lib.hid hz0
  have HZ1 := Lib.hid hz1
  have HZ2 := Lib.hid hz2
  obtain ⟨B, hB⟩ : ∃ B, B = w.heap.size := ⟨_, rfl⟩
  have HBw := Lib.hid hB
  clear hi0 hz0 hz1 hz2 hB
  go_enter Tryd.func67, Tryd.ntmps67
  go_wp2
  go_step3
  go_wp2
  go_step3
  go_wp2
  go_loopw [0, 4, 5] (fun sv fv wv wr => ∃ j : Nat, j ≤ N ∧ Hid (j < N → sv = .string (rst s (q j))) ∧ wv = .bool (decide (¬ j < N)) ∧ Hid (wr.ownsRow B 61 6 fv j (ndC (ndsT op x j))) ∧ Hid (Below w.heap.size w wr)) (fun sv fv wv _ => N - lenV fv)
  case atStart =>
    refine ⟨0, Nat.zero_le _, Lib.hid (fun _ => by rw [HT.out.q0]; rfl), by simp [hN0], Lib.hid (World.ownsRow_nil _ _ _ _), Lib.hid (Below.refl _ _)⟩
  case round =>
    obtain ⟨j, hj, HS, rfl, HO, HB⟩ := hrel
    obtain ⟨Af, cf, hfv⟩ := own_form HO.out
    subst hfv
    by_cases hlt : j < N
    · have hsv := HS.out hlt
      subst hsv
      have hdec : decide (¬ j < N) = false := by simp [hlt]
      rw [hdec]
      obtain ⟨o, ho⟩ : ∃ o, o = op j := ⟨_, rfl⟩
      obtain ⟨ho1, ho8⟩ := HT.out.o1 j hlt
      have HC0 := Lib.hid (cut_ok (rst s (q j)) (HT.out.sz (q j)).1 wr (HE.out _ HB.out))
      have HOp := Lib.hid (fun W => oper_ok (cutH (rst s (q j))) (op j) ho1 ho8 (HT.out.wd j hlt) (fun i h1 h2 => HT.out.wn j hlt i h1 h2) W)
      have HFg := Lib.hid (fun W => fig_any (op j) (by omega) (by omega) W)
      have HNd := Lib.hid (fun Ag g W h => node_all (op j) (by omega) (by omega) Ag g (x j) W h)
      have HNum := Lib.hid (fun i W (hi : i < cntN (op j)) (h : Env W) => num_ok (cutH (rst s (q j + 1 + i))) (x j i) (HT.out.sz _).2 (HT.out.num j hlt i hi) (HT.out.bd j hlt i hi).1 (HT.out.bd j hlt i hi).2 (HT.out.wr j hlt i hi) W h)
      have HCi := Lib.hid (fun i W (h : Env W) => cut_ok (rst s (q j + 1 + i)) (HT.out.sz (q j + 1 + i)).1 W h)
      have HMo := Lib.hid (HT.out.mo j hlt)
      have HQ := Lib.hid (HT.out.qs j hlt)
      have HNs := Lib.hid (ndsT_succ op x j)
      rw [← ho] at HOp HFg HNd HNum HMo HQ ho1 ho8 HNs
      have o1 : ¬ (o : Int) = 0 := by omega
      clear hdec HS
      generalize hc : cntN o = c at *
      generalize x j = xj at *
      have hc3 : c ≤ 3 := by rw [← hc]; exact cntN_le _
      have HC := Lib.hid hc
      have HOo := Lib.hid ho
      clear hc ho
      have HRs : Hid (∀ i, cutR (rst s (q j + 1 + i)) = rst s (q j + 1 + (i + 1))) := Lib.hid (fun i => rfl)
      have HR0 : Hid (cutR (rst s (q j)) = rst s (q j + 1 + 0)) := Lib.hid rfl
      go_upto_region 8 with (first
        | (go_at_call 94; (with_reducible refine HC0.out.mono ?_); rintro e w1 ⟨rfl, hb1⟩; have HB1 := Lib.hid (below_step HB.out hb1))
        | (go_at_call 95; (with_reducible refine (HOp.out _).mono ?_); rintro e w2 ⟨rfl, hw⟩; obtain rfl := hw.symm)
        | (go_at_call 64; (with_reducible refine (HFg.out _).mono ?_); rintro e w3 ⟨Ag, g, rfl, hrow, hgg, hb3⟩))
      have HB3 := Lib.hid (below_step HB1.out hb3)
      have HO3 := Lib.hid (HO.out.kept (grown_of_below (below_step (below_step (Below.refl wr.heap.size wr) hb1) hb3)) (Classical.em _))
      have HRow : Hid (0 < c → Ag = some ⟨g, 0, none⟩ ∧ Row2 w3 g c (fun k => if k < 0 then xj k else 0)) := Lib.hid (fun h => ⟨(hrow h).1, (hrow h).2.ext fun k _ => by simp⟩)
      have hwg : w.heap.size ≤ g := by have h1 := HB1.out.size; omega
      clear hrow hb1 hb3 hgg HB1 HB HO HC0 HOp HFg
      go_wp2
      go_loopw [7, 8, 30] (fun rv mv iv' wr => ∃ i : Nat, i ≤ c ∧ iv' = iv i ∧ Hid (rv = .string (rst s (q j + 1 + i))) ∧ Hid (mv = .bool (cutM (rst s (q j + i)))) ∧ Hid (0 < c → Ag = some ⟨g, 0, none⟩ ∧ Row2 wr g c (fun k => if k < i then xj k else 0)) ∧ Hid (wr.ownsRow B 61 6 (.slice Af j cf) j (ndC (ndsT op x j))) ∧ Hid (Below w.heap.size w wr)) (fun _ _ iv' _ => c - (intOf iv').toNat)
      case atStart => exact ⟨0, Nat.zero_le _, rfl, Lib.hid (by rw [HR0.out]), Lib.hid rfl, HRow, HO3, HB3⟩
      case round =>
        obtain ⟨i, hi, rfl, HRv, HMv, HRw, HOw, HBw2⟩ := hrel
        have i0 : (0 : Int) ≤ (i : Int) := Int.natCast_nonneg _
        have hrv := HRv.out
        have hmv := HMv.out
        subst hrv
        subst hmv
        by_cases hic : i < c
        · have i1 : (i : Int) < (c : Int) := by omega
          obtain ⟨hag, hr2⟩ := HRw.out (by omega)
          subst hag
          have HRR := Lib.hid hr2
          have hrs := HRs.out i
          clear hr2
          go_wp2_with (first
            | (go_at_call 94; (with_reducible refine (HCi.out i _ (HE.out _ HBw2.out)).mono ?_); rintro e w5 ⟨rfl, hb5⟩; have HB5 := Lib.hid hb5; have HB5w := Lib.hid (below_step HBw2.out hb5))
            | (go_at_call 96; (with_reducible refine (HNum.out i _ hic (HE.out _ HB5w.out)).mono ?_); rintro e w6 ⟨rfl, hb6⟩; have HB6 := Lib.hid (below_step HB5.out hb6); have HB6w := Lib.hid (below_step HB5w.out hb6); have HR6 : Hid (Row2 w6 g c (fun k => if k < i then xj k else 0)) := Lib.hid (box_step HRR.out HB6.out); have f6 : w6.frozen? ⟨g, i, none⟩ = false := BoxAt.frozen HR6.out i; have l6 := BoxAt.lt HR6.out; have c6 : w6.cell? ⟨g, i, none⟩ = some (iv 0) := (BoxAt.cell HR6.out i).trans (by simp [hic])))
          have HO6 := HOw.out.kept (grown_of_below HB6.out) (Classical.em _)
          refine ⟨⟨i + 1, by omega, by go_num, Lib.hid rfl, Lib.hid (by rw [show q j + (i + 1) = q j + 1 + i from by omega]), Lib.hid (fun _ => ⟨trivial, (HR6.out.set i (xj i)).ext fun k _ => ?_⟩), Lib.hid (HO6.kept (grownBy_set w6 g i _) (.inr (row_ne_box' HO6 HR6.out (by decide)))), Lib.hid (HB6w.out.setCell (p := ⟨g, i, none⟩) hwg _)⟩, by simp [intOf]; omega⟩
          by_cases hk : k = i
          · subst hk
            rw [if_pos rfl, if_pos (by omega)]
          · rw [if_neg hk]
            by_cases hk2 : k < i
            · rw [if_pos hk2, if_pos (by omega)]
            · rw [if_neg hk2, if_neg (by omega)]
        · obtain rfl : i = c := by omega
          have i1 : ¬ (i : Int) < (i : Int) := by omega
          have j40 : (j : Int) ≤ 40 := by omega
          have j0 : (0 : Int) ≤ (j : Int) := Int.natCast_nonneg _
          have HNd2 := Lib.hid (HNd.out Ag g wr (fun h => ⟨(HRw.out h).1, (HRw.out h).2.ext fun k hk => by rw [if_pos hk]⟩))
          have hq := HQ.out
          have hmo := HMo.out
          rw [hmo]
          generalize nodeF o xj = nn at *
          obtain ⟨nop, nl, nr, nk, nlo, nhi⟩ := nn
          have hBw : B ≤ wr.heap.size := by have h1 := HBw2.out.size; have h2 := HBw.out; omega
          clear hmo
          go_wp2_with (first
            | (go_at_call 97; (with_reducible refine HNd2.out.mono ?_); rintro e w7 ⟨rfl, hb7⟩; have HB7 := Lib.hid hb7; have HO7 := Lib.hid (HOw.out.kept (grown_of_below hb7) (Classical.em _)))
            | (at_builtin; refine wpList_append_lies _ rfl _ _ 22 rfl B 61 i0_ _ 6 48 Tryd.underlying22 HI0.out HZ0.out HZ1.out HZ2.out rfl (by decide) (.slice Af j cf) j (ndC (ndsT op x j)) rfl (HO7.out.alloc _) ⟨w7.heap.size, 0, none⟩ 1 1 [iv nop, iv nl, iv nr, iv nk, iv nlo, iv nhi] rfl rfl (World.news_of_block (cs := #[iv nop, iv nl, iv nr, iv nk, iv nlo, iv nhi]) (t := 61) (fr := (0, 0)) (World.alloc_heap_new w7 _)) (by simp [Value.oneCell']) (by decide) (by unfold maxLen; omega) (by omega) (by have := HB7.out.size; simp; omega) _ rfl ?_; intro gg cap1 w8 hown8 hgrow hat hlt8))
          refine ⟨⟨j + 1, by omega, Lib.hid (fun _ => by rw [hq]), by rw [decide_not], Lib.hid (by rw [HNs.out, ndC_snoc]; exact hown8), Lib.hid (((below_step HBw2.out HB7.out).alloc (below_step HBw2.out HB7.out).size _).grown hgrow (by have := (below_step HBw2.out HB7.out).size; rw [World.size_alloc]; omega) (fun k e => by have h1 := (HO7.out.lt k e).1; have h2 := HBw.out; omega))⟩, by simp [lenV]; omega⟩
    · obtain rfl : j = N := by omega
      have hdec : decide (¬ j < j) = true := by simp
      rw [hdec]
      clear hdec
      go_wp2
      rw [Exit.noGoto_ret]
      refine bodyPost_ret (v := .tuple #[.slice Af j cf, .bool true]) (by simp [results, Tryd.results67, go_sem]) rfl ⟨_, _, rfl, ?_, HB.out⟩
      have hl := ndsT_len op x j
      have h := HO.out
      have h3 : wr.ownsRow B 61 6 (.slice Af (ndsT op x j).length cf) (ndsT op x j).length (ndC (ndsT op x j)) := by rw [hl]; exact h
      exact nds_own h3
end Go.Proofs.YtnpnfdnaglcnfaaDoor
