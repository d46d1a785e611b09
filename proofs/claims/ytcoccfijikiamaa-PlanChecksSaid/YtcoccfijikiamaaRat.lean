/- The reference's Act and Tail. -/
import Derived.Test.YtcoccfijikiamaaTl
namespace Go.Proofs.Ytcoccfijikiamaa
open Go.RowKit Go.Shelf

set_option maxRecDepth 100000 in
set_option maxHeartbeats 4000000 in
theorem ract_any (A : Option Addr) (cap : Nat) (L : List Int) (i : Int) (w : World) (hA : NumL w A L) (hl : L.length ≤ 1000000) :
    Calls Try.prog 13 #[pv A L.length cap, iv i] w fun e w' => e = .returned (iv (actF L i)) ∧ Below w.heap.size w w' := by
  obtain ⟨x, hx⟩ : ∃ x, x = actF L i := ⟨_, rfl⟩
  rw [← hx]
  have hB : Below w.heap.size w (w.alloc (.cells #[.slice A L.length cap] 26)) := (Below.refl _ w).alloc (Nat.le_refl _) _
  by_cases h0 : L.length = 0
  · have hx0 : x = 0 := by rw [hx, actF, List.length_eq_zero_iff.1 h0]; rfl
    subst hx0
    rw [h0] at hB ⊢
    clear hx hA
    go_enter Try.func13, Try.ntmps13
    go_wp2
    go_ret
    exact ⟨rfl, hB⟩
  · obtain ⟨j, hj, hjl⟩ : ∃ j : Nat, clp i 0 ((L.length : Int) - 1) = (j : Int) ∧ j < L.length := ⟨(clp i 0 ((L.length : Int) - 1)).toNat, by unfold clp; omega, by unfold clp; omega⟩
    have hxj : L[j]? = some x := by
      rw [hx, actF, hj, Int.toNat_natCast, List.getD_eq_getElem?_getD, List.getElem?_eq_getElem hjl]; rfl
    obtain ⟨b, off, rfl, c1⟩ := (hA.below hB).at hxj
    have l1 := World.block_lt_of_cell? _ _ c1
    have c0 : (w.alloc (.cells #[.slice (some ⟨b, off, none⟩) L.length cap] 26)).cell? ⟨w.heap.size, 0, none⟩ = some (.slice (some ⟨b, off, none⟩) L.length cap) := (BoxAt.new w 26 #[.slice (some ⟨b, off, none⟩) L.length cap]).cell 0
    generalize L.length = N at *
    have j0 : (0 : Int) ≤ (j : Int) := Int.natCast_nonneg _
    have j1 : (j : Int) < (N : Int) := by omega
    have n1 : (0 : Int) < (N : Int) := by omega
    have hw1 : IntKind.i64.wrap ((N : Int) - 1) = (N : Int) - 1 := IntWalk.i64_in _ (by omega)
    have l0 : w.heap.size < (w.alloc (.cells #[.slice (some ⟨b, off, none⟩) N cap] 26)).heap.size := by rw [World.size_alloc]; omega
    have hn0 : ((N : Int) == 0) = false := by simp; omega
    clear hx hxj hA
    have HB := Lib.hid hB
    unfold clp at hj
    clear hB
    go_enter Try.func13, Try.ntmps13
    go_upto_region 1 with fail
    generalize w.alloc (.cells #[.slice (some ⟨b, off, none⟩) N cap] 26) = w0 at *
    rcases (show (i ≤ 0 ∧ N = 1) ∨ (0 < i ∧ N = 1) ∨ (i < 0 ∧ 1 < N) ∨ (i = 0 ∧ 1 < N) ∨ (0 < i ∧ i < (N : Int) - 1) ∨ ((N : Int) - 1 ≤ i ∧ 1 < N) by omega) with ⟨h, rfl⟩ | ⟨h, rfl⟩ | ⟨h, h2⟩ | ⟨rfl, h2⟩ | ⟨h, h2⟩ | ⟨h, h2⟩
    · obtain rfl : j = 0 := by omega
      rw [Nat.add_zero] at c1
      clear hj hw1
      rcases (show i = 0 ∨ i < 0 by omega) with rfl | h3
      · go_wp2
        all_goals go_ret
        all_goals exact ⟨rfl, HB.out⟩
      · have g4 : ¬ 0 < i := by omega
        have g7 : ¬ 0 ≤ i := by omega
        go_wp2
        all_goals go_ret
        all_goals exact ⟨rfl, HB.out⟩
    · obtain rfl : j = 0 := by omega
      rw [Nat.add_zero] at c1
      have g4 : ¬ i < 0 := by omega
      have g5 : ¬ i ≤ 0 := by omega
      clear hj hw1
      go_wp2
      all_goals go_ret
      all_goals exact ⟨rfl, HB.out⟩
    · obtain rfl : j = 0 := by omega
      rw [Nat.add_zero] at c1
      have g1 : i < (N : Int) - 1 := by omega
      have g2 : ¬ (N : Int) - 1 < i := by omega
      have g3 : i ≤ (N : Int) - 1 := by omega
      have g4 : ¬ 0 < i := by omega
      have g6 : ¬ 0 ≤ i := by omega
      clear hj
      go_wp2
      all_goals go_ret
      all_goals exact ⟨rfl, HB.out⟩
    · obtain rfl : j = 0 := by omega
      rw [Nat.add_zero] at c1
      have g1 : (0 : Int) < (N : Int) - 1 := by omega
      have g2 : ¬ (N : Int) - 1 < 0 := by omega
      have g3 : (0 : Int) ≤ (N : Int) - 1 := by omega
      clear hj
      go_wp2
      all_goals go_ret
      all_goals exact ⟨rfl, HB.out⟩
    · obtain rfl : i = (j : Int) := by omega
      have g2 : ¬ (N : Int) - 1 < (j : Int) := by omega
      have g3 : (j : Int) ≤ (N : Int) - 1 := by omega
      have g5 : ¬ (j : Int) ≤ 0 := by omega
      have g6 : 0 < j := by omega
      clear hj
      go_wp2
      all_goals go_ret
      all_goals exact ⟨rfl, HB.out⟩
    · obtain ⟨M, rfl⟩ : ∃ M, N = M + 1 := ⟨N - 1, by omega⟩
      obtain rfl : j = M := by omega
      have g0 : (0 : Int) < (j : Int) := by omega
      have g1 : ¬ i < (j : Int) := by omega
      have g2 : ¬ (j : Int) < 0 := by omega
      have g3 : (j : Int) ≤ i := by omega
      have g6 : ¬ (j : Int) ≤ 0 := by omega
      have g7 : 0 < j := by omega
      clear hj hw1
      rcases (show i = (j : Int) ∨ (j : Int) < i by omega) with rfl | h3
      all_goals go_wp2
      all_goals go_ret
      all_goals exact ⟨rfl, HB.out⟩
set_option maxRecDepth 100000 in
set_option maxHeartbeats 4000000 in
theorem rtail_any (A : Option Addr) (cap : Nat) (L : List Int) (w : World) (hA : NumL w A L) (hn : Nil0 A cap) (hcap : L.length ≤ cap) (hl : L.length ≤ 1000000) :
    Calls Try.prog 16 #[pv A L.length cap] w fun e w' => ∃ v, e = .returned (.agg #[v]) ∧ w'.ownsRow w.heap.size 2 1 v (tailF L).length ((tailF L).map fun x => iv x) ∧ Below w.heap.size w w' := by
  have hb : Below w.heap.size w ((w.alloc (.cells #[.slice A L.length cap] 26)).alloc (.cells #[.slice none 0 0] 26)) := ((Below.refl _ w).alloc (Nat.le_refl _) _).alloc (by simp) _
  have HX := Lib.hid ((BoxAt.new w 26 #[.slice A L.length cap]).alloc (.cells #[.slice none 0 0] 26))
  have HY : Hid (BoxAt ((w.alloc (.cells #[.slice A L.length cap] 26)).alloc (.cells #[.slice none 0 0] 26)) (w.heap.size + 1) 26 #[.slice none 0 0]) := Lib.hid (by
    have h := BoxAt.new (w.alloc (.cells #[.slice A L.length cap] 26)) 26 #[.slice none 0 0]
    rw [World.size_alloc] at h
    exact h)
  have hA2 := hA.below hb
  have hs := size2 w (.cells #[.slice A L.length cap] 26) (.cells #[.slice none 0 0] 26)
  by_cases h1 : 1 < L.length
  · obtain ⟨b, off, rfl, hp⟩ := hA2 (by omega)
    have hA2' : NumL ((w.alloc (.cells #[.slice (some ⟨b, off, none⟩) L.length cap] 26)).alloc (.cells #[.slice none 0 0] 26)) (some ⟨b, off, none⟩) L := hA2
    have hD := nums_drop hA2'
    have htl : tailF L = L.drop 1 := if_pos h1
    rw [htl]
    have hln : (L.drop 1).length = L.length - 1 := List.length_drop
    obtain ⟨v', w', e1, e2, e3⟩ := app_nums _ (w.heap.size + 2) (.slice none 0 0) 0 [] (World.ownsRow_nil _ _ _ _) (some ⟨b, off + 1, none⟩) (cap - 1) (L.drop 1) hD (fun e => by cases e) (by rw [hs]; exact Nat.le_refl _) (by omega)
    obtain ⟨N, hN⟩ : ∃ N, N = L.length := ⟨_, rfl⟩
    rw [hln] at e1 e2
    rw [← hN] at hb HX HY hs hln h1 hcap hl e1 e2 e3 ⊢
    have HR := Lib.hid e1
    have HO : Hid (w'.ownsRow (w.heap.size + 2) 2 1 v' (N - 1) ((L.drop 1).map fun x => iv x)) := Lib.hid (by rw [Nat.zero_add, List.nil_append] at e2; exact e2)
    have hbl := below_of_grown e3
    have HB2 : Hid (Below w.heap.size w w') := Lib.hid (hb.trans (hbl.mono (by rw [hs]; omega)))
    have HY2 := Lib.hid (HY.out.below hbl HY.out.lt)
    have HLn := Lib.hid hln
    have hi1 : (1 : Int) < (N : Int) := by omega
    have hc1 : ¬ cap = 1 := by omega
    have hc2 : 1 ≤ cap := by omega
    have hn1 : 1 ≤ N := by omega
    clear hA hA2 hA2' hp hN hln hD hb htl hn e1 e2 e3 hbl
    go_enter Try.func16, Try.ntmps16
    go_upto_region 1 with fail
    generalize (w.alloc (.cells #[.slice (some ⟨b, off, none⟩) N cap] 26)).alloc (.cells #[.slice none 0 0] 26) = w0 at *
    have x0 : w0.cell? ⟨w.heap.size, 0, none⟩ = some (.slice (some ⟨b, off, none⟩) N cap) := HX.out.cell 0
    have lx := HX.out.lt
    have y0 : w'.cell? ⟨w.heap.size + 1, 0, none⟩ = some (.slice none 0 0) := HY2.out.cell 0
    have fy := HY2.out.frozen 0
    have ly := HY2.out.lt
    obtain ⟨A3, c3, hv3⟩ := own_form HO.out
    subst hv3
    go_wp2_with (at_builtin; refine wpList_app_run rfl _ _ rfl rfl rfl rfl HR.out ?_)
    have hcell : (w'.setCell ⟨w.heap.size + 1, 0, none⟩ (.slice A3 (N - 1) c3)).cell? ⟨w.heap.size + 1, 0, none⟩ = some (.slice A3 (N - 1) c3) := (HY2.out.set 0 _).cell 0
    refine bodyPost_ret (v := .agg #[.slice A3 (N - 1) c3]) (by simp [results, Try.results16, go_sem, hcell]) rfl ?_
    rw [HLn.out]
    exact ⟨_, rfl, own_lower (HO.out.kept (grown_set _ _ _) (Or.inr (fun e2 => by have := (HO.out.lt _ e2).1; omega))) (by omega), HB2.out.setCell (p := ⟨w.heap.size + 1, 0, none⟩) (by simp) _⟩
  · have htl : tailF L = L := if_neg h1
    rw [htl]
    obtain ⟨v', w', e1, e2, e3⟩ := app_nums _ (w.heap.size + 2) (.slice none 0 0) 0 [] (World.ownsRow_nil _ _ _ _) A cap L hA2 hn (by rw [hs]; exact Nat.le_refl _) (by omega)
    obtain ⟨N, hN⟩ : ∃ N, N = L.length := ⟨_, rfl⟩
    rw [← hN] at hb HX HY hs h1 hcap hl e1 e2 e3 ⊢
    have HR := Lib.hid e1
    have HO : Hid (w'.ownsRow (w.heap.size + 2) 2 1 v' N (L.map fun x => iv x)) := Lib.hid (by rw [Nat.zero_add, List.nil_append] at e2; exact e2)
    have hbl := below_of_grown e3
    have HB2 : Hid (Below w.heap.size w w') := Lib.hid (hb.trans (hbl.mono (by rw [hs]; omega)))
    have HY2 := Lib.hid (HY.out.below hbl HY.out.lt)
    have hi1 : ¬ (1 : Int) < (N : Int) := by omega
    clear hA hA2 hN hb htl hn e1 e2 e3 hbl
    go_enter Try.func16, Try.ntmps16
    go_upto_region 1 with fail
    generalize (w.alloc (.cells #[.slice A N cap] 26)).alloc (.cells #[.slice none 0 0] 26) = w0 at *
    have x0 : w0.cell? ⟨w.heap.size, 0, none⟩ = some (.slice A N cap) := HX.out.cell 0
    have lx := HX.out.lt
    have y0 : w'.cell? ⟨w.heap.size + 1, 0, none⟩ = some (.slice none 0 0) := HY2.out.cell 0
    have fy := HY2.out.frozen 0
    have ly := HY2.out.lt
    obtain ⟨A3, c3, hv3⟩ := own_form HO.out
    subst hv3
    go_wp2_with (at_builtin; refine wpList_app_run rfl _ _ rfl rfl rfl rfl HR.out ?_)
    have hcell : (w'.setCell ⟨w.heap.size + 1, 0, none⟩ (.slice A3 N c3)).cell? ⟨w.heap.size + 1, 0, none⟩ = some (.slice A3 N c3) := (HY2.out.set 0 _).cell 0
    refine bodyPost_ret (v := .agg #[.slice A3 N c3]) (by simp [results, Try.results16, go_sem, hcell]) rfl ?_
    exact ⟨_, rfl, own_lower (HO.out.kept (grown_set _ _ _) (Or.inr (fun e2 => by have := (HO.out.lt _ e2).1; omega))) (by omega), HB2.out.setCell (p := ⟨w.heap.size + 1, 0, none⟩) (by simp) _⟩
end Go.Proofs.Ytcoccfijikiamaa
