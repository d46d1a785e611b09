/- Tails: the program's and the reference's. -/
import Derived.Test.YtcoccfijikiamaaCln
namespace Go.Proofs.Ytcoccfijikiamaa
open Go.RowKit Go.Shelf

def tailF (L : List Int) : List Int := if 1 < L.length then L.drop 1 else L
theorem own_lower {w : World} {b b' : Nat} {e : TypeId} {s : Nat} {v : Value} {n : Nat} {xs : List Value} (h : w.ownsRow b e s v n xs) (hb : b' ≤ b) : w.ownsRow b' e s v n xs := by
  refine ⟨h.1, ?_⟩
  rcases h.2 with h | ⟨g, cap, cur, h1, h2, h3⟩
  · exact .inl h
  · exact .inr ⟨g, cap, cur, h1, Nat.le_trans hb h2, h3⟩
theorem NumL.other {w : World} {b off g i : Nat} {u : Value} {L : List Int} (h : NumL w (some ⟨b, off, none⟩) L) (hne : b ≠ g) : NumL (w.setCell ⟨g, i, none⟩ u) (some ⟨b, off, none⟩) L := fun hn => by
  obtain ⟨b', off', e, hp⟩ := h hn
  obtain ⟨rfl, rfl⟩ : b = b' ∧ off = off' := by simpa using e
  refine ⟨b, off, rfl, fun j x hj => ?_⟩
  rw [← hp j x hj]
  unfold World.cell?
  rw [show (w.setCell ⟨g, i, none⟩ u).heap[b]? = w.heap[b]? from Below.heap_setCell w _ u b hne]
theorem size2 (w : World) (o p : Obj) : ((w.alloc o).alloc p).heap.size = w.heap.size + 2 := by rw [World.size_alloc, World.size_alloc]
set_option maxRecDepth 100000 in
set_option maxHeartbeats 4000000 in
theorem tail_any (A : Option Addr) (cap : Nat) (L : List Int) (w : World) (hA : NumL w A L) (hn : Nil0 A cap) (hcap : L.length ≤ cap) (hl : L.length ≤ 1000000) :
    Calls Try.prog 14 #[pv A L.length cap] w fun e w' => ∃ v, e = .returned (.agg #[v]) ∧ w'.ownsRow w.heap.size 2 1 v (tailF L).length ((tailF L).map fun x => iv x) ∧ Below w.heap.size w w' := by
  have hb : Below w.heap.size w ((w.alloc (.cells #[.slice A L.length cap] 26)).alloc (.cells #[.slice none 0 0] 26)) := ((Below.refl _ w).alloc (Nat.le_refl _) _).alloc (by simp) _
  have HX := Lib.hid ((BoxAt.new w 26 #[.slice A L.length cap]).alloc (.cells #[.slice none 0 0] 26))
  have HY : Hid (BoxAt ((w.alloc (.cells #[.slice A L.length cap] 26)).alloc (.cells #[.slice none 0 0] 26)) (w.heap.size + 1) 26 #[.slice none 0 0]) := Lib.hid (by
    have h := BoxAt.new (w.alloc (.cells #[.slice A L.length cap] 26)) 26 #[.slice none 0 0]
    rw [World.size_alloc] at h
    exact h)
  have hA2 := hA.below hb
  have hs := size2 w (.cells #[.slice A L.length cap] 26) (.cells #[.slice none 0 0] 26)
  by_cases h1 : 1 < L.length
  · obtain ⟨b, off, rfl, hp⟩ := hA2 (by omega)
    have hA2' : NumL ((w.alloc (.cells #[.slice (some ⟨b, off, none⟩) L.length cap] 26)).alloc (.cells #[.slice none 0 0] 26)) (some ⟨b, off, none⟩) L := hA2
    have hD := nums_drop hA2'
    have htl : tailF L = L.drop 1 := if_pos h1
    rw [htl]
    have hln : (L.drop 1).length = L.length - 1 := List.length_drop
    obtain ⟨N, hN⟩ : ∃ N, N = L.length := ⟨_, rfl⟩
    rw [← hN] at hb HX HY hs hD hln h1 hcap hl ⊢
    have HB0 := Lib.hid hb
    have HN := Lib.hid hN
    have HLn := Lib.hid hln
    have hbl : b < w.heap.size := by
      obtain ⟨b', o', e, hp'⟩ := hA (by omega)
      obtain ⟨rfl, rfl⟩ : b = b' ∧ off = o' := by simpa using e
      obtain ⟨x, hx, _⟩ := drop_at (L := L) (k := 0) (by omega)
      exact World.block_lt_of_cell? _ _ (hp' 0 x hx)
    have hi1 : (1 : Int) < (N : Int) := by omega
    have hc1 : ¬ cap = 1 := by omega
    have hc2 : 1 ≤ cap := by omega
    have hn1 : 1 ≤ N := by omega
    have HD := Lib.hid hD
    have HS := Lib.hid hs
    clear hA hA2 hA2' hp hN hln hD hs hb htl hn
    go_enter Try.func14, Try.ntmps14
    go_upto_region 1 with fail
    generalize (w.alloc (.cells #[.slice (some ⟨b, off, none⟩) N cap] 26)).alloc (.cells #[.slice none 0 0] 26) = w0 at *
    have x0 : w0.cell? ⟨w.heap.size, 0, none⟩ = some (.slice (some ⟨b, off, none⟩) N cap) := HX.out.cell 0
    have f0 := HX.out.frozen 0
    have lx := HX.out.lt
    go_upto_region 3 with fail
    have HX2 := Lib.hid (HX.out.set 0 (.slice (some ⟨b, off + 1, none⟩) (N - 1) (cap - 1)))
    have HY2 := Lib.hid (HY.out.other (by omega) 0 (.slice (some ⟨b, off + 1, none⟩) (N - 1) (cap - 1)) : BoxAt (w0.setCell ⟨w.heap.size, 0, none⟩ (.slice (some ⟨b, off + 1, none⟩) (N - 1) (cap - 1))) (w.heap.size + 1) 26 #[.slice none 0 0])
    have HD2 := Lib.hid (HD.out.other (g := w.heap.size) (i := 0) (u := .slice (some ⟨b, off + 1, none⟩) (N - 1) (cap - 1)) (by omega))
    have HB2 := Lib.hid (HB0.out.setCell (p := ⟨w.heap.size, 0, none⟩) (Nat.le_refl _) (.slice (some ⟨b, off + 1, none⟩) (N - 1) (cap - 1)))
    have hs2 : (w0.setCell ⟨w.heap.size, 0, none⟩ (.slice (some ⟨b, off + 1, none⟩) (N - 1) (cap - 1))).heap.size = w.heap.size + 2 := by simp [HS.out]
    clear x0 f0 lx
    generalize w0.setCell ⟨w.heap.size, 0, none⟩ (.slice (some ⟨b, off + 1, none⟩) (N - 1) (cap - 1)) = w1 at *
    have x0 : w1.cell? ⟨w.heap.size, 0, none⟩ = some (.slice (some ⟨b, off + 1, none⟩) (N - 1) (cap - 1)) := HX2.out.cell 0
    have lx := HX2.out.lt
    have HCl := Lib.hid (clone_any (some ⟨b, off + 1, none⟩) (cap - 1) (L.drop 1) w1 HD2.out (fun e => by cases e) (by rw [HLn.out]; omega))
    rw [HLn.out] at HCl
    have HS2 := Lib.hid hs2
    clear hs2
    go_wp2_with (go_at_call 32; (with_reducible refine HCl.out.mono ?_); rintro e w2 ⟨v, rfl, ho2, hb2⟩; have hy2 := HY2.out.below hb2 HY2.out.lt; have y0 : w2.cell? ⟨w.heap.size + 1, 0, none⟩ = some (.slice none 0 0) := hy2.cell 0; have fy := hy2.frozen 0; have ly := hy2.lt; obtain ⟨A3, c3, hv3⟩ := own_form ho2; subst hv3)
    have hcell : (w2.setCell ⟨w.heap.size + 1, 0, none⟩ (.slice A3 (N - 1) c3)).cell? ⟨w.heap.size + 1, 0, none⟩ = some (.slice A3 (N - 1) c3) := (hy2.set 0 _).cell 0
    refine bodyPost_ret (v := .agg #[.slice A3 (N - 1) c3]) (by simp [results, Try.results14, go_sem, hcell]) rfl ?_
    rw [HLn.out]
    exact ⟨_, rfl, own_lower (ho2.kept (grown_set _ _ _) (Or.inr (fun e2 => by have := (ho2.lt _ e2).1; have := HS2.out; omega))) (by have := HS2.out; omega), (HB2.out.trans (hb2.mono (by have := HS2.out; omega))).setCell (p := ⟨w.heap.size + 1, 0, none⟩) (by simp) _⟩
  · have htl : tailF L = L := if_neg h1
    rw [htl]
    obtain ⟨N, hN⟩ : ∃ N, N = L.length := ⟨_, rfl⟩
    have HCl := Lib.hid (clone_any A cap L _ hA2 hn hl)
    rw [← hN] at hb HX HY hs h1 hcap hl HCl ⊢
    have HB0 := Lib.hid hb
    have HS := Lib.hid hs
    have hi1 : ¬ (1 : Int) < (N : Int) := by omega
    clear hA hA2 hN hs hb htl hn
    go_enter Try.func14, Try.ntmps14
    go_upto_region 1 with fail
    generalize (w.alloc (.cells #[.slice A N cap] 26)).alloc (.cells #[.slice none 0 0] 26) = w0 at *
    have x0 : w0.cell? ⟨w.heap.size, 0, none⟩ = some (.slice A N cap) := HX.out.cell 0
    have lx := HX.out.lt
    go_wp2_with (go_at_call 32; (with_reducible refine HCl.out.mono ?_); rintro e w2 ⟨v, rfl, ho2, hb2⟩; have hy2 := HY.out.below hb2 HY.out.lt; have y0 : w2.cell? ⟨w.heap.size + 1, 0, none⟩ = some (.slice none 0 0) := hy2.cell 0; have fy := hy2.frozen 0; have ly := hy2.lt; obtain ⟨A3, c3, hv3⟩ := own_form ho2; subst hv3)
    have hcell : (w2.setCell ⟨w.heap.size + 1, 0, none⟩ (.slice A3 N c3)).cell? ⟨w.heap.size + 1, 0, none⟩ = some (.slice A3 N c3) := (hy2.set 0 _).cell 0
    refine bodyPost_ret (v := .agg #[.slice A3 N c3]) (by simp [results, Try.results14, go_sem, hcell]) rfl ?_
    exact ⟨_, rfl, own_lower (ho2.kept (grown_set _ _ _) (Or.inr (fun e2 => by have := (ho2.lt _ e2).1; have := HS.out; omega))) (by have := HS.out; omega), (HB0.out.trans (hb2.mono (by have := HS.out; omega))).setCell (p := ⟨w.heap.size + 1, 0, none⟩) (by simp) _⟩
end Go.Proofs.Ytcoccfijikiamaa
