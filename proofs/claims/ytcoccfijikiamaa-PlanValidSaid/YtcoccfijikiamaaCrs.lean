/- The course of a plan: its memory; do. -/
import Derived.Test.YtcoccfijikiamaaRmp
namespace Go.Proofs.Ytcoccfijikiamaa
open Go.RowKit Go.Shelf

/-- A course that lies in a block: the car, the acts so far, the last one, the speed. -/
structure Crs (w : World) (g : Nat) (c : Car) (L : List Int) (a v : Int) : Prop where
  lies : ∃ sv, BoxAt w g 58 #[iv c.len, iv c.acc, iv c.brk, iv c.rate, iv c.del, sv, iv a, iv v] ∧ w.ownsRow (g + 1) 2 1 sv L.length (L.map fun x => iv x)
theorem Crs.lt {w : World} {g : Nat} {c : Car} {L : List Int} {a v : Int} (h : Crs w g c L a v) : g < w.heap.size := by
  obtain ⟨sv, h1, _⟩ := h.lies
  exact h1.lt
theorem Crs.below {w w' : World} {g : Nat} {c : Car} {L : List Int} {a v : Int} (h : Crs w g c L a v) (hb : Below w.heap.size w w') : Crs w' g c L a v := by
  obtain ⟨sv, h1, h2⟩ := h.lies
  exact ⟨sv, h1.below hb h1.lt, h2.kept (grown_of_below hb) (Classical.em _)⟩

set_option maxRecDepth 100000 in
set_option maxHeartbeats 4000000 in
theorem do_any (g : Nat) (c : Car) (L : List Int) (a v x : Int) (w : World) (h : Crs w g c L a v) (hL : L.length ≤ 1000000) (hv : I64 v) (hx : I64 x) :
    Calls Try.prog 38 #[.pointer (some ⟨g, 0, none⟩), iv x] w fun e w' => e = .returned (.tuple #[]) ∧ Crs w' g c (L ++ [x]) x (fst' v x) ∧ Below g w w' := by
  obtain ⟨i1_, hj0, hy0, hy1, hy2⟩ := info_parts inf2
  have HJ0 := Lib.hid hj0
  have HY0 := Lib.hid hy0
  have HY1 := Lib.hid hy1
  have HY2 := Lib.hid hy2
  have HF := Lib.hid (fun W => faster_any v x W hv hx)
  obtain ⟨sv, hb, hr⟩ := h.lies
  obtain ⟨Ao, co, hov⟩ := own_form hr
  subst hov
  have hg := hb.lt
  have c5 : w.cell? ⟨g, 5, none⟩ = some (.slice Ao L.length co) := hb.cell 5
  have f5 := hb.frozen 5
  have HBx := Lib.hid hb
  have HRA := Lib.hid (hr.alloc (.cells #[iv x] 2))
  obtain ⟨N, hN⟩ : ∃ N, N = L.length := ⟨_, rfl⟩
  rw [← hN] at hL c5 HBx HRA
  have HN := Lib.hid hN
  clear hj0 hy0 hy1 hy2 h hb hr hN hv hx
  go_enter Try.func38, Try.ntmps38
  go_upto_region 1 with (at_builtin; refine wpList_append_lies _ rfl _ _ 24 rfl (g + 1) 2 i1_ _ 1 8 Try.underlying24 HJ0.out HY0.out HY1.out HY2.out rfl (by decide) (.slice Ao N co) N (L.map fun x => iv x) rfl HRA.out ⟨w.heap.size, 0, none⟩ 1 1 [iv x] rfl rfl (World.news_of_block (cs := #[iv x]) (t := 2) (fr := (0, 0)) (World.alloc_heap_new w (.cells #[iv x] 2))) (by simp [Value.oneCell']) (by decide) (by unfold maxLen; omega) (by omega) (by simp; omega) _ rfl ?_; intro gg cap1 w8 hown8 hgrow hat hlt8; have HB8 : Hid (Below g w w8) := Lib.hid ((((Below.refl g w).alloc (by omega) _)).grown hgrow (by simp; omega) (fun j e => by have := (HRA.out.lt j e).1; omega)); have HX8 := Lib.hid ((HBx.out.alloc (.cells #[iv x] 2)).grown hgrow (fun e => by have := (HRA.out.lt g e.symm).1; omega)); have c8 := HX8.out.cell 5; have f8 := HX8.out.frozen 5; have l8 := HX8.out.lt)
  have hgg : g + 1 ≤ gg := (hown8.lt gg rfl).1
  have HX9 : Hid (BoxAt (w8.setCell ⟨g, 5, none⟩ (.slice (some ⟨gg, 0, none⟩) (N + 1) cap1)) g 58 #[iv c.len, iv c.acc, iv c.brk, iv c.rate, iv c.del, .slice (some ⟨gg, 0, none⟩) (N + 1) cap1, iv a, iv v]) := Lib.hid (HX8.out.set 5 _)
  have HR9 : Hid ((w8.setCell ⟨g, 5, none⟩ (.slice (some ⟨gg, 0, none⟩) (N + 1) cap1)).ownsRow (g + 1) 2 1 (.slice (some ⟨gg, 0, none⟩) (N + 1) cap1) (N + 1) ((L ++ [x]).map fun x => iv x)) := Lib.hid (by
    rw [List.map_append]
    exact hown8.kept (grown_set _ _ _) (Or.inr (by simp [Value.ownBlock]; omega)))
  have HB9 : Hid (Below g w (w8.setCell ⟨g, 5, none⟩ (.slice (some ⟨gg, 0, none⟩) (N + 1) cap1))) := Lib.hid (HB8.out.setCell (Nat.le_refl _) _)
  clear HX8 hown8 HB8 hgrow hat c8 f8 l8 c5 f5 hlt8 HRA HBx hg
  generalize w8.setCell ⟨g, 5, none⟩ (.slice (some ⟨gg, 0, none⟩) (N + 1) cap1) = w9 at *
  have d7 : w9.cell? ⟨g, 7, none⟩ = some (iv v) := HX9.out.cell 7
  have d6 : w9.cell? ⟨g, 6, none⟩ = some (iv a) := HX9.out.cell 6
  have e7 := HX9.out.frozen 7
  have e6 := HX9.out.frozen 6
  have l9 := HX9.out.lt
  go_wp2_with (go_at_call 36; (with_reducible refine (HF.out _).mono ?_); rintro e w1 ⟨rfl, hw⟩; obtain rfl := hw.symm)
  go_end0
  refine ⟨rfl, ⟨.slice (some ⟨gg, 0, none⟩) (N + 1) cap1, (HX9.out.set 6 (iv x)).set 7 (iv (fst' v x)), ?_⟩, ((HB9.out.setCell (p := ⟨g, 6, none⟩) (Nat.le_refl _) _).setCell (p := ⟨g, 7, none⟩) (Nat.le_refl _) _)⟩
  rw [List.length_append, ← HN.out]
  exact (HR9.out.kept (grown_set _ _ _) (Or.inr (by simp [Value.ownBlock]; omega))).kept (grown_set _ _ _) (Or.inr (by simp [Value.ownBlock]; omega))
end Go.Proofs.Ytcoccfijikiamaa
