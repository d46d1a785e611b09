/- Comparing cells, as a sort asks it: what is laid and drawn, to the block. Comparing cells is their order. Sorting a row of cells that the call owns: the same slice owns them in order. -/
import Derived.Test.YtaehfildhmljeaaCmp
import Derived.Deep.RegionHeld3
import Derived.Sort.Grow
import Derived.Test.YtaehfildhmljeaaIdxR
import Derived.Shelf.SlSortCmp.NoneTotal
import Derived.Shelf.Lay
import Derived.Ground.SlsfProg
import Derived.Test.YtaehfildhmljeaaIdxQ
namespace Go.Proofs.Ytaehfildhmljeaa
open Go.RowKit Go.Shelf

theorem grown_three (w : World) (a b c : Obj) : (((w.alloc a).alloc b).alloc c).drew = Go.Sort.grow (w.drewN 1) #[a, b, c] := by
  rw [Go.Sort.alloc_eq_grow, Go.Sort.alloc_eq_grow, Go.Sort.alloc_eq_grow, Go.Sort.grow_grow, Go.Sort.grow_grow]
  rfl
set_option maxRecDepth 100000 in
set_option maxHeartbeats 2000000 in
theorem compare_grown (a b c d : Int) (w : World) : Calls Try.prog 68 #[sp a b, sp c d] w fun e w' => e = .returned (.int .i64 (cmpP (a, b) (c, d))) ∧ ∃ q os, w' = Go.Sort.grow (w.drewN q) os := by
  have HE : Hid (cmpP (a, b) (c, d) = orF (cmpF a c) (cmpF b d)) := Lib.hid rfl
  rw [HE.out]
  have HX := Lib.hid (fun W => cmp_any a c W)
  have HY := Lib.hid (fun W => cmp_any b d W)
  obtain ⟨u, hu⟩ : ∃ u, u = cmpF a c := ⟨_, rfl⟩
  obtain ⟨v, hv⟩ : ∃ v, v = cmpF b d := ⟨_, rfl⟩
  rw [← hu] at HX ⊢
  rw [← hv] at HY ⊢
  clear hu hv HE
  have HG := Lib.hid (grown_three w (.cells #[.int .i64 a, .int .i64 b] 24) (.cells #[.int .i64 c, .int .i64 d] 24) (.cells #[.int .i64 u, .int .i64 v] 3))
  go_enter Try.func68, Try.ntmps68
  go_upto_region 1 with fail
  have ha := (BoxAt.new w 24 #[.int .i64 a, .int .i64 b]).alloc (.cells #[.int .i64 c, .int .i64 d] 24)
  have hb := BoxAt.new (w.alloc (.cells #[.int .i64 a, .int .i64 b] 24)) 24 #[.int .i64 c, .int .i64 d]
  simp only [World.size_alloc] at hb
  obtain ⟨L, hL⟩ : ∃ z, z = w.heap.size := ⟨_, rfl⟩
  have hLL : w.heap.size ≤ L := by omega
  rw [← hL] at ha hb ⊢
  clear hL
  generalize (w.alloc (.cells #[.int .i64 a, .int .i64 b] 24)).alloc (.cells #[.int .i64 c, .int .i64 d] 24) = wx at *
  have p0 : wx.cell? ⟨L, 0, none⟩ = some (.int .i64 a) := ha.cell 0
  have p1 : wx.cell? ⟨L, 1, none⟩ = some (.int .i64 b) := ha.cell 1
  have p2 : wx.cell? ⟨L + 1, 0, none⟩ = some (.int .i64 c) := hb.cell 0
  have p3 : wx.cell? ⟨L + 1, 1, none⟩ = some (.int .i64 d) := hb.cell 1
  have l1 := ha.lt
  have l2 := hb.lt
  clear ha hb
  go_region_held3 (fun W => W.cell? ⟨L, 0, none⟩ = some (.int .i64 a) ∧ W.cell? ⟨L, 1, none⟩ = some (.int .i64 b) ∧ W.cell? ⟨L + 1, 0, none⟩ = some (.int .i64 c) ∧ W.cell? ⟨L + 1, 1, none⟩ = some (.int .i64 d))
    (first | exact ⟨p0, p1, p2, p3⟩ | go_keep)
    (first
      | (go_at_call 106; (with_reducible refine (HX.out _).mono ?_); rintro e w1 ⟨rfl, rfl⟩)
      | (go_at_call 106; (with_reducible refine (HY.out _).mono ?_); rintro e w1 ⟨rfl, rfl⟩)
      | (go_at_call 105; (with_reducible refine (or_any u v _ _ (BoxAt.drew (BoxAt.new wx 3 #[.int .i64 u, .int .i64 v]))).mono ?_); rintro e w1 ⟨rfl, rfl⟩))
  all_goals go_wp2
  all_goals go_ret
  all_goals exact ⟨rfl, 1, _, HG.out⟩
end Go.Proofs.Ytaehfildhmljeaa

namespace Go.Proofs.Ytaehfildhmljeaa
theorem cmpP_bef (x y : Pt) : decide (cmpP x y < 0) = befB x y := by
  rw [Bool.eq_iff_iff, decide_eq_true_eq, bef_iff]
  unfold cmpP orF cmpF
  rcases Int.lt_trichotomy x.1 y.1 with a | a | a
  · rw [if_pos a, if_neg (by decide)]
    omega
  · rw [if_neg (show ¬ x.1 < y.1 by omega), if_neg (show ¬ y.1 < x.1 by omega), if_pos rfl]
    rcases Int.lt_trichotomy x.2 y.2 with b | b | b
    · rw [if_pos b]
      omega
    · rw [if_neg (show ¬ x.2 < y.2 by omega), if_neg (show ¬ y.2 < x.2 by omega)]
      omega
    · rw [if_neg (show ¬ x.2 < y.2 by omega), if_pos b]
      omega
  · rw [if_neg (show ¬ x.1 < y.1 by omega), if_pos a, if_neg (by decide)]
    omega
end Go.Proofs.Ytaehfildhmljeaa

namespace Go.Proofs.Ytaehfildhmljeaa
open Go.Shelf Go.RowKit Go.Lib Go.Sort
shelf_lay_g SlLaysF0.n6 Slsf 6 at Try 67 as Try.sortC

theorem cmpLays68 (blk off size : Nat) (w : World) : CmpLays Try.prog 68 #[] encC 2 cmpP blk off size w := fun _ _ _ _ x y => compare_grown x.1 x.2 y.1 y.2 _
theorem lt_cmp (x y : Pt) : ltOf cmpP x y = befB x y := cmpP_bef x y
theorem swoC : SWO (ltOf cmpP) where
  irrefl x := by rw [lt_cmp, bef_irr]
  trans x y z h1 h2 := by rw [lt_cmp] at *; exact bef_trans h1 h2
  ntrans x y z h1 h2 := by rw [lt_cmp, bef_no] at *; omega
theorem sort_cells (blk off cap : Nat) (d : Array Pt) (w : World) (hH : HoldsK encC 2 w blk off d) (hblk : blk < w.heap.size) (hsz : d.size < 4611686018427387904) :
    Calls Try.prog 67 #[.slice (some ⟨blk, off, none⟩) d.size cap, .func (.func 68) #[] #[]] w fun e w' => e = .returned (.tuple #[]) ∧ ∃ d' n os, PermIn 0 d.size d d' ∧ SortedIn befB 0 d.size d' ∧ w' = sortWorldK encC 2 w blk off n d' os := by
  have eg : ∀ args w, (callFunc 68 args).run Try.prog w = .ok (.enter 68 args) w := enters_of Try.func68 (by kernel_rfl) rfl
  have hcon := AnyQ.slices_SortFunc Try.sortC 2 Try.isAgg24 Try.sizeOf24 encC (fun _ => rfl) (fun x v hv => by simp [encC] at hv; rcases hv with rfl | rfl <;> rfl) cmpP swoC 68 #[] blk off cap d w eg (cmpLays68 blk off d.size w) hH hblk hsz
  have e : ltOf cmpP = befB := by funext x y; exact lt_cmp x y
  rw [e] at hcon
  exact hcon
/-- A row of points that the call owns, sorted. -/
theorem sort_own (w : World) (base : Nat) (v : Value) (d : Array Pt) (hm : d.size ≤ 1000000) (h : w.ownsRow base 24 2 v d.size (ptV d.toList)) :
    Calls Try.prog 67 #[v, .func (.func 68) #[] #[]] w fun e w' => e = .returned (.tuple #[]) ∧ ∃ d' : Array Pt, PermIn 0 d.size d d' ∧ SortedIn befB 0 d.size d' ∧ w'.ownsRow base 24 2 v d.size (ptV d'.toList) ∧ w.grownBy w' v.ownBlock := by
  rcases h.2 with ⟨rfl, h0⟩ | ⟨g, cap, cur, rfl, hg, hb, h1, h2, h3, h4⟩
  · have hcon := AnyF.slices_SortFunc_none { Try.sortC with } none 0 (.func (.func 68) #[] #[]) w
    refine (Calls.mono (show Calls Try.prog 67 #[.slice none 0 0, .func (.func 68) #[] #[]] w _ from hcon) ?_)
    rintro e w' ⟨rfl, rfl⟩
    obtain rfl : d = #[] := Array.eq_empty_of_size_eq_zero h0
    exact ⟨rfl, #[], ⟨rfl, fun _ _ => rfl, List.Perm.refl _⟩, fun i j _ _ hj => absurd hj (by simp), h, rfl, rfl, rfl, Nat.le_refl _, fun _ _ _ => rfl⟩
  · refine (sort_cells g 0 cap d w (holds_row hb h4) (Array.getElem?_eq_some_iff.1 hb).1 (by omega)).mono ?_
    rintro e w' ⟨rfl, d', n, os, hp, hs, rfl⟩
    exact ⟨rfl, d', hp, hs, ownsRow_sortK hp.1 hg hb h1 h2 h3, grownBy_sortK d'⟩
end Go.Proofs.Ytaehfildhmljeaa
