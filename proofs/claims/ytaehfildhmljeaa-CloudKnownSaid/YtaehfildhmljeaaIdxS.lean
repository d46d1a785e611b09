/- Comparing cells, as a sort asks it: what is laid and drawn, to the block. Comparing cells is their order. Sorting a row of cells that the call owns: the same slice owns them in order. -/
import Derived.Test.YtaehfildhmljeaaCmp3
import Derived.Deep.RegionHeld3
import Derived.Sort.Grow
import Derived.Test.YtaehfildhmljeaaIdxR
import Derived.Shelf.SlSortCmp.NoneTotal
import Derived.Ground.SlsfProg
import Derived.Test.YtaehfildhmljeaaIdxQ
namespace Go.Proofs.Ytaehfildhmljeaa
open Go.RowKit Go.Shelf

theorem grown_three (w : World) (a b c : Obj) : (((w.alloc a).alloc b).alloc c).drew = Go.Sort.grow (w.drewN 1) #[a, b, c] := by
  rw [Go.Sort.alloc_eq_grow, Go.Sort.alloc_eq_grow, Go.Sort.alloc_eq_grow, Go.Sort.grow_grow, Go.Sort.grow_grow]
  rfl
set_option maxRecDepth 100000 in
set_option maxHeartbeats 2000000 in
theorem compare_grown (a b c d : Int) (w : World) : Calls Try.prog 68 #[sp a b, sp c d] w fun e w' => e = .returned (.int .i64 (cmpP (a, b) (c, d))) ∧ ∃ q os, w' = Go.Sort.grow (w.drewN q) os := by
  have HE : Hid (cmpP (a, b) (c, d) = orF (cmpF a c) (cmpF b d)) := Lib.hid rfl
  rw [HE.out]
  have HX := Lib.hid (fun W => cmp_any a c W)
  have HY := Lib.hid (fun W => cmp_any b d W)
  obtain ⟨u, hu⟩ : ∃ u, u = cmpF a c := ⟨_, rfl⟩
  obtain ⟨v, hv⟩ : ∃ v, v = cmpF b d := ⟨_, rfl⟩
  rw [← hu] at HX ⊢
  rw [← hv] at HY ⊢
  clear hu hv HE
  have HG := Lib.hid (grown_three w (.cells #[.int .i64 a, .int .i64 b] 24) (.cells #[.int .i64 c, .int .i64 d] 24) (.cells #[.int .i64 u, .int .i64 v] 3))
  go_enter Try.func68, Try.ntmps68
  go_upto_region 1 with fail
  have ha := (BoxAt.new w 24 #[.int .i64 a, .int .i64 b]).alloc (.cells #[.int .i64 c, .int .i64 d] 24)
  have hb := BoxAt.new (w.alloc (.cells #[.int .i64 a, .int .i64 b] 24)) 24 #[.int .i64 c, .int .i64 d]
  simp only [World.size_alloc] at hb
  obtain ⟨L, hL⟩ : ∃ z, z = w.heap.size := ⟨_, rfl⟩
  have hLL : w.heap.size ≤ L := by omega
  rw [← hL] at ha hb ⊢
  clear hL
  generalize (w.alloc (.cells #[.int .i64 a, .int .i64 b] 24)).alloc (.cells #[.int .i64 c, .int .i64 d] 24) = wx at *
  have p0 : wx.cell? ⟨L, 0, none⟩ = some (.int .i64 a) := ha.cell 0
  have p1 : wx.cell? ⟨L, 1, none⟩ = some (.int .i64 b) := ha.cell 1
  have p2 : wx.cell? ⟨L + 1, 0, none⟩ = some (.int .i64 c) := hb.cell 0
  have p3 : wx.cell? ⟨L + 1, 1, none⟩ = some (.int .i64 d) := hb.cell 1
  have l1 := ha.lt
  have l2 := hb.lt
  clear ha hb
  go_region_held3 (fun W => W.cell? ⟨L, 0, none⟩ = some (.int .i64 a) ∧ W.cell? ⟨L, 1, none⟩ = some (.int .i64 b) ∧ W.cell? ⟨L + 1, 0, none⟩ = some (.int .i64 c) ∧ W.cell? ⟨L + 1, 1, none⟩ = some (.int .i64 d))
    (first | exact ⟨p0, p1, p2, p3⟩ | go_keep)
    (first
      | (go_at_call 106; (with_reducible refine (HX.out _).mono ?_); rintro e w1 ⟨rfl, rfl⟩)
      | (go_at_call 106; (with_reducible refine (HY.out _).mono ?_); rintro e w1 ⟨rfl, rfl⟩)
      | (go_at_call 105; (with_reducible refine (or_any u v _ _ (BoxAt.drew (BoxAt.new wx 3 #[.int .i64 u, .int .i64 v]))).mono ?_); rintro e w1 ⟨rfl, rfl⟩))
  all_goals go_wp2
  all_goals go_ret
  all_goals exact ⟨rfl, 1, _, HG.out⟩
end Go.Proofs.Ytaehfildhmljeaa

namespace Go.Proofs.Ytaehfildhmljeaa
theorem cmpP_bef (x y : Pt) : decide (cmpP x y < 0) = befB x y := by
  rw [Bool.eq_iff_iff, decide_eq_true_eq, bef_iff]
  unfold cmpP orF cmpF
  rcases Int.lt_trichotomy x.1 y.1 with a | a | a
  · rw [if_pos a, if_neg (by decide)]
    omega
  · rw [if_neg (show ¬ x.1 < y.1 by omega), if_neg (show ¬ y.1 < x.1 by omega), if_pos rfl]
    rcases Int.lt_trichotomy x.2 y.2 with b | b | b
    · rw [if_pos b]
      omega
    · rw [if_neg (show ¬ x.2 < y.2 by omega), if_neg (show ¬ y.2 < x.2 by omega)]
      omega
    · rw [if_neg (show ¬ x.2 < y.2 by omega), if_pos b]
      omega
  · rw [if_neg (show ¬ x.1 < y.1 by omega), if_pos a, if_neg (by decide)]
    omega
end Go.Proofs.Ytaehfildhmljeaa

namespace Go.Proofs.Ytaehfildhmljeaa
open Go.Shelf Go.RowKit Go.Lib Go.Sort
def Try.sortC_ren : Go.Shelf.Ren := ⟨fun | 6 => 67 | 15 => 104 | 14 => 103 | 28 => 133 | 29 => 134 | 20 => 125 | 21 => 126 | 22 => 127 | 23 => 128 | 24 => 129 | 25 => 130 | 26 => 131 | 27 => 132 | 46 => 138 | 47 => 139 | 48 => 140 | 49 => 141 | 50 => 142 | 57 => 143 | n => n, fun | 22 => 56 | 24 => 24 | 25 => 85 | 3 => 3 | 39 => 120 | 0 => 0 | 53 => 143 | 55 => 145 | 4 => 4 | 46 => 137 | 45 => 136 | 50 => 103 | 5 => 5 | 9 => 9 | 66 => 146 | 70 => 150 | 76 => 152 | 77 => 153 | n => n, fun | n => n⟩
theorem Try.sortC : Go.Proofs.SlLaysF0.n6 Try.prog Try.sortC_ren := {
  mixed := by kernel_rfl
  f6 := ⟨Try.f67.name, by decide, Try.func67.trans (congrArg some (by kernel_rfl))⟩
  f14 := ⟨Try.f103.name, by decide, Try.func103.trans (congrArg some (by kernel_rfl))⟩
  f15 := Try.func104.trans (congrArg some (by kernel_rfl))
  f20 := ⟨Try.f125.name, by decide, Try.func125.trans (congrArg some (by kernel_rfl))⟩
  f21 := ⟨Try.f126.name, by decide, Try.func126.trans (congrArg some (by kernel_rfl))⟩
  f22 := ⟨Try.f127.name, by decide, Try.func127.trans (congrArg some (by kernel_rfl))⟩
  f23 := ⟨Try.f128.name, by decide, Try.func128.trans (congrArg some (by kernel_rfl))⟩
  f24 := ⟨Try.f129.name, by decide, Try.func129.trans (congrArg some (by kernel_rfl))⟩
  f25 := ⟨Try.f130.name, by decide, Try.func130.trans (congrArg some (by kernel_rfl))⟩
  f26 := ⟨Try.f131.name, by decide, Try.func131.trans (congrArg some (by kernel_rfl))⟩
  f27 := ⟨Try.f132.name, by decide, Try.func132.trans (congrArg some (by kernel_rfl))⟩
  f28 := Try.func133.trans (congrArg some (by kernel_rfl))
  f29 := Try.func134.trans (congrArg some (by kernel_rfl))
  f46 := ⟨Try.f138.name, by decide, Try.func138.trans (congrArg some (by kernel_rfl))⟩
  f47 := Try.func139.trans (congrArg some (by kernel_rfl))
  f48 := Try.func140.trans (congrArg some (by kernel_rfl))
  f49 := ⟨Try.f141.name, by decide, Try.func141.trans (congrArg some (by kernel_rfl))⟩
  f50 := ⟨Try.f142.name, by decide, Try.func142.trans (congrArg some (by kernel_rfl))⟩
  f57 := ⟨Try.f143.name, by decide, Try.func143.trans (congrArg some (by kernel_rfl))⟩
  t0 := Try.underlying0
  a0 := Try.isAgg0
  z0 := Try.sizeOf0
  v0 := Try.zeroValue0
  t3 := Try.underlying3
  a3 := Try.isAgg3
  z3 := Try.sizeOf3
  v3 := Try.zeroValue3
  t4 := Try.underlying4
  a4 := Try.isAgg4
  z4 := Try.sizeOf4
  v4 := Try.zeroValue4
  t5 := Try.underlying5
  a5 := Try.isAgg5
  z5 := Try.sizeOf5
  v5 := Try.zeroValue5
  t9 := Try.underlying9
  a9 := Try.isAgg9
  z9 := Try.sizeOf9
  v9 := Try.zeroValue9
  t22 := Try.underlying56
  a22 := Try.isAgg56
  z22 := Try.sizeOf56
  v22 := Try.zeroValue56
  t25 := Try.underlying85
  a25 := Try.isAgg85
  z25 := Try.sizeOf85
  v25 := Try.zeroValue85
  t39 := Try.underlying120
  a39 := Try.isAgg120
  z39 := Try.sizeOf120
  v39 := Try.zeroValue120
  t45 := Try.underlying136
  a45 := Try.isAgg136
  z45 := Try.sizeOf136
  v45 := Try.zeroValue136
  t46 := Try.underlying137
  a46 := Try.isAgg137
  z46 := Try.sizeOf137
  v46 := Try.zeroValue137
  t50 := Try.underlying103
  a50 := Try.isAgg103
  z50 := Try.sizeOf103
  v50 := Try.zeroValue103
  t53 := Try.underlying143
  a53 := Try.isAgg143
  z53 := Try.sizeOf143
  v53 := Try.zeroValue143
  t55 := Try.underlying145
  a55 := Try.isAgg145
  z55 := Try.sizeOf145
  v55 := Try.zeroValue145
  t66 := Try.underlying146
  a66 := Try.isAgg146
  z66 := Try.sizeOf146
  v66 := Try.zeroValue146
  t70 := Try.underlying150
  a70 := Try.isAgg150
  z70 := Try.sizeOf150
  v70 := Try.zeroValue150
  t76 := Try.underlying152
  a76 := Try.isAgg152
  z76 := Try.sizeOf152
  v76 := Try.zeroValue152
  t77 := Try.underlying153
  a77 := Try.isAgg153
  z77 := Try.sizeOf153
  v77 := Try.zeroValue153 }

theorem cmpLays68 (blk off size : Nat) (w : World) : CmpLays Try.prog 68 #[] encC 2 cmpP blk off size w := fun _ _ _ _ x y => compare_grown x.1 x.2 y.1 y.2 _
theorem lt_cmp (x y : Pt) : ltOf cmpP x y = befB x y := cmpP_bef x y
theorem swoC : SWO (ltOf cmpP) where
  irrefl x := by rw [lt_cmp, bef_irr]
  trans x y z h1 h2 := by rw [lt_cmp] at *; exact bef_trans h1 h2
  ntrans x y z h1 h2 := by rw [lt_cmp, bef_no] at *; omega
theorem sort_cells (blk off cap : Nat) (d : Array Pt) (w : World) (hH : HoldsK encC 2 w blk off d) (hblk : blk < w.heap.size) (hsz : d.size < 4611686018427387904) :
    Calls Try.prog 67 #[.slice (some ⟨blk, off, none⟩) d.size cap, .func (.func 68) #[] #[]] w fun e w' => e = .returned (.tuple #[]) ∧ ∃ d' n os, PermIn 0 d.size d d' ∧ SortedIn befB 0 d.size d' ∧ w' = sortWorldK encC 2 w blk off n d' os := by
  have eg : ∀ args w, (callFunc 68 args).run Try.prog w = .ok (.enter 68 args) w := enters_of Try.func68 (by kernel_rfl) rfl
  have hcon := AnyQ.slices_SortFunc Try.sortC 2 Try.isAgg24 Try.sizeOf24 encC (fun _ => rfl) (fun x v hv => by simp [encC] at hv; rcases hv with rfl | rfl <;> rfl) cmpP swoC 68 #[] blk off cap d w eg (cmpLays68 blk off d.size w) hH hblk hsz
  have e : ltOf cmpP = befB := by funext x y; exact lt_cmp x y
  rw [e] at hcon
  exact hcon
/-- A row of points that the call owns, sorted. -/
theorem sort_own (w : World) (base : Nat) (v : Value) (d : Array Pt) (hm : d.size ≤ 1000000) (h : w.ownsRow base 24 2 v d.size (ptV d.toList)) :
    Calls Try.prog 67 #[v, .func (.func 68) #[] #[]] w fun e w' => e = .returned (.tuple #[]) ∧ ∃ d' : Array Pt, PermIn 0 d.size d d' ∧ SortedIn befB 0 d.size d' ∧ w'.ownsRow base 24 2 v d.size (ptV d'.toList) ∧ w.grownBy w' v.ownBlock := by
  rcases h.2 with ⟨rfl, h0⟩ | ⟨g, cap, cur, rfl, hg, hb, h1, h2, h3, h4⟩
  · have hcon := AnyF.slices_SortFunc_none { Try.sortC with } none 0 (.func (.func 68) #[] #[]) w
    refine (Calls.mono (show Calls Try.prog 67 #[.slice none 0 0, .func (.func 68) #[] #[]] w _ from hcon) ?_)
    rintro e w' ⟨rfl, rfl⟩
    obtain rfl : d = #[] := Array.eq_empty_of_size_eq_zero h0
    exact ⟨rfl, #[], ⟨rfl, fun _ _ => rfl, List.Perm.refl _⟩, fun i j _ _ hj => absurd hj (by simp), h, rfl, rfl, rfl, Nat.le_refl _, fun _ _ _ => rfl⟩
  · refine (sort_cells g 0 cap d w (holds_row hb h4) (Array.getElem?_eq_some_iff.1 hb).1 (by omega)).mono ?_
    rintro e w' ⟨rfl, d', n, os, hp, hs, rfl⟩
    exact ⟨rfl, d', hp, hs, ownsRow_sortK hp.1 hg hb h1 h2 h3, grownBy_sortK d'⟩
end Go.Proofs.Ytaehfildhmljeaa
