/- The iterator over a curve's pieces has its contract. -/
import Derived.Test.YtglkpabcflecmaaValid
import Derived.RangeFuncNested
import Derived.RangeFuncBound
import Derived.RangeFuncCalls
import Derived.RangeFuncLeaves
import Derived.RangeFuncBox
import Derived.Shelf.Abstract
import Derived.Shelf.RegionOpen
import Derived.OwnWalkIn
import Derived.TacticsInMore
import Derived.LoopNIn
import Derived.LoopIn
import Derived.Deep.RegionHeld3
import Derived.Deep.DeepCutAuto
namespace Go.Proofs.Ytglkpabcflecmaa
open Go.RowKit Go.Shelf
attribute [local go_sem] Oper.semAt_some

/-- Block g is known whole: the cells cs of a variable of type t. -/
def BoxAt (w : World) (g : Nat) (t : TypeId) (cs : Array Value) : Prop := w.heap[g]? = some (.cells cs t (0, 0))
section
variable {w w' : World} {g : Nat} {t : TypeId} {cs : Array Value}
theorem BoxAt.lt (h : BoxAt w g t cs) : g < w.heap.size := (Array.getElem?_eq_some_iff.1 h).1
theorem BoxAt.cell (h : BoxAt w g t cs) (i : Nat) : w.cell? ⟨g, i, none⟩ = cs[i]? := by simp [World.cell?, show w.heap[g]? = _ from h]
theorem BoxAt.frozen (h : BoxAt w g t cs) (i : Nat) : w.frozen? ⟨g, i, none⟩ = false := by simp [World.frozen?, show w.heap[g]? = _ from h]
theorem BoxAt.new (w : World) (t : TypeId) (cs : Array Value) : BoxAt (w.alloc (.cells cs t)) w.heap.size t cs := World.alloc_heap_new w _
theorem BoxAt.below {B : Nat} (h : BoxAt w g t cs) (hb : Below B w w') (hg : g < B) : BoxAt w' g t cs := (hb.block g hg).trans h
theorem BoxAt.grown {row : Option Nat} (h : BoxAt w g t cs) (hb : w.grownBy w' row) (hg : some g ≠ row) : BoxAt w' g t cs := (hb.block g h.lt hg).trans h
theorem BoxAt.set (h : BoxAt w g t cs) (i : Nat) (u : Value) : BoxAt (w.setCell ⟨g, i, none⟩ u) g t (cs.setIfInBounds i u) := by
  unfold BoxAt at h ⊢
  simp [World.setCell, Array.getElem?_modify, h]
end
/-- Only new blocks. -/
theorem grown_of_below {w w' : World} (h : Below w.heap.size w w') : w.grownBy w' none := ⟨h.os, h.tape, h.output, h.size, fun i hi _ => h.block i hi⟩
theorem below_of_grown {w w' : World} (h : w.grownBy w' none) : Below w.heap.size w w' := ⟨h.os, h.tape, h.output, h.size, fun i hi => h.block i hi (by simp)⟩

theorem bset {B : Nat} {a w : World} {p : Addr} (hp : B ≤ p.block) (h : Below B a w) (u : Value) : Below B a (w.setCell p u) := h.setCell hp u
theorem balloc {B : Nat} {a w : World} (hB : B ≤ w.heap.size) (h : Below B a w) (o : Obj) : Below B a (w.alloc o) := h.alloc hB o

/-- norm, where a box of six cells was laid ahead of the call. -/
theorem norm_box6 (x y : Int) (w : World) (t : TypeId) (z : Value) (hx : okd x) (hy : okd y) :
    Calls Try.prog 90 #[sp x y] (w.alloc (.cells #[z, z, z, z, z, z] t)).drew fun e w1 => e = .returned (.int .i64 (isqI (x * x + y * y))) ∧ Below w.heap.size w w1 ∧ w.heap.size ≤ w1.heap.size ∧ Hid (BoxAt w1 w.heap.size t #[z, z, z, z, z, z]) ∧
    w1.cell? ⟨w.heap.size, 0, none⟩ = some z ∧ w1.cell? ⟨w.heap.size, 1, none⟩ = some z ∧ w1.cell? ⟨w.heap.size, 2, none⟩ = some z ∧ w1.cell? ⟨w.heap.size, 3, none⟩ = some z ∧ w1.cell? ⟨w.heap.size, 4, none⟩ = some z ∧ w1.cell? ⟨w.heap.size, 5, none⟩ = some z ∧
    w1.frozen? ⟨w.heap.size, 0, none⟩ = false ∧ w1.frozen? ⟨w.heap.size, 1, none⟩ = false ∧ w1.frozen? ⟨w.heap.size, 2, none⟩ = false ∧ w1.frozen? ⟨w.heap.size, 3, none⟩ = false ∧ w1.frozen? ⟨w.heap.size, 4, none⟩ = false ∧ w1.frozen? ⟨w.heap.size, 5, none⟩ = false := by
  refine (norm_any x y _ hx hy).mono ?_
  rintro e w1 ⟨rfl, hb1⟩
  have q : BoxAt w1 w.heap.size t #[z, z, z, z, z, z] := BoxAt.below (w := (w.alloc (.cells #[z, z, z, z, z, z] t)).drew) (BoxAt.new w t _) hb1 (by simp)
  have hb2 : Below w.heap.size w w1 := Below.trans (((Below.refl _ w).alloc (Nat.le_refl _) _).drew) (hb1.mono (by simp))
  exact ⟨rfl, hb2, hb2.size, q, q.cell 0, q.cell 1, q.cell 2, q.cell 3, q.cell 4, q.cell 5, q.frozen 0, q.frozen 1, q.frozen 2, q.frozen 3, q.frozen 4, q.frozen 5⟩

/-- WHAT HAS COME WHEN k ROUNDS ARE OVER. -/
abbrev Ix (N : Nat) := { i : Nat // i < N }
def allIx (N : Nat) : List (Ix N) := (List.range N).attach.map (fun i => ⟨i.1, List.mem_range.1 i.2⟩)
def upto (N k : Nat) : List (Ix N) := (allIx N).take k
theorem allIx_length (N : Nat) : (allIx N).length = N := by simp [allIx]
theorem allIx_get (N k : Nat) (h : k < N) : (allIx N)[k]'(by rw [allIx_length]; exact h) = ⟨k, h⟩ := by simp [allIx]
theorem upto_length {N k : Nat} (h : k ≤ N) : (upto N k).length = k := by rw [upto, List.length_take, allIx_length]; omega
theorem upto_zero (N : Nat) : upto N 0 = [] := by simp [upto]
theorem upto_succ {N k : Nat} (h : k < N) : upto N (k + 1) = upto N k ++ [⟨k, h⟩] := by
  unfold upto
  rw [List.take_succ_eq_append_getElem (by rw [allIx_length]; exact h), allIx_get N k h]

/-- What a round keeps: whatever lay below n₀; and the cells of all blocks from D on. -/
structure Kp2 (n₀ D : Nat) (W W' : World) : Prop where
  below : Below n₀ W W'
  cells : ∀ (k : Nat) (cs : Array Value) (t : TypeId) (fr : Nat × Nat), D ≤ k → W.heap[k]? = some (.cells cs t fr) → W'.heap[k]? = some (.cells cs t fr)
theorem Kp2.refl (n₀ D : Nat) (W : World) : Kp2 n₀ D W W := ⟨Below.refl _ _, fun _ _ _ _ _ h => h⟩
theorem Kp2.trans {n₀ D : Nat} {A B C : World} (h : Kp2 n₀ D A B) (k : Kp2 n₀ D B C) : Kp2 n₀ D A C := ⟨h.below.trans k.below, fun i cs t fr hi hA => k.cells i cs t fr hi (h.cells i cs t fr hi hA)⟩
theorem Kp2.of_below {n₀ D : Nat} {W W' : World} (h : Below W.heap.size W W') (hn : n₀ ≤ W.heap.size) : Kp2 n₀ D W W' :=
  ⟨h.mono hn, fun k _ _ _ _ hk => (h.block k (Array.getElem?_eq_some_iff.1 hk).1).trans hk⟩
theorem Kp2.setCell {n₀ D : Nat} {A W : World} (h : Kp2 n₀ D A W) {p : Addr} (hp : n₀ ≤ p.block) (hD : p.block < D) (u : Value) : Kp2 n₀ D A (W.setCell p u) :=
  ⟨h.below.setCell hp u, fun k cs t fr hk hA => (Below.heap_setCell W p u k (by omega)).trans (h.cells k cs t fr hk hA)⟩
theorem Kp2.alloc {n₀ D : Nat} {A W : World} (h : Kp2 n₀ D A W) (hn : n₀ ≤ W.heap.size) (o : Obj) : Kp2 n₀ D A (W.alloc o) :=
  ⟨h.below.alloc hn o, fun k cs t fr hk hA => by
    have := h.cells k cs t fr hk hA
    exact (Below.heap_alloc W o k (Array.getElem?_eq_some_iff.1 this).1).trans this⟩
theorem kp2_b {n₀ D : Nat} {w : World} (hn : n₀ ≤ w.heap.size) (W : World) (l : Nat) (o o' : Obj) (hl : w.heap.size ≤ l) (h : W.heap[l]? = some o) (hc : o.isCells = false) (hw : o.isWalk = false) : Kp2 n₀ D W (W.putObj l o') :=
  ⟨belowK_b hn W l o o' hl h hc hw, fun k cs t fr _ hk => by
    have hne : k ≠ l := by rintro rfl; rw [hk] at h; cases h; cases hc
    exact (World.putObj_heap_other hne).trans hk⟩

/-- The piece i of a curve as a value. -/
abbrev pcv (c : Crv) (i : Nat) : Value := .agg #[.int .i64 (c.X i), .int .i64 (c.Y i), .int .i64 (c.wx i), .int .i64 (c.wy i), .int .i64 (c.len i), .int .i64 (c.st i)]

theorem st_wrap {c : Crv} {k : Nat} (h : c.AllOk) (hk : k + 1 < c.n) (hn : c.n ≤ 16) : wrap64 (c.st k + c.len k) = c.st (k + 1) := by
  have h1 := Crv.st_lt h (i := k) (by omega)
  have h2 := Crv.len_lt h (i := k) hk
  have h3 := Crv.st_nonneg (c := c) k
  have h4 := Crv.len_nonneg (c := c) k
  exact w64 (by omega) (by omega)

set_option maxRecDepth 100000 in
set_option maxHeartbeats 4000000 in
theorem pieces1_in (m : Nat) (hm : 1 ≤ m) (l Bc n₀ D b off cap : Nat) (c : Crv) (hn : 2 ≤ c.n) (hn' : c.n ≤ 16) (hok : c.AllOk) (hb : b < n₀) (J Jx : List (Ix (c.n - 1)) → World → Prop)
    (W : World) (hJ : AbidesFrom W.heap.size J)
    (hY : ∀ pre (x : Ix (c.n - 1)) W, J pre W → pre.length < c.n - 1 → YieldAt Fence.wide (m - 1) Try.prog l #[.int .i64 (x.1 : Int), pcv c x.1] W fun e W' =>
      (e = .returned (.bool true) ∧ J (pre ++ [x]) W' ∧ Kp2 n₀ D W W') ∨ (e = .returned (.bool false) ∧ Jx (pre ++ [x]) W'))
    (hBc : BoxAt W Bc 24 #[.slice (some ⟨b, off, none⟩) c.n cap]) (hBn : D ≤ Bc) (hp : Pts W b off c.n c.X c.Y) (hW : n₀ ≤ W.heap.size) (h0 : J [] W) :
    CallsIn Fence.wide m Try.prog 89 #[.func (.yield l) #[] #[], .pointer (some ⟨Bc, 0, none⟩)] W fun e W' => (∃ v, e = .returned v) ∧
      ((∃ ys, ys = upto (c.n - 1) (c.n - 1) ∧ J ys W') ∨ (∃ pre, (∃ k, k ≤ c.n - 1 ∧ pre = upto (c.n - 1) k) ∧ Jx pre W')) := by
  have hlen : (c.n : Int) - 1 = ((c.n - 1 : Nat) : Int) := by omega
  refine callsIn_of_wp Try.func89 rfl trivial ?_ rfl
  simp only [Try.ntmps89, List.size_toArray, List.length_cons, List.length_nil, Nat.reduceAdd, Nat.reduceSub, Array.replicate_succ, Array.replicate_zero, List.push_toArray, List.append_toArray, List.nil_append, List.cons_append]
  have hBc0 : W.cell? ⟨Bc, 0, none⟩ = some (.slice (some ⟨b, off, none⟩) c.n cap) := hBc.cell 0
  gi_wp2
  gi_loopw [3, 11] (fun u i wr => ∃ k : Nat, k ≤ c.n - 1 ∧ i = .int .i64 k ∧ u = .int .i64 (c.st k) ∧ J (upto (c.n - 1) k) wr ∧ W.heap.size ≤ wr.heap.size ∧ Below n₀ W wr ∧ BoxAt wr Bc 24 #[.slice (some ⟨b, off, none⟩) c.n cap])
    (fun _ i _ => c.n - 1 - (intOf i).toNat)
  case atStart => exact ⟨0, Nat.zero_le _, rfl, rfl, by rw [upto_zero]; exact h0, Nat.le_refl _, Below.refl _ _, hBc⟩
  case round =>
    obtain ⟨k, hk, rfl, rfl, hJs, hnw, hnx, hBB⟩ := hrel
    have hBx : wr.cell? ⟨Bc, 0, none⟩ = some (.slice (some ⟨b, off, none⟩) c.n cap) := hBB.cell 0
    by_cases hlt : k < c.n - 1
    · obtain ⟨hx0, hy0⟩ := (hp.below hnx hb) k (by omega)
      obtain ⟨hx1, hy1⟩ := (hp.below hnx hb) (k + 1) (by omega)
      have ox0 := hok k (by omega)
      have ox1 := hok (k + 1) (by omega)
      have i0 : (0 : Int) ≤ (k : Int) := Int.natCast_nonneg _
      have i1 : (k : Int) < (c.n : Int) := by omega
      have i2 : (0 : Int) ≤ (k : Int) + 1 := by omega
      have i3 : (k : Int) + 1 < (c.n : Int) := by omega
      have lB := World.block_lt_of_cell? wr _ hBx
      have lb := World.block_lt_of_cell? wr _ hx0
      have i4 : IntKind.i64.wrap ((k : Int) + 1) = (k : Int) + 1 := IntWalk.i64_in _ (by omega)
      have i5 : ((k : Int) + 1).toNat = k + 1 := by omega
      gi_wp2
      refine wpIn_wide.2 ?_
      go_cut [5] from 14 to 25 (fun v w' => ∃ g, v = .pointer (some ⟨g, 0, none⟩) ∧ wr.heap.size ≤ g ∧ BoxAt w' g 43 #[.int .i64 (c.wx k), .int .i64 (c.wy k)] ∧ Below wr.heap.size wr w')
      case first =>
        go_region_held3 (fun w' => w'.cell? ⟨Bc, 0, none⟩ = some (.slice (some ⟨b, off, none⟩) c.n cap) ∧ w'.cell? ⟨b, off + k * 2, none⟩ = some (.int .i64 (c.X k)) ∧ w'.cell? ⟨b, off + k * 2 + 1, none⟩ = some (.int .i64 (c.Y k)) ∧
            w'.cell? ⟨b, off + (k + 1) * 2, none⟩ = some (.int .i64 (c.X (k + 1))) ∧ w'.cell? ⟨b, off + (k + 1) * 2 + 1, none⟩ = some (.int .i64 (c.Y (k + 1))))
          (first | go_keep | (refine ⟨?_, ?_, ?_, ?_, ?_⟩ <;> (refine (Below.cell (w := wr) (B := wr.heap.size) ?_ (by assumption)).trans (by assumption); (repeat (first | (with_reducible exact hb1) | (with_reducible exact Below.refl _ _) | ((with_reducible refine bset ?_ ?_ _); (first | exact Nat.le_refl _ | omega | (simp; omega) | simp)) | ((with_reducible refine balloc ?_ ?_ _); (first | exact Nat.le_refl _ | omega | (simp; omega) | simp)) | (with_reducible refine Below.drew ?_) | refine Below.trans ?_ (hb1.mono (by first | omega | (simp; omega) | simp)))))))
          (first | (go_at_call 78; refine (minus_any _ _ _ _ _ ox1.1 ox1.2 ox0.1 ox0.2).mono ?_; rintro e w1 ⟨rfl, hb1⟩; have hz1 : wr.heap.size ≤ w1.heap.size := (by have := hb1.size; simp at this; omega); obtain ⟨hc1, hf1⟩ := bcell hb1))
        all_goals go_wp2
        all_goals go_meet
        · exact ⟨_, rfl, hz1, BoxAt.new _ _ _, by (repeat (first | (with_reducible exact hb1) | (with_reducible exact Below.refl _ _) | ((with_reducible refine bset ?_ ?_ _); (first | exact Nat.le_refl _ | omega | (simp; omega) | simp)) | ((with_reducible refine balloc ?_ ?_ _); (first | exact Nat.le_refl _ | omega | (simp; omega) | simp)) | (with_reducible refine Below.drew ?_) | refine Below.trans ?_ (hb1.mono (by first | omega | (simp; omega) | simp))))⟩
        · refine ⟨_, rfl, Nat.le_refl _, ?_, by (repeat (first | (with_reducible exact hb1) | (with_reducible exact Below.refl _ _) | ((with_reducible refine bset ?_ ?_ _); (first | exact Nat.le_refl _ | omega | (simp; omega) | simp)) | ((with_reducible refine balloc ?_ ?_ _); (first | exact Nat.le_refl _ | omega | (simp; omega) | simp)) | (with_reducible refine Below.drew ?_) | refine Below.trans ?_ (hb1.mono (by first | omega | (simp; omega) | simp))))⟩
          have h0 : BoxAt w1 wr.heap.size 43 #[.int .i64 0, .int .i64 0] := BoxAt.below (w := (wr.alloc (.cells #[.int .i64 0, .int .i64 0] 43)).drew) (BoxAt.new wr 43 _) hb1 (by simp)
          exact (h0.set 0 _).set 1 _
      case rest =>
        obtain ⟨wd, rfl⟩ : ∃ x : World, x = wc := ⟨_, rfl⟩
        obtain ⟨g, rfl, hg, hbox, hbw⟩ := hcut
        have hBx2 := (hbw.cell (p := ⟨Bc, 0, none⟩) lB).trans hBx
        have hx2 := (hbw.cell (p := ⟨b, off + k * 2, none⟩) lb).trans hx0
        have hy2 := (hbw.cell (p := ⟨b, off + k * 2 + 1, none⟩) lb).trans hy0
        have hg0 : wd.cell? ⟨g, 0, none⟩ = some (.int .i64 (c.wx k)) := hbox.cell 0
        have hg1 : wd.cell? ⟨g, 1, none⟩ = some (.int .i64 (c.wy k)) := hbox.cell 1
        have lg := hbox.lt
        have lz := hbw.size
        have owx := Crv.okd_wx hok (i := k) (by omega)
        have owy := Crv.okd_wy hok (i := k) (by omega)
        have lB2 : Bc < wd.heap.size := by omega
        have lb2 : b < wd.heap.size := by omega
        gi_wp2
        refine wpIn_wide.2 ?_
        go_cut [6] from 26 to 35 (fun v w' => ∃ h, v = .pointer (some ⟨h, 0, none⟩) ∧ wd.heap.size ≤ h ∧ BoxAt w' h 81 #[.int .i64 (c.X k), .int .i64 (c.Y k), .int .i64 (c.wx k), .int .i64 (c.wy k), .int .i64 (c.len k), .int .i64 (c.st k)] ∧ Below wd.heap.size wd w')
        case first =>
          clear hY hJ hp hBc hBc0 h0 hBx hBB hx0 hy0 hx1 hy1 hnx hnw hJs ox0 ox1 i2 i3 i4 i5 hbox hbw
          go_region_held3 (fun w' => w'.cell? ⟨Bc, 0, none⟩ = some (.slice (some ⟨b, off, none⟩) c.n cap) ∧ w'.cell? ⟨b, off + k * 2, none⟩ = some (.int .i64 (c.X k)) ∧ w'.cell? ⟨b, off + k * 2 + 1, none⟩ = some (.int .i64 (c.Y k)) ∧
              w'.cell? ⟨g, 0, none⟩ = some (.int .i64 (c.wx k)) ∧ w'.cell? ⟨g, 1, none⟩ = some (.int .i64 (c.wy k)))
            (first | (refine ⟨?_, ?_, ?_, ?_, ?_⟩ <;> (refine (Below.cell (w := wd) (B := wd.heap.size) ?_ (by assumption)).trans (by assumption); (repeat (first | (with_reducible exact hb1) | (with_reducible exact Below.refl _ _) | ((with_reducible refine bset ?_ ?_ _); (first | exact Nat.le_refl _ | omega | (simp; omega) | simp)) | ((with_reducible refine balloc ?_ ?_ _); (first | exact Nat.le_refl _ | omega | (simp; omega) | simp)) | (with_reducible refine Below.drew ?_) | refine Below.trans ?_ (hb1.mono (by first | omega | (simp; omega) | simp)))))) | go_keep)
            (first
              | (go_at_call 90; refine (norm_box6 _ _ _ _ _ owx owy).mono ?_; rintro e w1 ⟨rfl, hb1, hz1, hbx, q0, q1, q2, q3, q4, q5, r0, r1, r2, r3, r4, r5⟩)
              | (go_at_call 90; refine (norm_any _ _ _ owx owy).mono ?_; rintro e w1 ⟨rfl, hb1⟩; have hz1 : wd.heap.size ≤ w1.heap.size := (by have := hb1.size; simp at this; omega)))
          all_goals go_wp2
          all_goals go_meet
          · exact ⟨_, rfl, hz1, BoxAt.new _ _ _, by (repeat (first | (with_reducible exact hb1) | (with_reducible exact Below.refl _ _) | ((with_reducible refine bset ?_ ?_ _); (first | exact Nat.le_refl _ | omega | (simp; omega) | simp)) | ((with_reducible refine balloc ?_ ?_ _); (first | exact Nat.le_refl _ | omega | (simp; omega) | simp)) | (with_reducible refine Below.drew ?_) | refine Below.trans ?_ (hb1.mono (by first | omega | (simp; omega) | simp))))⟩
          · exact ⟨_, rfl, Nat.le_refl _, ((((((hbx.out.set 0 _).set 1 _).set 2 _).set 3 _).set 4 _).set 5 _), by (repeat (first | (with_reducible exact hb1) | (with_reducible exact Below.refl _ _) | ((with_reducible refine bset ?_ ?_ _); (first | exact Nat.le_refl _ | omega | (simp; omega) | simp)) | ((with_reducible refine balloc ?_ ?_ _); (first | exact Nat.le_refl _ | omega | (simp; omega) | simp)) | (with_reducible refine Below.drew ?_) | refine Below.trans ?_ (hb1.mono (by first | omega | (simp; omega) | simp))))⟩
        case rest =>
          obtain ⟨h, rfl, hh, hbox6, hbw6⟩ := hcut
          have hcc : wr.grownBy wc none := grown_of_below (hbw.trans (hbw6.mono lz))
          have hJ2 := hJ _ _ _ _ hJs hcc (fun r e => by cases e)
          obtain ⟨fn, tmps, assign, body, hy, hR⟩ := hY _ ⟨k, hlt⟩ wc hJ2 (by rw [upto_length hk]; exact hlt)
          dsimp only at hy
          have c0 : wc.cell? ⟨h, 0, none⟩ = some (.int .i64 (c.X k)) := hbox6.cell 0
          have c1 : wc.cell? ⟨h, 1, none⟩ = some (.int .i64 (c.Y k)) := hbox6.cell 1
          have c2 : wc.cell? ⟨h, 2, none⟩ = some (.int .i64 (c.wx k)) := hbox6.cell 2
          have c3 : wc.cell? ⟨h, 3, none⟩ = some (.int .i64 (c.wy k)) := hbox6.cell 3
          have c4 : wc.cell? ⟨h, 4, none⟩ = some (.int .i64 (c.len k)) := hbox6.cell 4
          have c5 : wc.cell? ⟨h, 5, none⟩ = some (.int .i64 (c.st k)) := hbox6.cell 5
          gi_wp2
          refine hR.mono ?_
          rintro e W3 (⟨rfl, hJ3, hk3⟩ | ⟨rfl, hJx3⟩)
          · have hbox3 := hk3.cells h _ _ _ (by omega) hbox6
            have d2 : W3.cell? ⟨h, 4, none⟩ = some (.int .i64 (c.len k)) := BoxAt.cell hbox3 4
            gi_wp2
            go_roundw
            case rel => exact ⟨k + 1, by omega, by go_num, by rw [st_wrap hok (by omega) hn'], by rw [upto_succ hlt]; exact hJ3, by have := hk3.below.size; have := hcc.size; omega, (hnx.trans (((hbw.trans (hbw6.mono lz)).mono (by omega)))).trans hk3.below, hk3.cells Bc _ _ _ hBn (hBB.grown hcc (by simp))⟩
            case measure => simp [intOf]; omega
          · gi_wp2
            refine bodyPost_ret (results_none rfl _ _ _) rfl ?_
            exact ⟨⟨_, rfl⟩, .inr ⟨_, ⟨k + 1, by omega, (upto_succ hlt).symm⟩, hJx3⟩⟩
    · obtain rfl : k = c.n - 1 := by omega
      gi_wp2
      go_end0
      exact ⟨⟨_, rfl⟩, .inl ⟨_, rfl, hJs⟩⟩

/-- **'pieces' HAS ITS CONTRACT**: all pieces of a curve of 2 to 16 valid points, in their order; or the first k of them. A round keeps what lay below n₀, and all cells from block D on (the iterator's own: its boxed curve, the variables of its rounds). -/
theorem pieces_stops (m : Nat) (hm : 1 ≤ m) (Bc n₀ D b off cap : Nat) (c : Crv) (hn : 2 ≤ c.n) (hn' : c.n ≤ 16) (hok : c.AllOk) (hb : b < n₀) (w : World)
    (hBc : BoxAt w Bc 24 #[.slice (some ⟨b, off, none⟩) c.n cap]) (hBn : D ≤ Bc) (hp : Pts w b off c.n c.X c.Y) (hW : n₀ ≤ w.heap.size) :
    SeqStopsK Fence.wide m Try.prog 89 #[.pointer (some ⟨Bc, 0, none⟩)] (fun x : Ix (c.n - 1) => #[.int .i64 (x.1 : Int), pcv c x.1]) (Kp2 n₀ D)
      (fun ys => ys = allIx (c.n - 1)) (fun pre => ∃ k, k ≤ c.n - 1 ∧ pre = upto (c.n - 1) k) (c.n - 1) w := fun l J Jx W hWW hJ hJx hY h0 => by
  have hn0 : Below n₀ w W := hWW.mono hW
  refine (pieces1_in m hm l Bc n₀ D b off cap c hn hn' hok hb J Jx W hJ hY (hBc.below hWW hBc.lt) hBn (hp.below hn0 hb) (by have := hWW.size; omega) h0).mono ?_
  rintro e W' ⟨he, ⟨ys, rfl, hj⟩ | ⟨pre, hk, hj⟩⟩
  · exact ⟨he, .inl ⟨_, by unfold upto; rw [List.take_of_length_le (by rw [allIx_length]; exact Nat.le_refl _)], hj⟩⟩
  · exact ⟨he, .inr ⟨_, hk, hj⟩⟩
end Go.Proofs.Ytglkpabcflecmaa
