/- The iterator's contract where a round appends to a row of corridors; 'corridors'. -/
import Derived.Test.YtglkpabcflecmaaLen
import Derived.Test.YtglkpabcflecmaaPcsG
import Derived.Test.YtglkpabcflecmaaCoA
namespace Go.Proofs.Ytglkpabcflecmaa
open Go.RowKit Go.Shelf
attribute [local go_sem] Oper.semAt_some

/-- What a round keeps: whatever lay below n₀; and the cells of all blocks from D on. -/
structure Kp4 (n₀ D : Nat) (W W' : World) : Prop where
  below : Below n₀ W W'
  cells : ∀ (k : Nat) (cs : Array Value) (t : TypeId) (fr : Nat × Nat), D ≤ k → t ≠ 101 → W.heap[k]? = some (.cells cs t fr) → W'.heap[k]? = some (.cells cs t fr)
theorem Kp4.refl (n₀ D : Nat) (W : World) : Kp4 n₀ D W W := ⟨Below.refl _ _, fun _ _ _ _ _ _ h => h⟩
theorem Kp4.trans {n₀ D : Nat} {A B C : World} (h : Kp4 n₀ D A B) (k : Kp4 n₀ D B C) : Kp4 n₀ D A C := ⟨h.below.trans k.below, fun i cs t fr hi ht hA => k.cells i cs t fr hi ht (h.cells i cs t fr hi ht hA)⟩
theorem Kp4.of_below {n₀ D : Nat} {W W' : World} (h : Below W.heap.size W W') (hn : n₀ ≤ W.heap.size) : Kp4 n₀ D W W' :=
  ⟨h.mono hn, fun k _ _ _ _ _ hk => (h.block k (Array.getElem?_eq_some_iff.1 hk).1).trans hk⟩
theorem Kp4.setCell {n₀ D : Nat} {A W : World} (h : Kp4 n₀ D A W) {p : Addr} (hp : n₀ ≤ p.block) (hD : p.block < D) (u : Value) : Kp4 n₀ D A (W.setCell p u) :=
  ⟨h.below.setCell hp u, fun k cs t fr hk ht hA => (Below.heap_setCell W p u k (by omega)).trans (h.cells k cs t fr hk ht hA)⟩
theorem Kp4.alloc {n₀ D : Nat} {A W : World} (h : Kp4 n₀ D A W) (hn : n₀ ≤ W.heap.size) (o : Obj) : Kp4 n₀ D A (W.alloc o) :=
  ⟨h.below.alloc hn o, fun k cs t fr hk ht hA => by
    have := h.cells k cs t fr hk ht hA
    exact (Below.heap_alloc W o k (Array.getElem?_eq_some_iff.1 this).1).trans this⟩
theorem kp4_b {n₀ D : Nat} {w : World} (hn : n₀ ≤ w.heap.size) (W : World) (l : Nat) (o o' : Obj) (hl : w.heap.size ≤ l) (h : W.heap[l]? = some o) (hc : o.isCells = false) (hw : o.isWalk = false) : Kp4 n₀ D W (W.putObj l o') :=
  ⟨belowK_b hn W l o o' hl h hc hw, fun k cs t fr _ _ hk => by
    have hne : k ≠ l := by rintro rfl; rw [hk] at h; cases h; cases hc
    exact (World.putObj_heap_other hne).trans hk⟩

theorem Kp4.grown {n₀ D : Nat} {A W W' : World} {row : Option Nat} (h : Kp4 n₀ D A W) (hn : n₀ ≤ W.heap.size) (hg : W.grownBy W' row) (hr : ∀ g, row = some g → n₀ ≤ g ∧ ∃ cur, W.heap[g]? = some (.cells cur 101 (0, 0))) : Kp4 n₀ D A W' :=
  ⟨h.below.grown hg hn (fun g e => (hr g e).1), fun k cs t fr hk ht hA => by
    have := h.cells k cs t fr hk ht hA
    refine (hg.block k (Array.getElem?_eq_some_iff.1 this).1 (fun e => ?_)).trans this
    obtain ⟨_, cur, hc⟩ := hr k e.symm
    rw [hc] at this; cases this; exact ht rfl⟩

set_option maxRecDepth 100000 in
set_option maxHeartbeats 4000000 in
theorem pieces1_in4 (m : Nat) (hm : 1 ≤ m) (l Bc n₀ D b off cap : Nat) (c : Crv) (hn : 2 ≤ c.n) (hn' : c.n ≤ 16) (hok : c.AllOk) (hb : b < n₀) (J Jx : List (Ix (c.n - 1)) → World → Prop)
    (W : World) (hJ : AbidesFrom W.heap.size J)
    (hY : ∀ pre (x : Ix (c.n - 1)) W, J pre W → pre.length < c.n - 1 → YieldAt Fence.wide (m - 1) Try.prog l #[.int .i64 (x.1 : Int), pcv c x.1] W fun e W' =>
      (e = .returned (.bool true) ∧ J (pre ++ [x]) W' ∧ Kp4 n₀ D W W') ∨ (e = .returned (.bool false) ∧ Jx (pre ++ [x]) W'))
    (hBc : BoxAt W Bc 24 #[.slice (some ⟨b, off, none⟩) c.n cap]) (hBn : D ≤ Bc) (hp : Pts W b off c.n c.X c.Y) (hW : n₀ ≤ W.heap.size) (h0 : J [] W) :
    CallsIn Fence.wide m Try.prog 89 #[.func (.yield l) #[] #[], .pointer (some ⟨Bc, 0, none⟩)] W fun e W' => (∃ v, e = .returned v) ∧
      ((∃ ys, ys = upto (c.n - 1) (c.n - 1) ∧ J ys W') ∨ (∃ pre, (∃ k, k ≤ c.n - 1 ∧ pre = upto (c.n - 1) k) ∧ Jx pre W')) := by
  have hlen : (c.n : Int) - 1 = ((c.n - 1 : Nat) : Int) := by omega
  refine callsIn_of_wp Try.func89 rfl trivial ?_ rfl
  simp only [Try.ntmps89, List.size_toArray, List.length_cons, List.length_nil, Nat.reduceAdd, Nat.reduceSub, Array.replicate_succ, Array.replicate_zero, List.push_toArray, List.append_toArray, List.nil_append, List.cons_append]
  have hBc0 : W.cell? ⟨Bc, 0, none⟩ = some (.slice (some ⟨b, off, none⟩) c.n cap) := hBc.cell 0
  gi_wp2
  gi_loopw [3, 11] (fun u i wr => ∃ k : Nat, k ≤ c.n - 1 ∧ i = .int .i64 k ∧ u = .int .i64 (c.st k) ∧ J (upto (c.n - 1) k) wr ∧ W.heap.size ≤ wr.heap.size ∧ Below n₀ W wr ∧ BoxAt wr Bc 24 #[.slice (some ⟨b, off, none⟩) c.n cap])
    (fun _ i _ => c.n - 1 - (intOf i).toNat)
  case atStart => exact ⟨0, Nat.zero_le _, rfl, rfl, by rw [upto_zero]; exact h0, Nat.le_refl _, Below.refl _ _, hBc⟩
  case round =>
    obtain ⟨k, hk, rfl, rfl, hJs, hnw, hnx, hBB⟩ := hrel
    have hBx : wr.cell? ⟨Bc, 0, none⟩ = some (.slice (some ⟨b, off, none⟩) c.n cap) := hBB.cell 0
    by_cases hlt : k < c.n - 1
    · obtain ⟨hx0, hy0⟩ := (hp.below hnx hb) k (by omega)
      obtain ⟨hx1, hy1⟩ := (hp.below hnx hb) (k + 1) (by omega)
      have ox0 := hok k (by omega)
      have ox1 := hok (k + 1) (by omega)
      have i0 : (0 : Int) ≤ (k : Int) := Int.natCast_nonneg _
      have i1 : (k : Int) < (c.n : Int) := by omega
      have i2 : (0 : Int) ≤ (k : Int) + 1 := by omega
      have i3 : (k : Int) + 1 < (c.n : Int) := by omega
      have lB := World.block_lt_of_cell? wr _ hBx
      have lb := World.block_lt_of_cell? wr _ hx0
      have i4 : IntKind.i64.wrap ((k : Int) + 1) = (k : Int) + 1 := IntWalk.i64_in _ (by omega)
      have i5 : ((k : Int) + 1).toNat = k + 1 := by omega
      gi_wp2
      refine wpIn_wide.2 ?_
      go_cut [5] from 14 to 25 (fun v w' => ∃ g, v = .pointer (some ⟨g, 0, none⟩) ∧ wr.heap.size ≤ g ∧ BoxAt w' g 43 #[.int .i64 (c.wx k), .int .i64 (c.wy k)] ∧ Below wr.heap.size wr w')
      case first =>
        go_region_held3 (fun w' => w'.cell? ⟨Bc, 0, none⟩ = some (.slice (some ⟨b, off, none⟩) c.n cap) ∧ w'.cell? ⟨b, off + k * 2, none⟩ = some (.int .i64 (c.X k)) ∧ w'.cell? ⟨b, off + k * 2 + 1, none⟩ = some (.int .i64 (c.Y k)) ∧
            w'.cell? ⟨b, off + (k + 1) * 2, none⟩ = some (.int .i64 (c.X (k + 1))) ∧ w'.cell? ⟨b, off + (k + 1) * 2 + 1, none⟩ = some (.int .i64 (c.Y (k + 1))))
          (first | go_keep | (refine ⟨?_, ?_, ?_, ?_, ?_⟩ <;> (refine (Below.cell (w := wr) (B := wr.heap.size) ?_ (by assumption)).trans (by assumption); (repeat (first | (with_reducible exact hb1) | (with_reducible exact Below.refl _ _) | ((with_reducible refine bset ?_ ?_ _); (first | exact Nat.le_refl _ | omega | (simp; omega) | simp)) | ((with_reducible refine balloc ?_ ?_ _); (first | exact Nat.le_refl _ | omega | (simp; omega) | simp)) | (with_reducible refine Below.drew ?_) | refine Below.trans ?_ (hb1.mono (by first | omega | (simp; omega) | simp)))))))
          (first | (go_at_call 78; refine (minus_any _ _ _ _ _ ox1.1 ox1.2 ox0.1 ox0.2).mono ?_; rintro e w1 ⟨rfl, hb1⟩; have hz1 : wr.heap.size ≤ w1.heap.size := (by have := hb1.size; simp at this; omega); obtain ⟨hc1, hf1⟩ := bcell hb1))
        all_goals go_wp2
        all_goals go_meet
        · exact ⟨_, rfl, hz1, BoxAt.new _ _ _, by (repeat (first | (with_reducible exact hb1) | (with_reducible exact Below.refl _ _) | ((with_reducible refine bset ?_ ?_ _); (first | exact Nat.le_refl _ | omega | (simp; omega) | simp)) | ((with_reducible refine balloc ?_ ?_ _); (first | exact Nat.le_refl _ | omega | (simp; omega) | simp)) | (with_reducible refine Below.drew ?_) | refine Below.trans ?_ (hb1.mono (by first | omega | (simp; omega) | simp))))⟩
        · refine ⟨_, rfl, Nat.le_refl _, ?_, by (repeat (first | (with_reducible exact hb1) | (with_reducible exact Below.refl _ _) | ((with_reducible refine bset ?_ ?_ _); (first | exact Nat.le_refl _ | omega | (simp; omega) | simp)) | ((with_reducible refine balloc ?_ ?_ _); (first | exact Nat.le_refl _ | omega | (simp; omega) | simp)) | (with_reducible refine Below.drew ?_) | refine Below.trans ?_ (hb1.mono (by first | omega | (simp; omega) | simp))))⟩
          have h0 : BoxAt w1 wr.heap.size 43 #[.int .i64 0, .int .i64 0] := BoxAt.below (w := (wr.alloc (.cells #[.int .i64 0, .int .i64 0] 43)).drew) (BoxAt.new wr 43 _) hb1 (by simp)
          exact (h0.set 0 _).set 1 _
      case rest =>
        obtain ⟨wd, rfl⟩ : ∃ x : World, x = wc := ⟨_, rfl⟩
        obtain ⟨g, rfl, hg, hbox, hbw⟩ := hcut
        have hBx2 := (hbw.cell (p := ⟨Bc, 0, none⟩) lB).trans hBx
        have hx2 := (hbw.cell (p := ⟨b, off + k * 2, none⟩) lb).trans hx0
        have hy2 := (hbw.cell (p := ⟨b, off + k * 2 + 1, none⟩) lb).trans hy0
        have hg0 : wd.cell? ⟨g, 0, none⟩ = some (.int .i64 (c.wx k)) := hbox.cell 0
        have hg1 : wd.cell? ⟨g, 1, none⟩ = some (.int .i64 (c.wy k)) := hbox.cell 1
        have lg := hbox.lt
        have lz := hbw.size
        have owx := Crv.okd_wx hok (i := k) (by omega)
        have owy := Crv.okd_wy hok (i := k) (by omega)
        have lB2 : Bc < wd.heap.size := by omega
        have lb2 : b < wd.heap.size := by omega
        gi_wp2
        refine wpIn_wide.2 ?_
        go_cut [6] from 26 to 35 (fun v w' => ∃ h, v = .pointer (some ⟨h, 0, none⟩) ∧ wd.heap.size ≤ h ∧ BoxAt w' h 81 #[.int .i64 (c.X k), .int .i64 (c.Y k), .int .i64 (c.wx k), .int .i64 (c.wy k), .int .i64 (c.len k), .int .i64 (c.st k)] ∧ Below wd.heap.size wd w')
        case first =>
          clear hY hJ hp hBc hBc0 h0 hBx hBB hx0 hy0 hx1 hy1 hnx hnw hJs ox0 ox1 i2 i3 i4 i5 hbox hbw
          go_region_held3 (fun w' => w'.cell? ⟨Bc, 0, none⟩ = some (.slice (some ⟨b, off, none⟩) c.n cap) ∧ w'.cell? ⟨b, off + k * 2, none⟩ = some (.int .i64 (c.X k)) ∧ w'.cell? ⟨b, off + k * 2 + 1, none⟩ = some (.int .i64 (c.Y k)) ∧
              w'.cell? ⟨g, 0, none⟩ = some (.int .i64 (c.wx k)) ∧ w'.cell? ⟨g, 1, none⟩ = some (.int .i64 (c.wy k)))
            (first | (refine ⟨?_, ?_, ?_, ?_, ?_⟩ <;> (refine (Below.cell (w := wd) (B := wd.heap.size) ?_ (by assumption)).trans (by assumption); (repeat (first | (with_reducible exact hb1) | (with_reducible exact Below.refl _ _) | ((with_reducible refine bset ?_ ?_ _); (first | exact Nat.le_refl _ | omega | (simp; omega) | simp)) | ((with_reducible refine balloc ?_ ?_ _); (first | exact Nat.le_refl _ | omega | (simp; omega) | simp)) | (with_reducible refine Below.drew ?_) | refine Below.trans ?_ (hb1.mono (by first | omega | (simp; omega) | simp)))))) | go_keep)
            (first
              | (go_at_call 90; refine (norm_box6 _ _ _ _ _ owx owy).mono ?_; rintro e w1 ⟨rfl, hb1, hz1, hbx, q0, q1, q2, q3, q4, q5, r0, r1, r2, r3, r4, r5⟩)
              | (go_at_call 90; refine (norm_any _ _ _ owx owy).mono ?_; rintro e w1 ⟨rfl, hb1⟩; have hz1 : wd.heap.size ≤ w1.heap.size := (by have := hb1.size; simp at this; omega)))
          all_goals go_wp2
          all_goals go_meet
          · exact ⟨_, rfl, hz1, BoxAt.new _ _ _, by (repeat (first | (with_reducible exact hb1) | (with_reducible exact Below.refl _ _) | ((with_reducible refine bset ?_ ?_ _); (first | exact Nat.le_refl _ | omega | (simp; omega) | simp)) | ((with_reducible refine balloc ?_ ?_ _); (first | exact Nat.le_refl _ | omega | (simp; omega) | simp)) | (with_reducible refine Below.drew ?_) | refine Below.trans ?_ (hb1.mono (by first | omega | (simp; omega) | simp))))⟩
          · exact ⟨_, rfl, Nat.le_refl _, ((((((hbx.out.set 0 _).set 1 _).set 2 _).set 3 _).set 4 _).set 5 _), by (repeat (first | (with_reducible exact hb1) | (with_reducible exact Below.refl _ _) | ((with_reducible refine bset ?_ ?_ _); (first | exact Nat.le_refl _ | omega | (simp; omega) | simp)) | ((with_reducible refine balloc ?_ ?_ _); (first | exact Nat.le_refl _ | omega | (simp; omega) | simp)) | (with_reducible refine Below.drew ?_) | refine Below.trans ?_ (hb1.mono (by first | omega | (simp; omega) | simp))))⟩
        case rest =>
          obtain ⟨h, rfl, hh, hbox6, hbw6⟩ := hcut
          have hcc : wr.grownBy wc none := grown_of_below (hbw.trans (hbw6.mono lz))
          have hJ2 := hJ _ _ _ _ hJs hcc (fun r e => by cases e)
          obtain ⟨fn, tmps, assign, body, hy, hR⟩ := hY _ ⟨k, hlt⟩ wc hJ2 (by rw [upto_length hk]; exact hlt)
          dsimp only at hy
          have c0 : wc.cell? ⟨h, 0, none⟩ = some (.int .i64 (c.X k)) := hbox6.cell 0
          have c1 : wc.cell? ⟨h, 1, none⟩ = some (.int .i64 (c.Y k)) := hbox6.cell 1
          have c2 : wc.cell? ⟨h, 2, none⟩ = some (.int .i64 (c.wx k)) := hbox6.cell 2
          have c3 : wc.cell? ⟨h, 3, none⟩ = some (.int .i64 (c.wy k)) := hbox6.cell 3
          have c4 : wc.cell? ⟨h, 4, none⟩ = some (.int .i64 (c.len k)) := hbox6.cell 4
          have c5 : wc.cell? ⟨h, 5, none⟩ = some (.int .i64 (c.st k)) := hbox6.cell 5
          gi_wp2
          refine hR.mono ?_
          rintro e W3 (⟨rfl, hJ3, hk3⟩ | ⟨rfl, hJx3⟩)
          · have hbox3 := hk3.cells h _ _ _ (by omega) (by decide) hbox6
            have d2 : W3.cell? ⟨h, 4, none⟩ = some (.int .i64 (c.len k)) := BoxAt.cell hbox3 4
            gi_wp2
            go_roundw
            case rel => exact ⟨k + 1, by omega, by go_num, by rw [st_wrap hok (by omega) hn'], by rw [upto_succ hlt]; exact hJ3, by have := hk3.below.size; have := hcc.size; omega, (hnx.trans (((hbw.trans (hbw6.mono lz)).mono (by omega)))).trans hk3.below, hk3.cells Bc _ _ _ hBn (by decide) (hBB.grown hcc (by simp))⟩
            case measure => simp [intOf]; omega
          · gi_wp2
            refine bodyPost_ret (results_none rfl _ _ _) rfl ?_
            exact ⟨⟨_, rfl⟩, .inr ⟨_, ⟨k + 1, by omega, (upto_succ hlt).symm⟩, hJx3⟩⟩
    · obtain rfl : k = c.n - 1 := by omega
      gi_wp2
      go_end0
      exact ⟨⟨_, rfl⟩, .inl ⟨_, rfl, hJs⟩⟩

/-- 'pieces', where a round may write rows of numbers too: all pieces of a curve of 2 to 16 valid points, in their order; or the first k of them. A round keeps what lay below n₀, and all cells from block D on (the iterator's own: its boxed curve, the variables of its rounds). -/
theorem pieces_stops4 (m : Nat) (hm : 1 ≤ m) (Bc n₀ D b off cap : Nat) (c : Crv) (hn : 2 ≤ c.n) (hn' : c.n ≤ 16) (hok : c.AllOk) (hb : b < n₀) (w : World)
    (hBc : BoxAt w Bc 24 #[.slice (some ⟨b, off, none⟩) c.n cap]) (hBn : D ≤ Bc) (hp : Pts w b off c.n c.X c.Y) (hW : n₀ ≤ w.heap.size) :
    SeqStopsK Fence.wide m Try.prog 89 #[.pointer (some ⟨Bc, 0, none⟩)] (fun x : Ix (c.n - 1) => #[.int .i64 (x.1 : Int), pcv c x.1]) (Kp4 n₀ D)
      (fun ys => ys = allIx (c.n - 1)) (fun pre => ∃ k, k ≤ c.n - 1 ∧ pre = upto (c.n - 1) k) (c.n - 1) w := fun l J Jx W hWW hJ hJx hY h0 => by
  have hn0 : Below n₀ w W := hWW.mono hW
  refine (pieces1_in4 m hm l Bc n₀ D b off cap c hn hn' hok hb J Jx W hJ hY (hBc.below hWW hBc.lt) hBn (hp.below hn0 hb) (by have := hWW.size; omega) h0).mono ?_
  rintro e W' ⟨he, ⟨ys, rfl, hj⟩ | ⟨pre, hk, hj⟩⟩
  · exact ⟨he, .inl ⟨_, by unfold upto; rw [List.take_of_length_le (by rw [allIx_length]; exact Nat.le_refl _)], hj⟩⟩
  · exact ⟨he, .inr ⟨_, hk, hj⟩⟩
end Go.Proofs.Ytglkpabcflecmaa
namespace Go.Proofs.Ytglkpabcflecmaa
open Go.RowKit Go.Shelf
attribute [local go_sem] Oper.semAt_some

/-- The corridor of a piece. -/
def corAt (c : Crv) (h : Int) (i : Nat) : Cor := { x := c.X i, y := c.Y i, p := c.wx i, q := c.wy i, l := c.len i, s := c.st i, h := h, a := 0, b := c.len i }
theorem corAt_ok {c : Crv} (hg : Good c) {h : Int} (h0 : 0 ≤ h) (h1 : h ≤ 4000) {i : Nat} (hi : i + 1 < c.n) : (corAt c h i).Ok := by
  obtain ⟨l0, l1, l2⟩ := hg.len hi
  obtain ⟨_, _, hok, _⟩ := hg
  have l3 : (1 : Int) ≤ c.len i := by omega
  exact ⟨(hok i (by omega)).1, (hok i (by omega)).2, l0.symm, l3, l2, h0, h1, Int.le_refl 0, by dsimp only [corAt]; omega, by dsimp only [corAt]; omega, Int.le_refl _⟩
theorem Try.info101 : (Try.prog.info? 101).map (fun i => (i.zero, i.size, i.bytes)) = some (some (.agg #[.int .i64 0, .int .i64 0, .int .i64 0, .int .i64 0, .int .i64 0, .int .i64 0, .int .i64 0, .int .i64 0, .int .i64 0, .int .i64 0, .int .i64 0, .int .i64 0, .int .i64 0, .int .i64 0, .int .i64 0]), 15, 120) := by kernel_rfl

/-- Rows of cells, one row of 15 for each place. -/
def rowsK (F : Nat → Cor) : Nat → List Value
  | 0 => []
  | n + 1 => rowsK F n ++ (corC (F n)).toList
theorem rowsK_len (F : Nat → Cor) (n : Nat) : (rowsK F n).length = n * 15 := by
  induction n with
  | zero => rfl
  | succ n ih => unfold rowsK; rw [List.length_append, ih]; simp; omega
theorem rowsK_get (F : Nat → Cor) {n i j : Nat} (hi : i < n) (hj : j < 15) : (rowsK F n)[i * 15 + j]? = (corC (F i))[j]? := by
  induction n with
  | zero => omega
  | succ n ih =>
    unfold rowsK
    by_cases h : i < n
    · rw [List.getElem?_append_left (by rw [rowsK_len]; omega)]
      exact ih h
    · obtain rfl : i = n := by omega
      rw [List.getElem?_append_right (by rw [rowsK_len]; omega), rowsK_len, show i * 15 + j - i * 15 = j by omega]
      exact Array.getElem?_toList
def CorsAt (W : World) (g n : Nat) (F : Nat → Cor) : Prop := ∀ i, i < n → ∀ j, j < 15 → W.cell? ⟨g, i * 15 + j, none⟩ = (corC (F i))[j]?
theorem cors_of_own {W : World} {base g n cap : Nat} {F : Nat → Cor} (h : W.ownsRow base 101 15 (.slice (some ⟨g, 0, none⟩) n cap) n (rowsK F n)) : CorsAt W g n F := by
  intro i hi j hj
  obtain ⟨_, h2⟩ := h
  rcases h2 with ⟨h2, _⟩ | ⟨g', cap', cur, he, _, hc, _, _, _, ht⟩
  · cases h2
  · cases he
    rw [World.cell?, hc]
    have := rowsK_get F hi hj
    rw [← ht, List.getElem?_take, if_pos (by omega)] at this
    rw [← this]
    simp
theorem CorsAt.below {W W' : World} {g n : Nat} {F : Nat → Cor} (h : CorsAt W g n F) {B : Nat} (hb : Below B W W') (hg : g < B) : CorsAt W' g n F := fun i hi j hj => (World.cell?_of_block (hb.block g hg)).trans (h i hi j hj)

def corsL (c : Crv) (h : Int) {N : Nat} (pre : List (Ix N)) : List Value := pre.flatMap (fun x => (corC (corAt c h x.1)).toList)
theorem corsL_snoc (c : Crv) (h : Int) {N : Nat} (pre : List (Ix N)) (x : Ix N) : corsL c h (pre ++ [x]) = corsL c h pre ++ (corC (corAt c h x.1)).toList := by simp [corsL]
theorem corsL_upto (c : Crv) (h : Int) {N k : Nat} (hk : k ≤ N) : corsL c h (upto N k) = rowsK (corAt c h) k := by
  induction k with
  | zero => rw [upto_zero]; rfl
  | succ k ih => rw [upto_succ (by omega), corsL_snoc, ih (by omega)]; rfl
theorem corsL_all (c : Crv) (h : Int) (N : Nat) : corsL c h (allIx N) = rowsK (corAt c h) N := by
  rw [← corsL_upto c h (Nat.le_refl N)]; unfold upto; rw [List.take_of_length_le (by rw [allIx_length]; exact Nat.le_refl _)]
theorem corC_one (A : Cor) : ∀ u ∈ (corC A).toList, u.oneCell' = true := by
  intro u hu
  simp only [List.mem_cons, List.not_mem_nil, or_false] at hu
  rcases hu with h | h | h | h | h | h | h | h | h | h | h | h | h | h | h <;> (rw [h]; rfl)
theorem cells_new (w : World) (t : TypeId) (cs : Array Value) : ∀ j u, cs.toList[j]? = some u → (w.alloc (.cells cs t)).cell? (Addr.add ⟨w.heap.size, 0, none⟩ j) = some u := by
  intro j u h
  rw [Array.getElem?_toList] at h
  have := (BoxAt.new w t cs).cell j
  rw [h] at this
  unfold Addr.add
  split
  · rename_i hj
    rw [hj] at this
    exact this
  · rw [show (0 : Nat) + j = j by omega]
    exact this

theorem cors_own (Bb base : Nat) (c : Crv) (h : Int) {N : Nat} : Own (fun (pre : List (Ix N)) W => ∃ v, BoxAt W Bb 96 #[v] ∧ W.ownsRow base 101 15 v pre.length (corsL c h pre)) := by
  intro s W W' row ⟨v, hb, ho⟩ hg hr
  refine ⟨v, boxAt_own (β := Unit) Bb 96 (fun _ => #[v]) () W W' row hb hg hr, ho.kept hg ?_⟩
  cases hv : v.ownBlock with
  | none => exact .inl rfl
  | some j =>
    right
    intro e
    obtain ⟨o, ho2, hc⟩ := hr j e.symm
    obtain ⟨_, cur, hcur⟩ := row_cells ho hv
    rw [hcur] at ho2; cases ho2; cases hc
theorem cors_boxes (w : World) (s : Value) (h : Int) : BoxAt ((w.alloc (.cells #[s] 24)).alloc (.cells #[.int .i64 h] 2)) w.heap.size 24 #[s] ∧ BoxAt ((w.alloc (.cells #[s] 24)).alloc (.cells #[.int .i64 h] 2)) (w.heap.size + 1) 2 #[.int .i64 h] ∧ Below w.heap.size w ((w.alloc (.cells #[s] 24)).alloc (.cells #[.int .i64 h] 2)) := by
  have h2 := BoxAt.new (w.alloc (.cells #[s] 24)) 2 #[.int .i64 h]
  rw [World.size_alloc] at h2
  exact ⟨(BoxAt.new w 24 _).alloc _, h2, ((Below.refl _ w).alloc (Nat.le_refl _) _).alloc (by simp) _⟩

def CorsPost (F : Nat → Cor) (k : Nat) (w : World) (e : Ending) (w' : World) : Prop := ∃ g cap, e = .returned (.slice (some ⟨g, 0, none⟩) k cap) ∧ CorsAt w' g k F ∧ g < w'.heap.size ∧ w.heap.size ≤ g ∧ Below w.heap.size w w'

set_option maxRecDepth 100000 in
set_option maxHeartbeats 4000000 in
theorem cors_in (m : Nat) (hm : 3 ≤ m) (b off cap : Nat) (c : Crv) (hg : Good c) (h : Int) (h0 : 0 ≤ h) (h1 : h ≤ 4000) (w : World) (hp : Pts w b off c.n c.X c.Y) (hb : b < w.heap.size) :
    CallsIn Fence.wide m Try.prog 81 #[cv b off c.n cap, .int .i64 h] w (CorsPost (corAt c h) (c.n - 1) w) := by
  obtain ⟨i0_, hi0, hz0, hz1, hz2⟩ := info_parts Try.info101
  have hI0 := Lib.hid hi0
  have hZ0 := Lib.hid hz0
  have hZ1 := Lib.hid hz1
  have hZ2 := Lib.hid hz2
  clear hi0 hz0 hz1 hz2
  obtain ⟨hn, hn', hok, _⟩ := id hg
  obtain ⟨b24, b2, hB⟩ := cors_boxes w (.slice (some ⟨b, off, none⟩) c.n cap) h
  refine callsIn_of_wp_marks Try.func81 rfl trivial ?_ rfl
  simp only [Try.ntmps81, List.size_toArray, List.length_cons, List.length_nil, Nat.reduceAdd, Nat.reduceSub, Array.replicate_succ, Array.replicate_zero, List.push_toArray, List.append_toArray, List.nil_append, List.cons_append]
  gi_wp2_with (first
    | (refine ⟨trivial, fun _ => by omega, ?_⟩; gi_at_call 60; refine (callsIn_wide.2 (pieces_any b off c.n cap _)).mono ?_; rintro e w3 ⟨rfl, rfl⟩))
  obtain ⟨w2, hw2⟩ : ∃ x, x = (w.alloc (.cells #[.slice (some ⟨b, off, none⟩) c.n cap] 24)).alloc (.cells #[.int .i64 h] 2) := ⟨_, rfl⟩
  have hs2 : w2.heap.size = w.heap.size + 1 + 1 := by rw [hw2]; simp
  rw [← hw2] at b24 b2 hB ⊢
  clear hw2
  obtain ⟨Bb, hBb⟩ : ∃ Bb, Bb = w2.heap.size := ⟨_, rfl⟩
  rw [show w.heap.size + 1 + 1 = Bb by omega]
  obtain ⟨W0, hW0⟩ : ∃ W0, ((w2.alloc (.cells #[.slice none 0 0] 96)).alloc (.cells #[.slice (some ⟨b, off, none⟩) c.n cap] 24)) = W0 := ⟨_, rfl⟩
  obtain ⟨sB, sP, hB10, hsz⟩ := two_boxes w2 96 #[.slice none 0 0] (.slice (some ⟨b, off, none⟩) c.n cap)
  have hbl : b < Bb := by have := hB.size; omega
  have hp0 : Pts W0 b off c.n c.X c.Y := by rw [← hW0]; exact (hp.below hB hb).below hB10 (by omega)
  rw [hW0, ← hBb] at sB sP hsz
  rw [hW0, ← hBb] at hB10
  rw [hW0]
  have hBb1 : Bb ≤ w2.heap.size := by omega
  have hBb2 : w2.heap.size ≤ Bb := by omega
  have l2 := b2.lt
  rw [← hBb] at l2
  clear hBb hs2 hW0 b24
  refine wpIn_rangeFunc_ownH rfl (by omega) (gf := 89) (lb := #[.pointer (some ⟨Bb + 1, 0, none⟩)]) rfl trivial (enters_of Try.func89 (by kernel_rfl) rfl)
    (pieces_stops4 (m - 1) (by omega) (Bb + 1) Bb (Bb + 1) b off cap c hn hn' hok hbl W0 sP (Nat.le_refl _) hp0 (by omega)) Kp4.trans (kp4_b (w := W0) (by omega)) (Below.refl _ _) (fun _ => rfl)
    (fun pre W => (∃ v, BoxAt W Bb 96 #[v] ∧ W.ownsRow (Bb + 2) 101 15 v pre.length (corsL c h pre)) ∧ Below Bb w2 W)
    (fun _ _ _ => False)
    (OwnFrom.and (Own.from (cors_own Bb (Bb + 2) c h) _) (ownFrom_below (by omega) (by omega)))
    (fun _ _ _ _ _ hs _ _ => hs)
    ⟨⟨_, sB, World.ownsRow_nil _ _ _ _⟩, hB10⟩
    (fun x a' W => ∃ Bx, BoxAt W Bx 81 #[.int .i64 (c.X x.1), .int .i64 (c.Y x.1), .int .i64 (c.wx x.1), .int .i64 (c.wy x.1), .int .i64 (c.len x.1), .int .i64 (c.st x.1)] ∧
      a' = { tmps := #[cv b off c.n cap, .int .i64 h, .pointer (some ⟨w.heap.size, 0, none⟩), .pointer (some ⟨w.heap.size + 1, 0, none⟩), .slice none 0 0, .pointer (some ⟨Bb, 0, none⟩), undef, .pointer (some ⟨Bx, 0, none⟩), .agg #[.slice (some ⟨b, off, none⟩) c.n cap],
          .func (.func 89) #[] #[.pointer (some ⟨Bb + 1, 0, none⟩)], .int .i64 (x.1 : Int), pcv c x.1, undef, undef, undef, undef, undef, undef, undef, undef, undef, undef, undef, undef, undef, undef, undef, undef, undef, undef, undef, undef, undef, undef, undef, undef, undef], defers := [] })
    (fun x a' => Own.from (fun _ A B row hs hg hr => by obtain ⟨Bx, h2, h3⟩ := hs; exact ⟨Bx, boxAt_own (β := Unit) _ _ (fun _ => _) () A B row h2 hg hr, h3⟩) _) ?assign ?body ?done ?stop
  case assign =>
    rintro l pre x W K ⟨⟨v, h1, hown⟩, hB⟩ hK
    gi_wp2
    exact hK _ _ ((KeepsOthers.alloc _ _).from _) ((Kp4.refl _ _ _).alloc (by have := hB.size; omega) _) ⟨⟨v, h1.alloc _, hown.alloc _⟩, hB.alloc (by have := hB.size; omega) _⟩ ⟨W.heap.size, BoxAt.new _ _ _, rfl⟩
  case body =>
    rintro l pre x a' W hl hr ⟨⟨v, hS, hown⟩, hB3⟩ ⟨Bx, hbx, rfl⟩ hlt
    have hlt' : pre.length < 16 := by omega
    have hi : x.1 + 1 < c.n := by have := x.2; omega
    have HO := Lib.hid hown
    obtain ⟨_, l1, l3⟩ := hg.len hi
    have y1 := Crv.okd_wy hok hi
    have hbW := BoxAt.below b2 (hB3.mono (by omega)) (by omega)
    have hlb : Bb + 2 ≤ W.heap.size := by obtain ⟨_, hr'⟩ := hr; have := (Array.getElem?_eq_some_iff.1 hr').1; omega
    have hSl := hS.lt
    have hA : (corC (corAt c h x.1)) = #[.int .i64 (c.X x.1), .int .i64 (c.Y x.1), .int .i64 (c.wx x.1), .int .i64 (c.wy x.1), .int .i64 (c.len x.1), .int .i64 (c.st x.1), .int .i64 h, .int .i64 (c.wx x.1), .int .i64 (c.wy x.1), .int .i64 (-(c.wy x.1)), .int .i64 (c.wx x.1), .int .i64 0, .int .i64 (-h), .int .i64 (c.len x.1), .int .i64 h] := rfl
    have HSN := Lib.hid (corsL_snoc c h pre x)
    have HON := Lib.hid (corC_one (corAt c h x.1))
    have HC := Lib.hid hA.symm
    clear hown hp hg hok hn hn' hp0 sP sB hA
    unfold okd at y1
    have k0 : W.cell? ⟨Bx, 0, none⟩ = some (.int .i64 (c.X x.1)) := hbx.cell 0
    have k1 : W.cell? ⟨Bx, 1, none⟩ = some (.int .i64 (c.Y x.1)) := hbx.cell 1
    have k2 : W.cell? ⟨Bx, 2, none⟩ = some (.int .i64 (c.wx x.1)) := hbx.cell 2
    have k3 : W.cell? ⟨Bx, 3, none⟩ = some (.int .i64 (c.wy x.1)) := hbx.cell 3
    have k4 : W.cell? ⟨Bx, 4, none⟩ = some (.int .i64 (c.len x.1)) := hbx.cell 4
    have k5 : W.cell? ⟨Bx, 5, none⟩ = some (.int .i64 (c.st x.1)) := hbx.cell 5
    have k6 : W.cell? ⟨w.heap.size + 1, 0, none⟩ = some (.int .i64 h) := hbW.cell 0
    have s0 : W.cell? ⟨Bb, 0, none⟩ = some v := hS.cell 0
    have s1 : W.frozen? ⟨Bb, 0, none⟩ = false := hS.frozen 0
    have hlx := hbx.lt
    gi_wp2_with (gi_at_builtin; refine wpListIn_append_own _ rfl _ _ 96 rfl (Bb + 2) 101 i0_ (.agg #[.int .i64 0, .int .i64 0, .int .i64 0, .int .i64 0, .int .i64 0, .int .i64 0, .int .i64 0, .int .i64 0, .int .i64 0, .int .i64 0, .int .i64 0, .int .i64 0, .int .i64 0, .int .i64 0, .int .i64 0]) 15 120 Try.underlying96 hI0.out hZ0.out hZ1.out hZ2.out rfl (by decide) v pre.length (corsL c h pre) rfl (HO.out.alloc _) ⟨W.heap.size, 0, none⟩ 1 1 (corC (corAt c h x.1)).toList rfl rfl (cells_new _ _ _) HON.out (by unfold maxLen; omega) (by omega) (by simp; omega) ?_; intro v' w7 hown7 hgrow _; obtain ⟨g', cap', rfl, hg1, hg2⟩ := hown7.form (by omega); have hb7 : Hid (BoxAt w7 Bb 96 #[v]) := (hS.alloc _).grown hgrow (row_ne2 HO.out (by omega)); have c7 : w7.cell? ⟨Bb, 0, none⟩ = some v := BoxAt.cell hb7.out 0; have f7 : w7.frozen? ⟨Bb, 0, none⟩ = false := BoxAt.frozen hb7.out 0)
    rw [HC.out] at hgrow
    have hrc : ∀ j, v.ownBlock = some j → Bb + 2 ≤ j ∧ ∃ cur, (W.alloc (.cells (corC (corAt c h x.1)) 101)).heap[j]? = some (.cells cur 101 (0, 0)) := fun j e => row_cells (HO.out.alloc _) e
    have hB3s := hB3.size
    refine ⟨(((KeepsOthers.alloc W _).trans (KeepsOthers.of_grownBy hgrow (fun j o e ho => by obtain ⟨_, cur, hc⟩ := hrc j e; rw [hc] at ho; cases ho; rfl))).trans (KeepsOthers.setCell _ _ _)).from _,
      (((Kp4.refl _ _ _).alloc (by omega) _).grown (by simp; omega) hgrow (fun g e => ⟨by have := (hrc g e).1; omega, (hrc g e).2⟩)).setCell (p := ⟨Bb, 0, none⟩) (by show Bb ≤ Bb; omega) (by show Bb < Bb + 1; omega) _,
      ⟨_, hb7.out.set 0 _, ?_⟩, ((hB3.alloc (by omega) _).grown hgrow (by simp; omega) (fun g e => by have := (hrc g e).1; omega)).setCell (p := ⟨Bb, 0, none⟩) (by show Bb ≤ Bb; omega) _⟩
    rw [HSN.out, List.length_append]
    exact hown7.kept (grownBy_setCell' _ _ _) (.inr (by simp [Value.ownBlock]; omega))
  case done =>
    rintro D ys W hD rfl ⟨⟨v, hS, hown⟩, hB3⟩ hK
    rw [corsL_all, allIx_length] at hown
    have s0 : W.cell? ⟨Bb, 0, none⟩ = some v := hS.cell 0
    have hBB : Below w.heap.size w W := hB.trans (hB3.mono (by have := hB.size; omega))
    obtain ⟨g, cap', rfl, hg1, hg2⟩ := hown.form (by omega)
    have hI := Lib.hid (cors_of_own hown)
    have hgs : g < W.heap.size ∧ Bb + 2 ≤ g := ⟨(hown.lt g rfl).2, (hown.lt g rfl).1⟩
    have hne : g ≠ D := by
      rintro rfl
      obtain ⟨_, cur, hc⟩ := row_cells hown rfl
      rw [hc] at hK; cases hK
    have hl := after_loop hBB (by have := hB.size; omega) hK
    clear hown
    gi_wp2
    refine ⟨by simp, .inl ⟨_, _, rfl, run_takeDeferred hK, ?_⟩⟩
    refine ⟨_, results_tmp rfl _ _ _, g, cap', rfl, ?_, ?_, ?_, hl⟩
    · exact fun i hi j hj => (World.cell?_of_block (World.putObj_heap_other hne)).trans (hI.out i hi j hj)
    · simp [World.putObj]; omega
    · have := hB.size; omega
  case stop =>
    rintro D cd pre W _ _ h _
    exact h.elim

/-- **corridors, of a valid curve.** -/
theorem cors_good (b off cap : Nat) (c : Crv) (hg : Good c) (h : Int) (h0 : 0 ≤ h) (h1 : h ≤ 4000) (w : World) (hp : Pts w b off c.n c.X c.Y) :
    Calls Try.prog 81 #[cv b off c.n cap, .int .i64 h] w (CorsPost (corAt c h) (c.n - 1) w) :=
  callsIn_wide.1 (cors_in 3 (Nat.le_refl _) b off cap c hg h h0 h1 w hp (hp.lt (by have := hg.lo; omega)))
end Go.Proofs.Ytglkpabcflecmaa
