/- The iterator over the shifts within the window has its contract. -/
import Derived.Test.YtaehfildhmljeaaRegC
import Derived.RangeFuncNested
import Derived.RangeFuncBound
import Derived.RangeFuncCalls
import Derived.RangeFuncLeaves
import Derived.RangeFuncBox
import Derived.Shelf.Abstract
import Derived.Shelf.RegionOpen
import Derived.OwnWalkIn
import Derived.TacticsInMore
import Derived.LoopNIn
import Derived.LoopIn
namespace Go.Proofs.Ytaehfildhmljeaa
open Go.RowKit Go.Shelf
attribute [local go_sem] Oper.semAt_some

/-- A shift within the window. -/
abbrev Cw (win : Int) := { p : Pt // inW p win = true }
def cnd (win : Int) (p : Pt) : List (Cw win) := if h : inW p win = true then [⟨p, h⟩] else []
section
variable (X Y X' Y' : Nat → Int) (m : Nat) (win : Int)
def cndJ (i : Nat) : Nat → List (Cw win)
  | 0 => []
  | j + 1 => cndJ i j ++ cnd win (X i - X' j, Y i - Y' j)
def cndI : Nat → List (Cw win)
  | 0 => []
  | i + 1 => cndI i ++ cndJ X Y X' Y' win i m
end
theorem cnd_yes {win : Int} {p : Pt} (h : inW p win = true) : cnd win p = [⟨p, h⟩] := by unfold cnd; rw [dif_pos h]
theorem cnd_no {win : Int} {p : Pt} (h : inW p win = false) : cnd win p = [] := by unfold cnd; rw [dif_neg (by simp [h])]
theorem cnd_len (win : Int) (p : Pt) : (cnd win p).length ≤ 1 := by unfold cnd; split <;> simp
theorem cndJ_len (X Y X' Y' : Nat → Int) (win : Int) (i : Nat) : ∀ j, (cndJ X Y X' Y' win i j).length ≤ j := by
  intro j
  induction j with
  | zero => simp [cndJ]
  | succ j ih =>
    have := cnd_len win (X i - X' j, Y i - Y' j)
    rw [cndJ, List.length_append]
    omega
theorem cndI_len (X Y X' Y' : Nat → Int) (m : Nat) (win : Int) (hm : m ≤ 60) : ∀ i, (cndI X Y X' Y' m win i).length ≤ i * 60 := by
  intro i
  induction i with
  | zero => simp [cndI]
  | succ i ih =>
    have := cndJ_len X Y X' Y' win i m
    rw [cndI, List.length_append]
    omega
theorem agr_in (p : Pt) (win : Int) : agrB p (0, 0) win = inW p win := by
  have h : ∀ a : Int, decide (dsF a 0 ≤ win) = (decide (-win ≤ a) && decide (a ≤ win)) := fun a => by
    rw [← Bool.decide_and]
    apply decide_eq_decide.2
    unfold dsF
    omega
  unfold agrB inW
  rw [h, h]

/-- What a round keeps: whatever lay below n₀; and the cells of all blocks from D on. -/
structure Kp2 (n₀ D : Nat) (W W' : World) : Prop where
  below : Below n₀ W W'
  cells : ∀ (k : Nat) (cs : Array Value) (t : TypeId) (fr : Nat × Nat), D ≤ k → W.heap[k]? = some (.cells cs t fr) → W'.heap[k]? = some (.cells cs t fr)
theorem Kp2.refl (n₀ D : Nat) (W : World) : Kp2 n₀ D W W := ⟨Below.refl _ _, fun _ _ _ _ _ h => h⟩
theorem Kp2.trans {n₀ D : Nat} {A B C : World} (h : Kp2 n₀ D A B) (k : Kp2 n₀ D B C) : Kp2 n₀ D A C := ⟨h.below.trans k.below, fun i cs t fr hi hA => k.cells i cs t fr hi (h.cells i cs t fr hi hA)⟩
theorem Kp2.of_below {n₀ D : Nat} {W W' : World} (h : Below W.heap.size W W') (hn : n₀ ≤ W.heap.size) : Kp2 n₀ D W W' :=
  ⟨h.mono hn, fun k _ _ _ _ hk => (h.block k (Array.getElem?_eq_some_iff.1 hk).1).trans hk⟩
theorem Kp2.setCell {n₀ D : Nat} {A W : World} (h : Kp2 n₀ D A W) {p : Addr} (hp : n₀ ≤ p.block) (hD : p.block < D) (u : Value) : Kp2 n₀ D A (W.setCell p u) :=
  ⟨h.below.setCell hp u, fun k cs t fr hk hA => (Below.heap_setCell W p u k (by omega)).trans (h.cells k cs t fr hk hA)⟩
theorem Kp2.alloc {n₀ D : Nat} {A W : World} (h : Kp2 n₀ D A W) (hn : n₀ ≤ W.heap.size) (o : Obj) : Kp2 n₀ D A (W.alloc o) :=
  ⟨h.below.alloc hn o, fun k cs t fr hk hA => by
    have := h.cells k cs t fr hk hA
    exact (Below.heap_alloc W o k (Array.getElem?_eq_some_iff.1 this).1).trans this⟩
theorem kp2_b {n₀ D : Nat} {w : World} (hn : n₀ ≤ w.heap.size) (W : World) (l : Nat) (o o' : Obj) (hl : w.heap.size ≤ l) (h : W.heap[l]? = some o) (hc : o.isCells = false) (hw : o.isWalk = false) : Kp2 n₀ D W (W.putObj l o') :=
  ⟨belowK_b hn W l o o' hl h hc hw, fun k cs t fr _ hk => by
    have hne : k ≠ l := by rintro rfl; rw [hk] at h; cases h; cases hc
    exact (World.putObj_heap_other hne).trans hk⟩
theorem Kp2.box {n₀ D : Nat} {W W' : World} (h : Kp2 n₀ D W W') {g : Nat} {t : TypeId} {cs : Array Value} (hg : D ≤ g) (hb : BoxAt W g t cs) : BoxAt W' g t cs := h.cells g cs t (0, 0) hg hb

set_option maxRecDepth 100000 in
set_option maxHeartbeats 8000000 in
theorem cand_in (f : Nat) (hf : 1 ≤ f) (l Ba n₀ D : Nat) (A : Option Addr) (n c1 : Nat) (X Y V : Nat → Int) (B : Option Addr) (m c2 : Nat) (X' Y' V' : Nat → Int) (win : Int) (hn : n ≤ 60) (hm : m ≤ 60)
    (ho : ∀ i, i < n → okc (X i) ∧ okc (Y i)) (ho' : ∀ i, i < m → okc (X' i) ∧ okc (Y' i)) (J Jx : List (Cw win) → World → Prop)
    (W : World) (HCa : Hid (∀ W', Below n₀ W W' → Cloud W' A n X Y V)) (HCb : Hid (∀ W', Below n₀ W W' → Cloud W' B m X' Y' V')) (hJ : AbidesFrom W.heap.size J)
    (hY : ∀ pre (x : Cw win) W, J pre W → pre.length < 3600 → YieldAt Fence.wide (f - 1) Try.prog l #[sp x.1.1 x.1.2] W fun e W' =>
      (e = .returned (.bool true) ∧ J (pre ++ [x]) W' ∧ Kp2 n₀ D W W') ∨ (e = .returned (.bool false) ∧ Jx (pre ++ [x]) W'))
    (hBa : BoxAt W Ba 22 #[.slice A n c1]) (hBb : BoxAt W (Ba + 1) 22 #[.slice B m c2]) (hBw : BoxAt W (Ba + 2) 2 #[.int .i64 win]) (hBn : D ≤ Ba) (hW : n₀ ≤ W.heap.size) (h0 : J [] W) :
    CallsIn Fence.wide f Try.prog 123 #[.func (.yield l) #[] #[], .pointer (some ⟨Ba, 0, none⟩), .pointer (some ⟨Ba + 1, 0, none⟩), .pointer (some ⟨Ba + 2, 0, none⟩)] W fun e W' => (∃ v, e = .returned v) ∧
      ((∃ ys, ys = cndI X Y X' Y' m win n ∧ J ys W') ∨ (∃ pre, True ∧ Jx pre W')) := by
  have HO := Lib.hid ho
  have HO' := Lib.hid ho'
  have HJ := Lib.hid hJ
  have HY := Lib.hid hY
  have n0 : (0 : Int) ≤ (n : Int) := Int.natCast_nonneg _
  have m0 : (0 : Int) ≤ (m : Int) := Int.natCast_nonneg _
  clear ho ho' hJ hY
  refine callsIn_of_wp Try.func123 rfl trivial ?_ rfl
  simp only [Try.ntmps123, List.size_toArray, List.length_cons, List.length_nil, Nat.reduceAdd, Nat.reduceSub, Array.replicate_succ, Array.replicate_zero, List.push_toArray, List.append_toArray, List.nil_append, List.cons_append]
  have a0 : W.cell? ⟨Ba, 0, none⟩ = some (.slice A n c1) := hBa.cell 0
  have HBb := Lib.hid hBb
  have HBw := Lib.hid hBw
  clear hBb hBw hBa
  gi_wp2
  gi_loopw [12] (fun iv wr => ∃ i : Nat, i ≤ n ∧ iv = .int .i64 i ∧ Hid (J (cndI X Y X' Y' m win i) wr) ∧ W.heap.size ≤ wr.heap.size ∧ Hid (Below n₀ W wr) ∧ Hid (BoxAt wr (Ba + 1) 22 #[.slice B m c2]) ∧ Hid (BoxAt wr (Ba + 2) 2 #[.int .i64 win])) (fun iv _ => n - (intOf iv).toNat)
  case atStart => exact ⟨0, Nat.zero_le _, rfl, Lib.hid h0, Nat.le_refl _, Lib.hid (Below.refl _ _), HBb, HBw⟩
  case round =>
    clear HBb HBw h0 a0
    obtain ⟨i, hi, rfl, HJi, hsz, HB, HBb, HBw⟩ := hrel
    by_cases hlt : i < n
    · have i0 : (0 : Int) ≤ (i : Int) := Int.natCast_nonneg _
      have i1 : (i : Int) < (n : Int) := by omega
      obtain ⟨b1, o1, e1, hp1⟩ := HCa.out wr HB.out (by omega)
      subst e1
      obtain ⟨p0, p1, p2⟩ := hp1 i hlt
      have hq1 := hp1.lt (by omega)
      have b0 : wr.cell? ⟨Ba + 1, 0, none⟩ = some (.slice B m c2) := HBb.out.cell 0
      have lb := HBb.out.lt
      have HI : ∃ j : Nat, j ≤ m ∧ (Value.int .i64 0) = .int .i64 j ∧ Hid (J (cndI X Y X' Y' m win i ++ cndJ X Y X' Y' win i j) (wr.alloc (.cells #[.int .i64 (X i), .int .i64 (Y i), .int .i64 (V i)] 69))) ∧ W.heap.size ≤ (wr.alloc (.cells #[.int .i64 (X i), .int .i64 (Y i), .int .i64 (V i)] 69)).heap.size ∧ Hid (Below n₀ W (wr.alloc (.cells #[.int .i64 (X i), .int .i64 (Y i), .int .i64 (V i)] 69))) ∧ Hid (BoxAt (wr.alloc (.cells #[.int .i64 (X i), .int .i64 (Y i), .int .i64 (V i)] 69)) (Ba + 1) 22 #[.slice B m c2]) ∧ Hid (BoxAt (wr.alloc (.cells #[.int .i64 (X i), .int .i64 (Y i), .int .i64 (V i)] 69)) (Ba + 2) 2 #[.int .i64 win]) ∧ Hid (BoxAt (wr.alloc (.cells #[.int .i64 (X i), .int .i64 (Y i), .int .i64 (V i)] 69)) wr.heap.size 69 #[.int .i64 (X i), .int .i64 (Y i), .int .i64 (V i)]) :=
        ⟨0, Nat.zero_le _, rfl, Lib.hid (by rw [cndJ, List.append_nil]; exact HJ.out _ _ _ none HJi.out (grown_of_below ((Below.refl _ wr).alloc (Nat.le_refl _) _)) (fun r e => by cases e)), by simp; omega, Lib.hid (HB.out.alloc (by omega) _), Lib.hid (HBb.out.alloc _), Lib.hid (HBw.out.alloc _), Lib.hid (BoxAt.new _ _ _)⟩
      have HIh := Lib.hid HI
      clear HI hp1
      gi_wp2
      obtain ⟨L6, hL6⟩ : ∃ z, z = wr.heap.size := ⟨_, rfl⟩
      have hL6D : D ≤ L6 := by omega
      rw [← hL6] at HIh ⊢
      generalize wr.alloc (.cells #[.int .i64 (X i), .int .i64 (Y i), .int .i64 (V i)] 69) = wx at *
      clear hL6
      gi_loopw [18] (fun jv wr => ∃ j : Nat, j ≤ m ∧ jv = .int .i64 j ∧ Hid (J (cndI X Y X' Y' m win i ++ cndJ X Y X' Y' win i j) wr) ∧ W.heap.size ≤ wr.heap.size ∧ Hid (Below n₀ W wr) ∧ Hid (BoxAt wr (Ba + 1) 22 #[.slice B m c2]) ∧ Hid (BoxAt wr (Ba + 2) 2 #[.int .i64 win]) ∧ Hid (BoxAt wr L6 69 #[.int .i64 (X i), .int .i64 (Y i), .int .i64 (V i)])) (fun jv _ => m - (intOf jv).toNat)
      case atStart => exact HIh.out
      case round =>
        clear HIh HBb HBw HB HJi hsz p0 p1 p2 b0 lb hq1
        obtain ⟨j, hj, rfl, HJj, hsz, HB, HBb, HBw, HB6⟩ := hrel
        by_cases hltj : j < m
        · have j0 : (0 : Int) ≤ (j : Int) := Int.natCast_nonneg _
          have j1 : (j : Int) < (m : Int) := by omega
          obtain ⟨b2, o2, e2, hp2⟩ := HCb.out wr HB.out (by omega)
          subst e2
          obtain ⟨p3, p4, p5⟩ := hp2 j hltj
          have hq2 := hp2.lt (by omega)
          have h6 := HB6.out
          have q0 : wr.cell? ⟨L6, 0, none⟩ = some (.int .i64 (X i)) := h6.cell 0
          have q1 : wr.cell? ⟨L6, 1, none⟩ = some (.int .i64 (Y i)) := h6.cell 1
          have l6 := h6.lt
          have hw := HBw.out
          have r0 : wr.cell? ⟨Ba + 2, 0, none⟩ = some (.int .i64 win) := hw.cell 0
          have lw := hw.lt
          have oi := HO.out i hlt
          have oj := HO'.out j hltj
          unfold okc at oi oj
          have w1 : wrap64 (X i - X' j) = X i - X' j := by unfold wrap64; omega
          have w2 : wrap64 (Y i - Y' j) = Y i - Y' j := by unfold wrap64; omega
          have HNx : Hid (cndJ X Y X' Y' win i (j + 1) = cndJ X Y X' Y' win i j ++ cnd win (X i - X' j, Y i - Y' j)) := Lib.hid rfl
          have hlen : (cndI X Y X' Y' m win i ++ cndJ X Y X' Y' win i j).length < 3600 := by
            have a1 := cndI_len X Y X' Y' m win hm i
            have a2 := cndJ_len X Y X' Y' win i j
            rw [List.length_append]
            omega
          have pb : (-1073741824 ≤ X i - X' j ∧ X i - X' j ≤ 1073741824) ∧ (-1073741824 ≤ Y i - Y' j ∧ Y i - Y' j ≤ 1073741824) := by omega
          obtain ⟨p, hp⟩ : ∃ p, p = X i - X' j := ⟨_, rfl⟩
          obtain ⟨q, hq⟩ : ∃ q, q = Y i - Y' j := ⟨_, rfl⟩
          rw [← hp, ← hq] at HNx pb
          replace w1 : wrap64 (X i - X' j) = p := by rw [w1, hp]
          replace w2 : wrap64 (Y i - Y' j) = q := by rw [w2, hq]
          obtain ⟨r, hr⟩ : ∃ r, inW (p, q) win = r := ⟨_, rfl⟩
          have HAg := Lib.hid (fun W => agree_any p q 0 0 win r (Lib.hid ((agr_in (p, q) win).trans hr)) W (by omega) (by omega) (by omega) (by omega))
          have hbel : Below wr.heap.size wr ((wr.alloc (.cells #[.int .i64 (X' j), .int .i64 (Y' j), .int .i64 (V' j)] 69)).alloc (.cells #[.int .i64 p, .int .i64 q] 24)) := ((Below.refl _ wr).alloc (Nat.le_refl _) _).alloc (by simp) _
          have h9 : BoxAt ((wr.alloc (.cells #[.int .i64 (X' j), .int .i64 (Y' j), .int .i64 (V' j)] 69)).alloc (.cells #[.int .i64 p, .int .i64 q] 24)) (wr.heap.size + 1) 24 #[.int .i64 p, .int .i64 q] := by
            have := BoxAt.new (wr.alloc (.cells #[.int .i64 (X' j), .int .i64 (Y' j), .int .i64 (V' j)] 69)) 24 #[.int .i64 p, .int .i64 q]
            rwa [World.size_alloc] at this
          have Hbel := Lib.hid hbel
          have H9 := Lib.hid h9
          have HR := Lib.hid hr
          clear hbel h9 hp2 hp hq oi oj pb hr h6 hw
          cases r with
          | false =>
            have HN : Hid (cndI X Y X' Y' m win i ++ cndJ X Y X' Y' win i (j + 1) = cndI X Y X' Y' m win i ++ cndJ X Y X' Y' win i j) := Lib.hid (by rw [HNx.out, cnd_no HR.out, List.append_nil])
            gi_wp2
            refine And.intro trivial ?_
            gi_at_call 122
            refine (callsIn_wide.2 (HAg.out _)).mono ?_
            rintro e w3 ⟨rfl, hb3⟩
            have HB3 := Lib.hid (below_step Hbel.out hb3)
            have hz3 := HB3.out.size
            gi_wp2
            refine And.intro (fun _ h => by cases h) ?_
            gi_wp2
            go_roundw
            case rel => exact ⟨j + 1, by omega, by go_num, Lib.hid (by rw [HN.out]; exact HJ.out _ _ _ none HJj.out (grown_of_below HB3.out) (fun r e => by cases e)), by omega, Lib.hid (HB.out.trans (HB3.out.mono (by omega))), Lib.hid (box_step HBb.out HB3.out), Lib.hid (box_step HBw.out HB3.out), Lib.hid (box_step HB6.out HB3.out)⟩
            case measure => simp [intOf]; omega
          | true =>
            have HN : Hid (cndI X Y X' Y' m win i ++ cndJ X Y X' Y' win i (j + 1) = (cndI X Y X' Y' m win i ++ cndJ X Y X' Y' win i j) ++ [⟨(p, q), HR.out⟩]) := Lib.hid (by rw [HNx.out, cnd_yes HR.out, List.append_assoc])
            have HYY : Hid (∀ w3, Below wr.heap.size wr w3 → YieldAt Fence.wide (f - 1) Try.prog l #[sp p q] w3 fun e W' => (e = .returned (.bool true) ∧ J ((cndI X Y X' Y' m win i ++ cndJ X Y X' Y' win i j) ++ [⟨(p, q), HR.out⟩]) W' ∧ Kp2 n₀ D w3 W') ∨ (e = .returned (.bool false) ∧ Jx ((cndI X Y X' Y' m win i ++ cndJ X Y X' Y' win i j) ++ [⟨(p, q), HR.out⟩]) W')) :=
              Lib.hid (fun w3 hb => HY.out _ ⟨(p, q), HR.out⟩ w3 (HJ.out _ _ _ none HJj.out (grown_of_below hb) (fun r e => by cases e)) hlen)
            clear hlen HNx
            gi_wp2
            refine And.intro trivial ?_
            gi_at_call 122
            refine (callsIn_wide.2 (HAg.out _)).mono ?_
            rintro e w3 ⟨rfl, hb3⟩
            have HB3 := Lib.hid (below_step Hbel.out hb3)
            have hz3 := HB3.out.size
            have H93 := Lib.hid (box_step H9.out hb3)
            have z0 : w3.cell? ⟨wr.heap.size + 1, 0, none⟩ = some (.int .i64 p) := H93.out.cell 0
            have z1 : w3.cell? ⟨wr.heap.size + 1, 1, none⟩ = some (.int .i64 q) := H93.out.cell 1
            have l9 := H93.out.lt
            obtain ⟨fn, tmps, assign, body, hy, hR⟩ := HYY.out w3 HB3.out
            gi_wp2
            refine hR.mono ?_
            rintro e W4 (⟨rfl, hJ4, hk4⟩ | ⟨rfl, hJx4⟩)
            · have hz4 := hk4.below.size
              have HB4 := Lib.hid ((HB.out.trans (HB3.out.mono (by omega))).trans hk4.below)
              gi_wp2
              go_roundw
              case rel => exact ⟨j + 1, by omega, by go_num, Lib.hid (by rw [HN.out]; exact hJ4), by omega, HB4, Lib.hid (hk4.box (by omega) (box_step HBb.out HB3.out)), Lib.hid (hk4.box (by omega) (box_step HBw.out HB3.out)), Lib.hid (hk4.box hL6D (box_step HB6.out HB3.out))⟩
              case measure => simp [intOf]; omega
            · gi_wp2
              refine bodyPost_ret (results_none rfl _ _ _) rfl ?_
              exact ⟨⟨_, rfl⟩, .inr ⟨_, trivial, hJx4⟩⟩
        · obtain rfl : j = m := by omega
          have j1 : ¬ (j : Int) < (j : Int) := by omega
          gi_wp2
          go_roundw
          case rel => exact ⟨i + 1, by omega, by go_num, HJj, hsz, HB, HBb, HBw⟩
          case measure => simp [intOf]; omega
    · obtain rfl : i = n := by omega
      have i1 : ¬ (i : Int) < (i : Int) := by omega
      gi_wp2
      go_end0
      exact ⟨⟨_, rfl⟩, .inl HJi.out⟩

/-- The iterator has its contract: all shifts within the window, in their order. -/
theorem cand_stops (f : Nat) (hf : 1 ≤ f) (Ba n₀ D : Nat) (A : Option Addr) (n c1 : Nat) (X Y V : Nat → Int) (B : Option Addr) (m c2 : Nat) (X' Y' V' : Nat → Int) (win : Int) (hn : n ≤ 60) (hm : m ≤ 60)
    (ho : ∀ i, i < n → okc (X i) ∧ okc (Y i)) (ho' : ∀ i, i < m → okc (X' i) ∧ okc (Y' i)) (w : World) (HCa : Hid (∀ W', Below n₀ w W' → Cloud W' A n X Y V)) (HCb : Hid (∀ W', Below n₀ w W' → Cloud W' B m X' Y' V'))
    (hBa : BoxAt w Ba 22 #[.slice A n c1]) (hBb : BoxAt w (Ba + 1) 22 #[.slice B m c2]) (hBw : BoxAt w (Ba + 2) 2 #[.int .i64 win]) (hBn : D ≤ Ba) (hW : n₀ ≤ w.heap.size) :
    SeqStopsK Fence.wide f Try.prog 123 #[.pointer (some ⟨Ba, 0, none⟩), .pointer (some ⟨Ba + 1, 0, none⟩), .pointer (some ⟨Ba + 2, 0, none⟩)] (fun x : Cw win => #[sp x.1.1 x.1.2]) (Kp2 n₀ D)
      (fun ys => ys = cndI X Y X' Y' m win n) (fun _ => True) 3600 w := fun l J Jx W hWW hJ hJx hY h0 =>
  cand_in f hf l Ba n₀ D A n c1 X Y V B m c2 X' Y' V' win hn hm ho ho' J Jx W (Lib.hid (fun W' h => HCa.out W' ((hWW.mono hW).trans h))) (Lib.hid (fun W' h => HCb.out W' ((hWW.mono hW).trans h))) hJ hY
    (box_step hBa hWW) (box_step hBb hWW) (box_step hBw hWW) hBn (by have := hWW.size; omega) h0
theorem candidates_any (A : Option Addr) (n c1 : Nat) (B : Option Addr) (m c2 : Nat) (win : Int) (w : World) :
    Calls Try.prog 96 #[.slice A n c1, .slice B m c2, .int .i64 win] w fun e w' => e = .returned (.func (.func 123) #[] #[.pointer (some ⟨w.heap.size, 0, none⟩), .pointer (some ⟨w.heap.size + 1, 0, none⟩), .pointer (some ⟨w.heap.size + 1 + 1, 0, none⟩)]) ∧ w' = ((w.alloc (.cells #[.slice A n c1] 22)).alloc (.cells #[.slice B m c2] 22)).alloc (.cells #[.int .i64 win] 2) := by
  go_enter Try.func96, Try.ntmps96
  go_wp2
  go_ret
  exact ⟨rfl, rfl⟩
end Go.Proofs.Ytaehfildhmljeaa
