/- What a fold's walk wants: blocks of ints stand; values that stand for what waits. -/
import Derived.Test.YtnpnfdnaglcnfaaDoorRng
namespace Go.Proofs.YtnpnfdnaglcnfaaDoor
open Go.RowKit Go.Shelf

/-- Blocks of ints stand. -/
def Kt (W W' : World) : Prop := ∀ (g : Nat) (cs : Array Value), W.heap[g]? = some (Obj.cells cs 3 (0, 0)) → W'.heap[g]? = some (Obj.cells cs 3 (0, 0))
theorem Kt.refl (W : World) : Kt W W := fun _ _ h => h
theorem Kt.trans {A B C : World} (h : Kt A B) (h' : Kt B C) : Kt A C := fun g cs e => h' g cs (h g cs e)
theorem Kt.of_below {W W' : World} (h : Below W.heap.size W W') : Kt W W' := fun g cs e => (h.block g (Array.getElem?_eq_some_iff.1 e).1).trans e
theorem Kt.alloc (W : World) (o : Obj) : Kt W (W.alloc o) := Kt.of_below ((Below.refl _ W).alloc (Nat.le_refl _) o)
theorem Kt.set {W : World} {q i : Nat} {t : TypeId} {cs : Array Value} {u : Value} (h : BoxAt W q t cs) (ht : t ≠ 3) : Kt W (W.setCell ⟨q, i, none⟩ u) := fun g c e => by
  by_cases hg : g = q
  · subst hg
    rw [show W.heap[g]? = _ from h] at e
    cases e
    exact absurd rfl ht
  · exact (Below.heap_setCell W _ u g hg).trans e
theorem Kt.grown {W W' : World} {row : Option Nat} (h : W.grownBy W' row) (hr : ∀ j, row = some j → ∃ cur e, e ≠ 3 ∧ W.heap[j]? = some (.cells cur e (0, 0))) : Kt W W' := fun g cs e => by
  refine (h.block g (Array.getElem?_eq_some_iff.1 e).1 ?_).trans e
  intro hg
  obtain ⟨cur, t, ht, h2⟩ := hr g hg.symm
  rw [e] at h2
  cases h2
  exact ht rfl
theorem Kt.put {W : World} {l : Nat} {o o' : Obj} (h : W.heap[l]? = some o) (hc : o.isCells = false) : Kt W (W.putObj l o') := fun g cs e => by
  by_cases hg : g = l
  · subst hg
    rw [e] at h
    cases h
    cases hc
  · exact (World.putObj_heap_other (by omega)).trans e
/-- Values that stand for what waits. -/
def Reps {V : Type} (R : Value → V → Prop) : List Value → List V → Prop
  | [], [] => True
  | u :: us, x :: xs => R u x ∧ Reps R us xs
  | _, _ => False
theorem Reps.mono {V : Type} {R R' : Value → V → Prop} (h : ∀ u x, R u x → R' u x) : ∀ {us : List Value} {xs : List V}, Reps R us xs → Reps R' us xs
  | [], [], _ => trivial
  | _ :: _, _ :: _, hr => ⟨h _ _ hr.1, Reps.mono h hr.2⟩
  | [], _ :: _, hr => hr.elim
  | _ :: _, [], hr => hr.elim
theorem Reps.len {V : Type} {R : Value → V → Prop} : ∀ {us : List Value} {xs : List V}, Reps R us xs → us.length = xs.length
  | [], [], _ => rfl
  | _ :: _, _ :: _, hr => by simp [Reps.len hr.2]
  | [], _ :: _, hr => hr.elim
  | _ :: _, [], hr => hr.elim

theorem Reps.drop {V : Type} {R : Value → V → Prop} : ∀ {us : List Value} {xs : List V} (k : Nat), Reps R us xs → Reps R (us.drop k) (xs.drop k)
  | _, _, 0, h => by simpa using h
  | [], [], _ + 1, _ => trivial
  | _ :: _, _ :: _, k + 1, h => Reps.drop k h.2
  | [], _ :: _, _, h => h.elim
  | _ :: _, [], _, h => h.elim
theorem Reps.get {V : Type} {R : Value → V → Prop} : ∀ {us : List Value} {xs : List V} (k : Nat) (u0 : Value) (x0 : V), Reps R us xs → k < us.length → R (us.getD k u0) (xs.getD k x0)
  | [], [], _, _, _, _, h => by simp at h
  | _ :: _, _ :: _, 0, _, _, h, _ => h.1
  | _ :: us, _ :: xs, k + 1, u0, x0, h, hk => Reps.get (us := us) (xs := xs) k u0 x0 h.2 (by simpa using hk)
  | [], _ :: _, _, _, _, h, _ => h.elim
  | _ :: _, [], _, _, _, h, _ => h.elim
theorem KeepsOthers.of_below {W W' : World} (h : Below W.heap.size W W') : KeepsOthers W W' := ⟨h.size, fun q _ e _ => (h.block q (Array.getElem?_eq_some_iff.1 e).1).trans e⟩
theorem stk_le {V : Type} (v : Nd → V → V → V) (z : V) : ∀ l : List Nd, (stk v z l).length ≤ l.length
  | [] => Nat.le_refl _
  | n :: l => by
    have := stk_le v z l
    show (stp v z n (stk v z l)).length ≤ _
    simp only [stp, List.length_cons, List.length_drop]
    omega
/-- What lies between two rounds. -/
def FI {V : Type} (tf ts te b0 b1 b2 m cap : Nat) (fv : Value) (A : Option Addr) (L : List Nd) (st : Nat → List V) (Rep : World → Value → V → Prop) (w : World) (pre : List Nat) (W : World) : Prop :=
  ∃ (v : Value) (us : List Value), BoxAt W b1 ts #[v] ∧ W.ownsRow (b2 + 1) te 1 v us.length us.reverse ∧ BoxAt W b0 tf #[fv] ∧ BoxAt W b2 22 #[.slice A m cap] ∧ Reps (Rep W) us (st (m - pre.length)) ∧ Below w.heap.size w W
theorem row_at {W : World} {base e : Nat} {us : List Value} {k : Nat} {v : Value} (h : W.ownsRow base e 1 v us.length us.reverse) (hk : us.length = k + 1) :
    ∃ g c u rest, v = .slice (some ⟨g, 0, none⟩) (k + 1) c ∧ us = u :: rest ∧ rest.length = k ∧ W.cell? ⟨g, k, none⟩ = some u ∧ (base ≤ g ∧ k + 1 ≤ c) ∧ g < W.heap.size ∧ W.ownsRow base e 1 (.slice (some ⟨g, 0, none⟩) k c) k rest.reverse := by
  cases us with
  | nil => simp at hk
  | cons u rest =>
    have hr : rest.length = k := by simpa using hk
    have hl : (u :: rest).length = k + 1 := hk
    rw [hl] at h
    obtain ⟨g, c, rfl, hb, hg⟩ := h.form (by omega)
    have hkc : k + 1 ≤ c := by
      rcases h.2 with ⟨h0, _⟩ | ⟨g', cap', cur, hv, _, _, hn, _⟩
      · cases h0
      · cases hv
        exact hn
    refine ⟨g, c, u, rest, rfl, rfl, hr, ?_, ⟨hb, hkc⟩, hg, ?_⟩
    · rw [World.ownsRow.cellAt h k (by omega), List.reverse_cons, List.getElem?_append_right (by simp [hr]), List.length_reverse, hr, Nat.sub_self]
      rfl
    · rw [List.reverse_cons] at h
      exact ownsRow_pop (by simp [hr]) h
theorem box_ne {W : World} {a b t t' : Nat} {cs cs' : Array Value} (h : BoxAt W a t cs) (h' : BoxAt W b t' cs') (ht : t ≠ t') : a ≠ b := fun e => by
  subst e
  have e := (show W.heap[a]? = _ from h).symm.trans (show W.heap[a]? = _ from h')
  cases e
  exact ht rfl
theorem row_ne_box {W : World} {base e q t : Nat} {v : Value} {k : Nat} {xs : List Value} {cs : Array Value} (h : W.ownsRow base e 1 v k xs) (hb : BoxAt W q t cs) (ht : e ≠ t) : v.ownBlock ≠ some q := fun e' => by
  obtain ⟨_, cur, h2⟩ := row_cells h e'
  rw [show W.heap[q]? = _ from hb] at h2
  cases h2
  exact ht rfl
theorem grownBy_set (W : World) (b i : Nat) (v : Value) : W.grownBy (W.setCell ⟨b, i, none⟩ v) (some b) :=
  ⟨rfl, rfl, rfl, (KeepsWalks.setCell W _ v).size, fun k _ hk => Below.heap_setCell _ _ _ k (fun e => hk (by rw [e]))⟩
/-- What lies within a round, behind j of the parts. -/
def FL (tf ts te tp b0 b1 b2 bn bp : Nat) (fv sv : Value) (n : Nd) (zv : Value) (us : List Value) (w W0 : World) (j : Nat) (wr : World) : Prop :=
  (∃ v, BoxAt wr b1 ts #[v] ∧ wr.ownsRow (b2 + 1) te 1 v (us.drop j).length (us.drop j).reverse) ∧ BoxAt wr bp tp #[if 1 ≤ j then us.getD 0 zv else zv, if 2 ≤ j then us.getD 1 zv else zv] ∧ BoxAt wr b0 tf #[fv] ∧ BoxAt wr b2 22 #[sv] ∧
    BoxAt wr bn 61 #[iv n.op, iv n.l, iv n.r, iv n.k, iv n.lo, iv n.hi] ∧ KeepsOthers W0 wr ∧ Kt W0 wr ∧ Below w.heap.size w wr
theorem FL.drew {tf ts te tp b0 b1 b2 bn bp : Nat} {fv sv : Value} {n : Nd} {zv : Value} {us : List Value} {w W0 : World} {j : Nat} {wr : World} (h : FL tf ts te tp b0 b1 b2 bn bp fv sv n zv us w W0 j wr) : FL tf ts te tp b0 b1 b2 bn bp fv sv n zv us w W0 j wr.drew := by
  obtain ⟨⟨v, h1, h2⟩, h3, h5, h6, h7, h8, h9, h10⟩ := h
  exact ⟨⟨v, h1, h2⟩, h3, h5, h6, h7, h8.trans (KeepsOthers.drew _), h9, h10.drew⟩
theorem FL.step {tf ts te tp b0 b1 b2 bn bp : Nat} {fv sv : Value} {n : Nd} {zv : Value} {us : List Value} {w W0 : World} {j : Nat} {wr : World} (h : FL tf ts te tp b0 b1 b2 bn bp fv sv n zv us w W0 j wr) (hj : j < us.length) (hj2 : j < 2)
    (t1 : ts ≠ tp) (t2 : te ≠ ts) (t3 : te ≠ tp) (t4 : ts ≠ 3) (t5 : tp ≠ 3) (t6 : ts ≠ 22) (t7 : tp ≠ 22) (t8 : ts ≠ 61) (t9 : tp ≠ 61) (t10 : tf ≠ ts) (t11 : tf ≠ tp) (hb1 : w.heap.size ≤ b1) (hbp : w.heap.size ≤ bp) :
    ∃ g c u k, us.length - j = k + 1 ∧ BoxAt wr b1 ts #[.slice (some ⟨g, 0, none⟩) (k + 1) c] ∧ wr.cell? ⟨g, k, none⟩ = some u ∧ (g < wr.heap.size ∧ k + 1 ≤ c ∧ us.getD j zv = u) ∧ (b1 ≠ bp ∧ g ≠ bp ∧ g ≠ b1 ∧ ∃ c0 c1, BoxAt wr bp tp #[c0, c1]) ∧
      FL tf ts te tp b0 b1 b2 bn bp fv sv n zv us w W0 (j + 1) ((wr.setCell ⟨bp, j, none⟩ u).setCell ⟨b1, 0, none⟩ (.slice (some ⟨g, 0, none⟩) k c)) := by
  obtain ⟨⟨v, h1, h2⟩, h3, h5, h6, h7, h8, h9, h10⟩ := h
  obtain ⟨k, hk⟩ : ∃ k, us.length - j = k + 1 := ⟨us.length - j - 1, by omega⟩
  have hl : (us.drop j).length = k + 1 := by rw [List.length_drop]; exact hk
  obtain ⟨g, c, u, rest, rfl, hu, hr, hc, hg1, hg2, hrow⟩ := row_at h2 hl
  have hu0 : us.getD j zv = u := by
    have e : (us.drop j)[0]? = some u := by rw [hu]; rfl
    rw [List.getElem?_drop] at e
    rw [List.getD_eq_getElem?_getD, show us[j]? = some u from by simpa using e]
    rfl
  have hrest : us.drop (j + 1) = rest := by
    have e : us.drop (j + 1) = (us.drop j).drop 1 := by rw [List.drop_drop]
    rw [e, hu]
    rfl
  rw [hl] at h2
  have n1 : (Value.slice (some ⟨g, 0, none⟩) k c).ownBlock ≠ some b1 := row_ne_box hrow h1 t2
  have n2 : (Value.slice (some ⟨g, 0, none⟩) k c).ownBlock ≠ some bp := row_ne_box hrow h3 t3
  have e1 : b1 ≠ bp := box_ne h1 h3 t1
  have e2 : b0 ≠ b1 := box_ne h5 h1 t10
  have e3 : b0 ≠ bp := box_ne h5 h3 t11
  have e4 : b2 ≠ b1 := box_ne h6 h1 (Ne.symm t6)
  have e5 : b2 ≠ bp := box_ne h6 h3 (Ne.symm t7)
  have e6 : bn ≠ b1 := box_ne h7 h1 (Ne.symm t8)
  have e7 : bn ≠ bp := box_ne h7 h3 (Ne.symm t9)
  refine ⟨g, c, u, k, hk, h1, hc, ⟨hg2, hg1.2, hu0⟩, ⟨e1, (fun e => n2 (by rw [e]; rfl)), (fun e => n1 (by rw [e]; rfl)), _, _, h3⟩, ⟨_, (h1.other e1 _ _).set 0 _, ?_⟩, ?_, (h5.other e3 _ _).other e2 _ _, (h6.other e5 _ _).other e4 _ _, (h7.other e7 _ _).other e6 _ _, ?_, ?_, ?_⟩
  · have hlen : (us.drop (j + 1)).length = k := by rw [hrest]; exact hr
    rw [hrest, hr]
    have q1 := hrow.kept (grownBy_set wr bp j u) (.inr n2)
    exact q1.kept (grownBy_setCell' _ _ _) (.inr n1)
  · have hb := (h3.set j u).other e1.symm 0 (.slice (some ⟨g, 0, none⟩) k c)
    rcases (show j = 0 ∨ j = 1 by omega) with rfl | rfl
    · rw [← hu0] at hb ⊢
      exact hb
    · rw [← hu0] at hb ⊢
      exact hb
  · exact (h8.trans (KeepsOthers.setCell _ _ _)).trans (KeepsOthers.setCell _ _ _)
  · exact (h9.trans (Kt.set h3 t5)).trans (Kt.set (h1.other e1 _ _) t4)
  · exact (h10.setCell (p := ⟨bp, j, none⟩) hbp _).setCell (p := ⟨b1, 0, none⟩) hb1 _
theorem inf2 : (Tryd.prog.info? 2).map (fun i => (i.zero, i.size, i.bytes)) = some (some (.int .i64 0), 1, 8) := by kernel_rfl
theorem inf95 : (Tryd.prog.info? 95).map (fun i => (i.zero, i.size, i.bytes)) = some (some (.slice none 0 0), 1, 24) := by kernel_rfl
/-- The boxes that a round's last region reads. -/
def SB (tf tp b0 bn bp : Nat) (fv : Value) (n : Nd) (ca cb : Value) (W : World) : Prop := BoxAt W b0 tf #[fv] ∧ BoxAt W bn 61 #[iv n.op, iv n.l, iv n.r, iv n.k, iv n.lo, iv n.hi] ∧ BoxAt W bp tp #[ca, cb]
theorem SB.cells {tf tp b0 bn bp : Nat} {fv : Value} {n : Nd} {ca cb : Value} {W : World} (h : SB tf tp b0 bn bp fv n ca cb W) :
    W.cell? ⟨b0, 0, none⟩ = some fv ∧ W.cell? ⟨bn, 0, none⟩ = some (iv n.op) ∧ W.cell? ⟨bn, 1, none⟩ = some (iv n.l) ∧ W.cell? ⟨bn, 2, none⟩ = some (iv n.r) ∧ W.cell? ⟨bn, 3, none⟩ = some (iv n.k) ∧ W.cell? ⟨bn, 4, none⟩ = some (iv n.lo) ∧ W.cell? ⟨bn, 5, none⟩ = some (iv n.hi) ∧ W.cell? ⟨bp, 0, none⟩ = some ca ∧ W.cell? ⟨bp, 1, none⟩ = some cb :=
  ⟨h.1.cell 0, h.2.1.cell 0, h.2.1.cell 1, h.2.1.cell 2, h.2.1.cell 3, h.2.1.cell 4, h.2.1.cell 5, h.2.2.cell 0, h.2.2.cell 1⟩
theorem SB.below {tf tp b0 bn bp : Nat} {fv : Value} {n : Nd} {ca cb : Value} {W W' : World} (h : SB tf tp b0 bn bp fv n ca cb W) (hb : Below W.heap.size W W') : SB tf tp b0 bn bp fv n ca cb W' := ⟨box_step h.1 hb, box_step h.2.1 hb, box_step h.2.2 hb⟩
theorem SB.alloc {tf tp b0 bn bp : Nat} {fv : Value} {n : Nd} {ca cb : Value} {W : World} (h : SB tf tp b0 bn bp fv n ca cb W) (o : Obj) : SB tf tp b0 bn bp fv n ca cb (W.alloc o) := ⟨h.1.alloc o, h.2.1.alloc o, h.2.2.alloc o⟩
/-- A round's end. -/
theorem FL.fin {tf ts te tp b0 b1 b2 bn bp : Nat} {fv sv : Value} {n : Nd} {zv : Value} {us : List Value} {w W0 : World} {p : Nat} {wr w1 w7 : World} (h : FL tf ts te tp b0 b1 b2 bn bp fv sv n zv us w W0 p wr) (hb : Below wr.heap.size wr w1)
    {Av : Option Addr} {K cv tl gg cap1 : Nat} {u : Value} (hbx : BoxAt wr b1 ts #[.slice Av K cv]) (hro : wr.ownsRow (b2 + 1) te 1 (.slice Av K cv) K (us.drop p).reverse) (hK : K = (us.drop p).length)
    (hgrow : (w1.alloc (.cells #[u] tl)).grownBy w7 (Value.slice Av K cv).ownBlock) (hrow7 : w7.ownsRow (b2 + 1) te 1 (.slice (some ⟨gg, 0, none⟩) (K + 1) cap1) (K + 1) ((us.drop p).reverse ++ [u]))
    (t1 : ts ≠ tp) (t2 : te ≠ ts) (t3 : te ≠ tp) (t4 : ts ≠ 3) (t6 : ts ≠ 22) (t8 : ts ≠ 61) (t10 : tf ≠ ts) (t12 : te ≠ 3) (t13 : te ≠ tf) (t14 : te ≠ 22) (t15 : te ≠ 61) (hw1 : w.heap.size ≤ b1) (hb12 : b1 ≤ b2) :
    SB tf tp b0 bn bp fv n (if 1 ≤ p then us.getD 0 zv else zv) (if 2 ≤ p then us.getD 1 zv else zv) w7 ∧
    SB tf tp b0 bn bp fv n (if 1 ≤ p then us.getD 0 zv else zv) (if 2 ≤ p then us.getD 1 zv else zv) (w7.setCell ⟨b1, 0, none⟩ (.slice (some ⟨gg, 0, none⟩) (K + 1) cap1)) ∧
    BoxAt w7 b1 ts #[.slice Av K cv] ∧
    (KeepsOthers W0 (w7.setCell ⟨b1, 0, none⟩ (.slice (some ⟨gg, 0, none⟩) (K + 1) cap1)) ∧ Kt W0 (w7.setCell ⟨b1, 0, none⟩ (.slice (some ⟨gg, 0, none⟩) (K + 1) cap1)) ∧ Kt w1 (w7.setCell ⟨b1, 0, none⟩ (.slice (some ⟨gg, 0, none⟩) (K + 1) cap1)) ∧
      BoxAt (w7.setCell ⟨b1, 0, none⟩ (.slice (some ⟨gg, 0, none⟩) (K + 1) cap1)) b1 ts #[.slice (some ⟨gg, 0, none⟩) (K + 1) cap1] ∧
      (w7.setCell ⟨b1, 0, none⟩ (.slice (some ⟨gg, 0, none⟩) (K + 1) cap1)).ownsRow (b2 + 1) te 1 (.slice (some ⟨gg, 0, none⟩) (K + 1) cap1) (u :: us.drop p).length (u :: us.drop p).reverse ∧
      BoxAt (w7.setCell ⟨b1, 0, none⟩ (.slice (some ⟨gg, 0, none⟩) (K + 1) cap1)) b0 tf #[fv] ∧ BoxAt (w7.setCell ⟨b1, 0, none⟩ (.slice (some ⟨gg, 0, none⟩) (K + 1) cap1)) b2 22 #[sv] ∧ Below w.heap.size w (w7.setCell ⟨b1, 0, none⟩ (.slice (some ⟨gg, 0, none⟩) (K + 1) cap1))) := by
  obtain ⟨_, h3, h5, h6, h7, h8, h9, h10⟩ := h
  have hba : Below wr.heap.size wr (w1.alloc (.cells #[u] tl)) := hb.alloc hb.size _
  have g3 := box_step h3 hba
  have g5 := box_step h5 hba
  have g6 := box_step h6 hba
  have g7 := box_step h7 hba
  have g1 := box_step hbx hba
  have gro := hro.kept (grown_of_below hba) (Classical.em _)
  have k1 := g1.grown hgrow (Ne.symm (row_ne_box gro g1 t2))
  have k3 := g3.grown hgrow (Ne.symm (row_ne_box gro g3 t3))
  have k5 := g5.grown hgrow (Ne.symm (row_ne_box gro g5 t13))
  have k6 := g6.grown hgrow (Ne.symm (row_ne_box gro g6 t14))
  have k7 := g7.grown hgrow (Ne.symm (row_ne_box gro g7 t15))
  have e1 : b1 ≠ bp := box_ne k1 k3 t1
  have e0 : b0 ≠ b1 := box_ne k5 k1 t10
  have e2 : b2 ≠ b1 := box_ne k6 k1 (Ne.symm t6)
  have en : bn ≠ b1 := box_ne k7 k1 (Ne.symm t8)
  have hrc : ∀ j, (Value.slice Av K cv).ownBlock = some j → ∃ cur e, e ≠ 3 ∧ (w1.alloc (.cells #[u] tl)).heap[j]? = some (.cells cur e (0, 0)) := fun j e => by
    obtain ⟨_, cur, hc⟩ := row_cells gro e
    exact ⟨cur, te, t12, hc⟩
  have hko : KeepsOthers (w1.alloc (.cells #[u] tl)) w7 := KeepsOthers.of_grownBy hgrow (fun j o e ho => by obtain ⟨cur, e', _, hc⟩ := hrc j e; rw [hc] at ho; cases ho; rfl)
  have hkt := Kt.grown hgrow hrc
  have q1 : (Value.slice (some ⟨gg, 0, none⟩) (K + 1) cap1).ownBlock ≠ some b1 := row_ne_box hrow7 k1 t2
  have hbel : Below w.heap.size w w7 := by
    refine (h10.trans (hba.mono h10.size)).grown hgrow ?_ ?_
    · have := h10.size
      have := hba.size
      omega
    · intro j e
      have h1 := (row_cells gro e).1
      omega
  refine ⟨⟨k5, k7, k3⟩, ⟨k5.other e0 _ _, k7.other en _ _, k3.other e1.symm _ _⟩, k1, ?_, ?_, ?_, k1.set 0 _, ?_, k5.other e0 _ _, k6.other e2 _ _, hbel.setCell (p := ⟨b1, 0, none⟩) hw1 _⟩
  · exact (h8.trans (KeepsOthers.of_below hba)).trans (hko.trans (KeepsOthers.setCell _ _ _))
  · exact (h9.trans (Kt.of_below hba)).trans (hkt.trans (Kt.set k1 t4))
  · exact (Kt.alloc _ _).trans (hkt.trans (Kt.set k1 t4))
  · have e : (u :: us.drop p).length = K + 1 := by rw [List.length_cons, hK]
    rw [e, List.reverse_cons]
    exact hrow7.kept (grownBy_setCell' _ _ _) (.inr q1)
end Go.Proofs.YtnpnfdnaglcnfaaDoor
