/- A formula made of numbers. -/
import Derived.Test.YtnpnfdnaglcnfaaDoorNxt
import Derived.Test.YtnpnfdnaglcnfaaDoorRdw
namespace Go.Proofs.YtnpnfdnaglcnfaaDoor
open Go.RowKit Go.Shelf

/-- The numbers that are handed out, and nothing below turned. -/
def NS (w0 : World) (Bx : Nat) (A : Option Addr) (cap : Nat) (l : List Int) (W : World) : Prop := (∃ at' : Nat, at' ≤ l.length ∧ BoxAt W Bx 93 #[.slice A l.length cap, iv at']) ∧ Below w0.heap.size w0 W
def NP (w0 : World) (Bx : Nat) (A : Option Addr) (l : List Int) : Prop := w0.heap.size ≤ Bx ∧ NumL w0 A l ∧ l.length ≤ 9223372036854775807
theorem NS.box {w0 : World} {Bx : Nat} {A : Option Addr} {cap : Nat} {l : List Int} {W : World} (h : NS w0 Bx A cap l W) : ∃ cs, BoxAt W Bx 93 cs := by
  obtain ⟨⟨a, _, h⟩, _⟩ := h
  exact ⟨_, h⟩
theorem NS.below {w0 : World} {Bx : Nat} {A : Option Addr} {cap : Nat} {l : List Int} {W W' : World} (h : NS w0 Bx A cap l W) (hb : Below W.heap.size W W') : NS w0 Bx A cap l W' := by
  obtain ⟨⟨a, h1, h2⟩, h3⟩ := h
  exact ⟨⟨a, h1, box_step h2 hb⟩, h3.trans (hb.mono h3.size)⟩
theorem nx_any {w0 : World} {Bx : Nat} {A : Option Addr} {cap : Nat} {l : List Int} (hp : NP w0 Bx A l) (m : Int) (hm : 0 < m) (hm2 : m ≤ 1000) (W : World) (h : NS w0 Bx A cap l W) :
    Calls Tryd.prog 80 #[.pointer (some ⟨Bx, 0, none⟩), iv m] W fun e w' => ∃ r, e = .returned (iv r) ∧ 0 ≤ r ∧ r < m ∧ NS w0 Bx A cap l w' ∧ Off1 Bx W w' := by
  obtain ⟨⟨a, h1, h2⟩, h3⟩ := h
  obtain ⟨p1, p2, p4⟩ := hp
  refine (next_any Bx A cap l a m W p4 hm hm2 h1 h2 (p2.below h3) (fun h0 x hx => by obtain ⟨b, off, e, hc⟩ := p2 h0; have h9 := World.block_lt_of_cell? w0 _ (hc 0 l[0] (List.getElem?_eq_getElem h0)); rw [e] at hx; cases hx; simp only at h9 ⊢; omega)).mono fun e w' hh => ?_
  obtain ⟨r, at2, e1, e2, e3, e4, e5, e6⟩ := hh
  exact ⟨r, e1, e2, e3, ⟨⟨at2, e4, e5⟩, e6.below h3 p1 h3.size⟩, e6⟩
theorem row_off1 {W W' : World} {base size k L : Nat} {v : Value} {xs : List Value} {cs : Array Value} (h : W.ownsRow base 61 size v k xs) (hb : BoxAt W L 93 cs) (ho : Off1 L W W') : W'.ownsRow base 61 size v k xs := h.kept ho.grown (.inr (row_ne_box' h hb (by decide)))
/-- The box of the numbers. -/
def NB (W : World) (Bx : Nat) : Prop := ∃ cs, BoxAt W Bx 93 cs
theorem row_off2 {W W' : World} {base size k L : Nat} {v : Value} {xs : List Value} (h : W.ownsRow base 61 size v k xs) (hb : NB W L) (ho : Off1 L W W') : W'.ownsRow base 61 size v k xs := by
  obtain ⟨cs, hb⟩ := hb
  exact row_off1 h hb ho
theorem NS.set {w0 W : World} {Bx : Nat} {A : Option Addr} {cap : Nat} {l : List Int} {q i : Nat} {v : Value} (h : NS w0 Bx A cap l W) (hq : q ≠ Bx) (h0 : w0.heap.size ≤ q) : NS w0 Bx A cap l (W.setCell ⟨q, i, none⟩ v) := by
  obtain ⟨⟨a, h1, h2⟩, h3⟩ := h
  exact ⟨⟨a, h1, (Below.heap_setCell _ _ _ _ (fun e => hq e.symm)).trans h2⟩, h3.setCell (p := ⟨q, i, none⟩) h0 _⟩
theorem row_set {W : World} {base size k q i : Nat} {v u : Value} {xs : List Value} (h : W.ownsRow base 61 size v k xs) (hq : v.ownBlock ≠ some q) : (W.setCell ⟨q, i, none⟩ u).ownsRow base 61 size v k xs := h.kept (grownBy_set W q i _) (.inr hq)
/-- What 'part' answers. -/
def PO (w0 : World) (Bx : Nat) (A : Option Addr) (cap : Nat) (l : List Int) (width most : Int) (d : Nat) (P : List Nd) (e : Ending) (w' : World) : Prop := ∃ (x : Fm) (A' : Option Addr) (c' : Nat), (x.wf ∧ x.ok width ∧ x.hor ≤ most * d ∧ x.flat.length + 1 ≤ 2 ^ (d + 1)) ∧ e = .returned (.slice A' (P.length + x.flat.length) c') ∧ NS w0 Bx A cap l w' ∧
      w'.ownsRow w0.heap.size 61 6 (.slice A' (P.length + x.flat.length) c') (P.length + x.flat.length) (ndC (P ++ x.flat))
/-- What 'part' does. -/
def PC (w0 : World) (Bx : Nat) (A : Option Addr) (cap : Nat) (l : List Int) (width most : Int) (d : Nat) : Prop :=
  ∀ (W : World) (fv : Value) (P : List Nd) (k : Nat) (D : Int), D = d → k = P.length → NS w0 Bx A cap l W → W.ownsRow w0.heap.size 61 6 fv k (ndC P) → k + 2 ^ (d + 1) ≤ 1000 →
    Calls Tryd.prog 52 #[.pointer (some ⟨Bx, 0, none⟩), fv, iv width, iv D, iv most] W fun e w' => PO w0 Bx A cap l width most d P e w'
theorem part_end {w0 W W' : World} {Bx : Nat} {A : Option Addr} {cap : Nat} {l : List Int} {P : List Nd} {v : Value} {k : Nat} (h : NS w0 Bx A cap l W) (hro : W.ownsRow w0.heap.size 61 6 v k (ndC P)) (hg : W.grownBy W' v.ownBlock) : NS w0 Bx A cap l W' := by
  obtain ⟨⟨a, h1, h2⟩, h3⟩ := h
  exact ⟨⟨a, h1, h2.grown hg (Ne.symm (row_ne_box' hro h2 (by decide)))⟩, h3.grown hg h3.size (fun j e => (hro.lt j e).1)⟩
theorem ok_leaf {w : Int} {n : Nd} (h : ndE w n = 0) : (Fm.lf n).ok w := fun m hm => by
  have : m = n := by simpa [Fm.flat] using hm
  rw [this]; exact h
theorem ok_un {w : Int} {n : Nd} {a : Fm} (h : ndE w n = 0) (ha : a.ok w) : (Fm.un n a).ok w := fun m hm => by
  rcases List.mem_cons.1 (show m ∈ n :: a.flat from hm) with rfl | hm
  · exact h
  · exact ha m hm
theorem ok_bi {w : Int} {n : Nd} {a b : Fm} (h : ndE w n = 0) (ha : a.ok w) (hb : b.ok w) : (Fm.bi n a b).ok w := fun m hm => by
  rcases List.mem_cons.1 (show m ∈ n :: (a.flat ++ b.flat) from hm) with rfl | hm
  · exact h
  · rcases List.mem_append.1 hm with hm | hm
    · exact ha m hm
    · exact hb m hm
def six (n : Nd) : List Value := [iv n.op, iv n.l, iv n.r, iv n.k, iv n.lo, iv n.hi]
section
variable {w0 w8 : World} {Bx : Nat} {A : Option Addr} {cap : Nat} {l : List Int} {width most : Int} {d : Nat} {P : List Nd}
theorem po_lf {k c' : Nat} {A' : Option Addr} (n : Nd) (hp : prt n.op = 0) (he : ndE width n = 0) (hm : 0 ≤ most) (hk : k = P.length) (h1 : NS w0 Bx A cap l w8) (h2 : w8.ownsRow w0.heap.size 61 6 (.slice A' (k + 1) c') (k + 1) (ndC P ++ six n)) : PO w0 Bx A cap l width most d P (.returned (.slice A' (k + 1) c')) w8 := by
  subst hk
  refine ⟨.lf n, A', c', ⟨hp, ok_leaf he, ?_, ?_⟩, rfl, h1, ?_⟩
  · have e : (Fm.lf n).hor = hv n 0 0 := rfl
    have := prt_op0 hp
    have e0 : hv n 0 0 = 0 := by unfold hv; rw [if_neg (by omega), if_neg (by omega), if_neg (by omega)]
    rw [e, e0]
    exact Int.mul_nonneg hm (Int.natCast_nonneg _)
  · show 1 + 1 ≤ 2 ^ (d + 1)
    rw [Nat.pow_succ]
    have := Nat.two_pow_pos d
    omega
  · show w8.ownsRow _ _ _ _ (P.length + 1) (ndC (P ++ [n]))
    rw [ndC_snoc]
    exact h2
theorem po_un {e : Ending} (n : Nd) (hp : prt n.op = 1) (he : ndE width n = 0) (hm : 0 ≤ most) (hh : n.hi ≤ most) (h : PO w0 Bx A cap l width most d (P ++ [n]) e w8) : PO w0 Bx A cap l width most (d + 1) P e w8 := by
  obtain ⟨x, A', c', ⟨h1, h2, h3, h4⟩, h5, h6, h7⟩ := h
  have hl : (P ++ [n]).length + x.flat.length = P.length + (Fm.un n x).flat.length := by simp [Fm.flat]; omega
  rw [hl] at h5 h7
  refine ⟨.un n x, A', c', ⟨⟨hp, h1⟩, ok_un he h2, ?_, ?_⟩, h5, h6, ?_⟩
  · have e1 : (Fm.un n x).hor = hv n x.hor 0 := rfl
    have e2 : most * ((d + 1 : Nat) : Int) = most * d + most := by rw [Int.natCast_succ, Int.mul_add, Int.mul_one]
    have h0 := hor_nn x h2 h1
    have := prt_op1 hp
    have h9 : (0 : Int) ≤ most * d := Int.mul_nonneg hm (Int.natCast_nonneg _)
    rw [e1, e2]
    unfold hv
    repeat' split
    all_goals omega
  · have e1 : (Fm.un n x).flat.length = x.flat.length + 1 := rfl
    rw [e1, Nat.pow_succ 2 (d + 1)]
    omega
  · have e1 : P ++ (Fm.un n x).flat = P ++ [n] ++ x.flat := by simp [Fm.flat]
    rw [e1]; exact h7
theorem po_bi {e : Ending} (n : Nd) (x : Fm) (hp : prt n.op = 2) (he : ndE width n = 0) (hm : 0 ≤ most) (hh : n.hi ≤ most) (g1 : x.wf) (g2 : x.ok width) (g3 : x.hor ≤ most * d) (g4 : x.flat.length + 1 ≤ 2 ^ (d + 1)) (h : PO w0 Bx A cap l width most d (P ++ [n] ++ x.flat) e w8) : PO w0 Bx A cap l width most (d + 1) P e w8 := by
  obtain ⟨y, A', c', ⟨h1, h2, h3, h4⟩, h5, h6, h7⟩ := h
  have hl : (P ++ [n] ++ x.flat).length + y.flat.length = P.length + (Fm.bi n x y).flat.length := by simp [Fm.flat]; omega
  rw [hl] at h5 h7
  refine ⟨.bi n x y, A', c', ⟨⟨hp, g1, h1⟩, ok_bi he g2 h2, ?_, ?_⟩, h5, h6, ?_⟩
  · have e1 : (Fm.bi n x y).hor = hv n x.hor y.hor := rfl
    have e2 : most * ((d + 1 : Nat) : Int) = most * d + most := by rw [Int.natCast_succ, Int.mul_add, Int.mul_one]
    have := prt_op2 hp
    have h9 : (0 : Int) ≤ most * d := Int.mul_nonneg hm (Int.natCast_nonneg _)
    have hx := hor_nn x g2 g1
    have hy := hor_nn y h2 h1
    have h10 := (ok_hi he)
    rw [e1, e2]
    unfold hv
    repeat' split
    all_goals omega
  · have e1 : (Fm.bi n x y).flat.length = x.flat.length + y.flat.length + 1 := by simp [Fm.flat]
    rw [e1, Nat.pow_succ 2 (d + 1)]
    omega
  · have e1 : P ++ (Fm.bi n x y).flat = P ++ [n] ++ x.flat ++ y.flat := by simp [Fm.flat]
    rw [e1]; exact h7
theorem PO.form {e : Ending} (h : PO w0 Bx A cap l width most d P e w8) : ∃ (K : Nat) (A' : Option Addr) (c' : Nat), e = .returned (.slice A' K c') ∧ PO w0 Bx A cap l width most d P (.returned (.slice A' K c')) w8 := by
  obtain ⟨x, A', c', h1, rfl, h⟩ := h
  exact ⟨_, A', c', rfl, x, A', c', h1, rfl, h⟩
theorem PO.form2 {e : Ending} (h : PO w0 Bx A cap l width most d P e w8) : ∃ (K : Nat) (A' : Option Addr) (c' : Nat) (x : Fm), e = .returned (.slice A' K c') ∧ (x.wf ∧ x.ok width ∧ x.hor ≤ most * d ∧ x.flat.length + 1 ≤ 2 ^ (d + 1)) ∧ K = P.length + x.flat.length ∧ K = (P ++ x.flat).length ∧ NS w0 Bx A cap l w8 ∧ w8.ownsRow w0.heap.size 61 6 (.slice A' K c') K (ndC (P ++ x.flat)) := by
  obtain ⟨x, A', c', h1, rfl, h2, h3⟩ := h
  exact ⟨_, A', c', x, rfl, h1, rfl, by simp, h2, h3⟩
end

end Go.Proofs.YtnpnfdnaglcnfaaDoor
