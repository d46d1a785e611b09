/- Small words on worlds. -/
import Derived.Test.YtnpnfdnaglcnfaaDoorRows
import Derived.Test.YtnpnfdnaglcnfaaDoorMd
import Derived.WalkKit
import Derived.WalkSpells
import Derived.WalkLawsBesides
import Derived.IntWalk
import Derived.Lib.Hide
import Derived.RangeFuncNested
import Derived.RangeFuncBound
import Derived.RangeFuncCalls
import Derived.RangeFuncLeaves
import Derived.RangeFuncBox
import Derived.Shelf.Abstract
import Derived.Shelf.RegionOpen
import Derived.OwnWalkIn
import Derived.TacticsInMore
import Derived.LoopNIn
import Derived.LoopIn
import Derived.Deep.RegionHeld3
import Derived.Deep.DeepCutAuto
import Derived.BigQuiet
import Derived.StillTailTactics
import Derived.Deep.AppendLies
import Derived.Deep.RegionLaw
namespace Go.Proofs.YtnpnfdnaglcnfaaDoor
open Go.RowKit Go.Shelf

/-- Block g is known whole: the cells cs of a variable of type t. -/
def BoxAt (w : World) (g : Nat) (t : TypeId) (cs : Array Value) : Prop := w.heap[g]? = some (.cells cs t (0, 0))
section
variable {w w' : World} {g : Nat} {t : TypeId} {cs : Array Value}
theorem BoxAt.lt (h : BoxAt w g t cs) : g < w.heap.size := (Array.getElem?_eq_some_iff.1 h).1
theorem BoxAt.cell (h : BoxAt w g t cs) (i : Nat) : w.cell? ⟨g, i, none⟩ = cs[i]? := by simp [World.cell?, show w.heap[g]? = _ from h]
theorem BoxAt.frozen (h : BoxAt w g t cs) (i : Nat) : w.frozen? ⟨g, i, none⟩ = false := by simp [World.frozen?, show w.heap[g]? = _ from h]
theorem BoxAt.new (w : World) (t : TypeId) (cs : Array Value) : BoxAt (w.alloc (.cells cs t)) w.heap.size t cs := World.alloc_heap_new w _
theorem BoxAt.below {B : Nat} (h : BoxAt w g t cs) (hb : Below B w w') (hg : g < B) : BoxAt w' g t cs := (hb.block g hg).trans h
theorem BoxAt.grown {row : Option Nat} (h : BoxAt w g t cs) (hb : w.grownBy w' row) (hg : some g ≠ row) : BoxAt w' g t cs := (hb.block g h.lt hg).trans h
theorem BoxAt.set (h : BoxAt w g t cs) (i : Nat) (u : Value) : BoxAt (w.setCell ⟨g, i, none⟩ u) g t (cs.setIfInBounds i u) := by
  unfold BoxAt at h ⊢
  simp [World.setCell, Array.getElem?_modify, h]
end
/-- Only new blocks. -/
theorem grown_of_below {w w' : World} (h : Below w.heap.size w w') : w.grownBy w' none := ⟨h.os, h.tape, h.output, h.size, fun i hi _ => h.block i hi⟩
theorem below_of_grown {w w' : World} (h : w.grownBy w' none) : Below w.heap.size w w' := ⟨h.os, h.tape, h.output, h.size, fun i hi => h.block i hi (by simp)⟩


theorem BoxAt.drew {w : World} {g : Nat} {t : TypeId} {cs : Array Value} (h : BoxAt w g t cs) : BoxAt w.drew g t cs := h
theorem BoxAt.alloc {w : World} {g : Nat} {t : TypeId} {cs : Array Value} (h : BoxAt w g t cs) (o : Obj) : BoxAt (w.alloc o) g t cs := h.grown (World.grownBy_alloc w o none) (by simp)
theorem BoxAt.other {w : World} {g g' : Nat} {t : TypeId} {cs : Array Value} (h : BoxAt w g t cs) (hne : g ≠ g') (i : Nat) (u : Value) : BoxAt (w.setCell ⟨g', i, none⟩ u) g t cs := (Below.heap_setCell w _ u g hne).trans h
theorem bcell {W w1 : World} (hb : Below W.heap.size W w1) : (∀ b o, b < W.heap.size → w1.cell? ⟨b, o, none⟩ = W.cell? ⟨b, o, none⟩) ∧ (∀ b o, b < W.heap.size → w1.frozen? ⟨b, o, none⟩ = W.frozen? ⟨b, o, none⟩) :=
  ⟨fun b o h => hb.cell (p := ⟨b, o, none⟩) h, fun b o h => hb.frozen (p := ⟨b, o, none⟩) h⟩
theorem below_step {w W W1 : World} (h : Below w.heap.size w W) (hb : Below W.heap.size W W1) : Below w.heap.size w W1 := h.trans (hb.mono h.size)
theorem below_step2 {w W W1 : World} {o : Obj} (h : Below w.heap.size w W) (hb : Below (W.alloc o).heap.size (W.alloc o) W1) : Below w.heap.size w W1 :=
  below_step (h.alloc h.size o) hb
theorem bset {B : Nat} {a w : World} {p : Addr} (hp : B ≤ p.block) (h : Below B a w) (u : Value) : Below B a (w.setCell p u) := h.setCell hp u
theorem balloc {B : Nat} {a w : World} (hB : B ≤ w.heap.size) (h : Below B a w) (o : Obj) : Below B a (w.alloc o) := h.alloc hB o
theorem box_step {wr w1 : World} {g : Nat} {t : TypeId} {cs : Array Value} (h : BoxAt wr g t cs) (hb : Below wr.heap.size wr w1) : BoxAt w1 g t cs := h.below hb h.lt
theorem box_at {W : World} {b : Nat} (h : b = W.heap.size) (t : TypeId) (cs : Array Value) : BoxAt (W.alloc (.cells cs t)) b t cs := by subst h; exact BoxAt.new W t cs
theorem box2 {W w2 : World} {g : Nat} {t : TypeId} {a b : Value} (h : BoxAt W g t #[a, b]) (hb : Below W.heap.size W w2) :
    Hid (BoxAt w2 g t #[a, b]) ∧ w2.cell? ⟨g, 0, none⟩ = some a ∧ w2.cell? ⟨g, 1, none⟩ = some b ∧ w2.frozen? ⟨g, 0, none⟩ = false ∧ w2.frozen? ⟨g, 1, none⟩ = false :=
  have q := h.below hb h.lt
  ⟨q, q.cell 0, q.cell 1, q.frozen 0, q.frozen 1⟩
theorem box6w {W w2 : World} {g : Nat} {t : TypeId} {a0 a1 a2 a3 a4 a5 : Value} (h : BoxAt W g t #[a0, a1, a2, a3, a4, a5]) (hb : Below W.heap.size W w2) :
    Hid (BoxAt w2 g t #[a0, a1, a2, a3, a4, a5]) ∧ w2.cell? ⟨g, 2, none⟩ = some a2 ∧ w2.cell? ⟨g, 3, none⟩ = some a3 :=
  have q := h.below hb h.lt
  ⟨q, q.cell 2, q.cell 3⟩
end Go.Proofs.YtnpnfdnaglcnfaaDoor
