/- Boxes and rows of spots through stores and new blocks (what RNea and TogW have too, for texts that import neither). -/
import Derived.Test.YtglkpabcflecmaaAwk2
namespace Go.Proofs.Ytglkpabcflecmaa
open Go.RowKit Go.Shelf

theorem box_set2 {W : World} {g : Nat} {a b : Int} (h : BoxAt W g 43 #[.int .i64 0, .int .i64 0]) : BoxAt ((W.setCell ⟨g, 0, none⟩ (.int .i64 a)).setCell ⟨g, 1, none⟩ (.int .i64 b)) g 43 #[.int .i64 a, .int .i64 b] := (h.set 0 _).set 1 _
theorem box_other2 {W : World} {g h : Nat} {a b : Value} {t : TypeId} {cs : Array Value} (hb : BoxAt W g t cs) (hne : g ≠ h) : BoxAt ((W.setCell ⟨h, 0, none⟩ a).setCell ⟨h, 1, none⟩ b) g t cs := (hb.other hne 0 a).other hne 1 b
theorem box_new2 (W : World) (o : Obj) (t : TypeId) (cs : Array Value) : BoxAt ((W.alloc o).alloc (.cells cs t)) (W.heap.size + 1) t cs := by
  have := BoxAt.new (W.alloc o) t cs
  rwa [World.size_alloc] at this
theorem box_new3 (W : World) (p1 p2 : Addr) (v1 v2 : Value) (t : TypeId) (cs : Array Value) : BoxAt (((W.setCell p1 v1).setCell p2 v2).alloc (.cells cs t)) W.heap.size t cs := by
  have := BoxAt.new ((W.setCell p1 v1).setCell p2 v2) t cs
  simpa using this

theorem box_set1 {W : World} {g : Nat} {v : Value} (h : BoxAt W g 24 #[.slice none 0 0]) : BoxAt (W.setCell ⟨g, 0, none⟩ v) g 24 #[v] := h.set 0 _
theorem box_other1 {W : World} {g h : Nat} {a : Value} {t : TypeId} {cs : Array Value} (hb : BoxAt W g t cs) (hne : g ≠ h) : BoxAt (W.setCell ⟨h, 0, none⟩ a) g t cs := hb.other hne 0 a
theorem box_new4 (W : World) (p1 : Addr) (v1 : Value) (t : TypeId) (cs : Array Value) : BoxAt ((W.setCell p1 v1).alloc (.cells cs t)) W.heap.size t cs := by
  have := BoxAt.new (W.setCell p1 v1) t cs
  simpa using this
theorem pts_set1 {W : World} {g off n h : Nat} {X Y : Nat → Int} {v : Value} (hp : Pts W g off n X Y) (hne : g ≠ h) : Pts (W.setCell ⟨h, 0, none⟩ v) g off n X Y := fun i hi =>
  ⟨(World.cell?_of_block (Below.heap_setCell _ _ _ _ hne)).trans (hp i hi).1, (World.cell?_of_block (Below.heap_setCell _ _ _ _ hne)).trans (hp i hi).2⟩
theorem pts_set2 {W : World} {g off n h : Nat} {X Y : Nat → Int} {v v2 : Value} (hp : Pts W g off n X Y) (hne : g ≠ h) : Pts ((W.setCell ⟨h, 0, none⟩ v).setCell ⟨h, 1, none⟩ v2) g off n X Y := fun i hi =>
  ⟨((World.cell?_of_block (Below.heap_setCell _ _ _ _ hne)).trans (World.cell?_of_block (Below.heap_setCell _ _ _ _ hne))).trans (hp i hi).1, ((World.cell?_of_block (Below.heap_setCell _ _ _ _ hne)).trans (World.cell?_of_block (Below.heap_setCell _ _ _ _ hne))).trans (hp i hi).2⟩
theorem pts_alloc1 {W : World} {g off n : Nat} {X Y : Nat → Int} {o : Obj} (hp : Pts W g off n X Y) (hn : 0 < n) : Pts (W.alloc o) g off n X Y := hp.below ((Below.refl _ W).alloc (Nat.le_refl _) o) (hp.lt hn)
theorem pts_drew1 {W : World} {g off n : Nat} {X Y : Nat → Int} (hp : Pts W g off n X Y) : Pts W.drew g off n X Y := hp
theorem pts_step1 {W W' : World} {g off n : Nat} {X Y : Nat → Int} (hp : Pts W g off n X Y) (hn : 0 < n) (hb : Below W.heap.size W W') : Pts W' g off n X Y := hp.below hb (hp.lt hn)

end Go.Proofs.Ytglkpabcflecmaa
