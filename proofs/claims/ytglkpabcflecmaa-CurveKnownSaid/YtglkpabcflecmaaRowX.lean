/- Rows of spots that the program may write: their block is known. -/
import Derived.Test.YtglkpabcflecmaaKCur
namespace Go.Proofs.Ytglkpabcflecmaa
open Go.RowKit Go.Shelf

/-- A row of n spots, at the head of a block of its own. -/
def RowAt (w : World) (g n : Nat) (X Y : Nat → Int) : Prop := Pts w g 0 n X Y ∧ ∃ cur, BoxAt w g 43 cur
theorem row_at {w : World} {base g n cap : Nat} {X Y : Nat → Int} (h : w.ownsRow base 43 2 (.slice (some ⟨g, 0, none⟩) n cap) n (cellsL X Y n)) : RowAt w g n X Y ∧ n ≤ cap := by
  refine ⟨⟨Pts.of_own h, ?_⟩, ?_⟩
  · rcases h.2 with ⟨h1, _⟩ | ⟨g1, c1, cur, h1, _, h2, _⟩
    · cases h1
    · cases h1; exact ⟨cur, h2⟩
  · rcases h.2 with ⟨h1, _⟩ | ⟨g1, c1, cur, h1, _, _, h2, _⟩
    · cases h1
    · cases h1; exact h2
theorem RowAt.pts {w : World} {g n : Nat} {X Y : Nat → Int} (h : RowAt w g n X Y) : Pts w g 0 n X Y := h.1
theorem RowAt.lt {w : World} {g n : Nat} {X Y : Nat → Int} (h : RowAt w g n X Y) : g < w.heap.size := by obtain ⟨_, cur, hb⟩ := h; exact hb.lt
theorem RowAt.below {w w' : World} {g n : Nat} {X Y : Nat → Int} (h : RowAt w g n X Y) (hb : Below w.heap.size w w') : RowAt w' g n X Y := by
  obtain ⟨hp, cur, hc⟩ := h
  exact ⟨hp.below hb hc.lt, cur, hc.below hb hc.lt⟩
theorem RowAt.other {w : World} {g h : Nat} {n : Nat} {X Y : Nat → Int} (hr : RowAt w g n X Y) (hne : g ≠ h) (i : Nat) (v : Value) : RowAt (w.setCell ⟨h, i, none⟩ v) g n X Y := by
  obtain ⟨hp, cur, hc⟩ := hr
  exact ⟨fun k hk => ⟨(World.cell?_of_block (Below.heap_setCell _ _ _ _ hne)).trans (hp k hk).1, (World.cell?_of_block (Below.heap_setCell _ _ _ _ hne)).trans (hp k hk).2⟩, cur, hc.other hne i v⟩
/-- A function, one value turned. -/
def upd (X : Nat → Int) (k : Nat) (x : Int) (i : Nat) : Int := if i = k then x else X i
theorem upd_at {X : Nat → Int} {k : Nat} {x : Int} : upd X k x k = x := if_pos rfl
theorem upd_ne {X : Nat → Int} {k i : Nat} {x : Int} (h : ¬ i = k) : upd X k x i = X i := if_neg h
theorem RowAt.setX {w : World} {g n : Nat} {X Y : Nat → Int} (h : RowAt w g n X Y) {k : Nat} (hk : k < n) (x : Int) : RowAt (w.setCell ⟨g, k * 2, none⟩ (.int .i64 x)) g n (upd X k x) Y := by
  obtain ⟨hp, cur, hc⟩ := h
  have hs := hc.set (k * 2) (.int .i64 x)
  have hin : k * 2 < cur.size := by
    have h0 := (hp k hk).1
    rw [Nat.zero_add, hc.cell] at h0
    exact (Array.getElem?_eq_some_iff.1 h0).1
  refine ⟨fun i hi => ?_, _, hs⟩
  obtain ⟨a, b⟩ := hp i hi
  rw [hc.cell, Nat.zero_add] at a b
  rw [hs.cell, hs.cell, Nat.zero_add, Array.getElem?_setIfInBounds, Array.getElem?_setIfInBounds]
  by_cases hik : i = k
  · subst hik
    rw [if_pos rfl, if_pos hin, if_neg (by omega), upd_at]
    exact ⟨rfl, b⟩
  · rw [if_neg (by omega), if_neg (by omega), upd_ne hik]
    exact ⟨a, b⟩
theorem RowAt.setY {w : World} {g n : Nat} {X Y : Nat → Int} (h : RowAt w g n X Y) {k : Nat} (hk : k < n) (y : Int) : RowAt (w.setCell ⟨g, k * 2 + 1, none⟩ (.int .i64 y)) g n X (upd Y k y) := by
  obtain ⟨hp, cur, hc⟩ := h
  have hs := hc.set (k * 2 + 1) (.int .i64 y)
  have hin : k * 2 + 1 < cur.size := by
    have h0 := (hp k hk).2
    rw [Nat.zero_add, hc.cell] at h0
    exact (Array.getElem?_eq_some_iff.1 h0).1
  refine ⟨fun i hi => ?_, _, hs⟩
  obtain ⟨a, b⟩ := hp i hi
  rw [hc.cell, Nat.zero_add] at a b
  rw [hs.cell, hs.cell, Nat.zero_add, Array.getElem?_setIfInBounds, Array.getElem?_setIfInBounds]
  by_cases hik : i = k
  · subst hik
    rw [if_neg (by omega), if_pos rfl, if_pos hin, upd_at]
    exact ⟨a, rfl⟩
  · rw [if_neg (by omega), if_neg (by omega), upd_ne hik]
    exact ⟨a, b⟩
end Go.Proofs.Ytglkpabcflecmaa
