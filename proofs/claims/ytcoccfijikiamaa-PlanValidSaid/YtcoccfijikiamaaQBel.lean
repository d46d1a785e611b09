/- A region that draws its order, whose operations only read, and whose callees leave old blocks alone, walked once. -/
import Derived.Test.YtcoccfijikiamaaAid
import Derived.Deep.Quiet
import Derived.Deep.QuietTactic
namespace Go.Proofs.Ytcoccfijikiamaa
open Go.RowKit Go.Shelf

/-- The world w with blocks behind its own, so far drawn. -/
def grd (w : World) (d : Nat) (os : Array Obj) : World := { w with heap := w.heap ++ os, drawn := d }
structure GrdBy where
  n : Nat
  os : Array Obj
instance : Inhabited GrdBy := ⟨⟨0, #[]⟩⟩
theorem below_grd (w : World) (d : Nat) (os : Array Obj) : Below w.heap.size w (grd w d os) :=
  ⟨rfl, rfl, rfl, by simp [grd], fun k hk => by simp [grd, Array.getElem?_append, hk]⟩
theorem grd_of_below {w w' : World} (h : Below w.heap.size w w') : ∃ p : GrdBy, w' = grd w p.n p.os := by
  refine ⟨⟨w'.drawn, w'.heap.extract w.heap.size w'.heap.size⟩, ?_⟩
  have hh : w'.heap = w.heap ++ w'.heap.extract w.heap.size w'.heap.size := by
    apply Array.ext_getElem?
    intro i
    rw [Array.getElem?_append]
    by_cases hi : i < w.heap.size
    · rw [if_pos hi, h.block i hi]
    · rw [if_neg hi, Array.getElem?_extract]
      have hs := h.size
      by_cases hj : i < w'.heap.size
      · rw [if_pos (by omega), show w.heap.size + (i - w.heap.size) = i by omega]
      · rw [if_neg (by omega), Array.getElem?_eq_none (by omega)]
  obtain ⟨hp, tp, dr, o, ou⟩ := w'
  obtain ⟨e1, e2, e3, _, _⟩ := h
  simp only at hh e1 e2 e3
  unfold grd
  simp only
  rw [← hh, ← e1, ← e2, ← e3]
theorem Calls.grd_of {P : Program} {f : FuncId} {args : Array Value} {w : World} {n : Nat} {os : Array Obj} {v : Value}
    (h : Calls P f args (grd w n os) fun e w' => e = .returned v ∧ Below (grd w n os).heap.size (grd w n os) w') : Calls P f args (grd w n os) fun e w'' => e = .returned v ∧ ∃ p : GrdBy, w'' = grd w p.n p.os :=
  h.mono fun _ _ ⟨he, hb⟩ => ⟨he, grd_of_below (below_step (below_grd w n os) hb)⟩
theorem wp_region_quiet_grd {P : Program} {id : Nat} {Q : Exit → Act → World → Prop} {a : Act} {w : World} {l : List Oper} (hm : P.follows .mixedOrders = true) (hB : Region.lexB .any l.toArray = true)
    (h : wpQuiet P l.toArray (fun w' => ∃ p : GrdBy, w' = grd w p.n p.os) (fun a' => ∀ w', (∃ p : GrdBy, w' = grd w p.n p.os) → Q .normal a' w') l a) : (Code.region id l.toArray true).wp P Q a w :=
  wp_region_quiet (C := fun w' => ∃ p : GrdBy, w' = grd w p.n p.os) hm hB ⟨⟨w.drawn + 1, #[]⟩, by simp [grd]⟩ (by simpa using h)
theorem cell_grd {w : World} {a : Addr} {v : Value} (h : w.cell? a = some v) (n : Nat) (os : Array Obj) : (grd w n os).cell? a = some v :=
  ((below_grd w n os).cell (p := a) (World.block_lt_of_cell? w a h)).trans h
end Go.Proofs.Ytcoccfijikiamaa
