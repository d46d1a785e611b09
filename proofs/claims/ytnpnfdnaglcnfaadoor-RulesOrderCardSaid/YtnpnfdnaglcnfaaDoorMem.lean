/- Nodes, numbers and rows of numbers in memory. -/
import Derived.Test.YtnpnfdnaglcnfaaDoorNod
namespace Go.Proofs.YtnpnfdnaglcnfaaDoor
open Go.RowKit Go.Shelf

/-- A node lies at an offset. -/
def NdAt (w : World) (b off : Nat) (n : Nd) : Prop :=
  w.cell? ⟨b, off, none⟩ = some (iv n.op) ∧ w.cell? ⟨b, off + 1, none⟩ = some (iv n.l) ∧ w.cell? ⟨b, off + 2, none⟩ = some (iv n.r) ∧ w.cell? ⟨b, off + 3, none⟩ = some (iv n.k) ∧ w.cell? ⟨b, off + 4, none⟩ = some (iv n.lo) ∧ w.cell? ⟨b, off + 5, none⟩ = some (iv n.hi)
theorem NdAt.lt {w : World} {b off : Nat} {n : Nd} (h : NdAt w b off n) : b < w.heap.size := World.block_lt_of_cell? w _ h.1
theorem NdAt.below {B : Nat} {w w' : World} {b off : Nat} {n : Nd} (h : NdAt w b off n) (hb : Below B w w') (hlt : b < B) : NdAt w' b off n :=
  have e : ∀ o, w'.cell? ⟨b, o, none⟩ = w.cell? ⟨b, o, none⟩ := fun o => hb.cell (p := ⟨b, o, none⟩) hlt
  ⟨(e _).trans h.1, (e _).trans h.2.1, (e _).trans h.2.2.1, (e _).trans h.2.2.2.1, (e _).trans h.2.2.2.2.1, (e _).trans h.2.2.2.2.2⟩
theorem NdAt.grown {w w' : World} {b off : Nat} {n : Nd} {row : Option Nat} (h : NdAt w b off n) (hb : w.grownBy w' row) (hr : some b ≠ row) : NdAt w' b off n :=
  have e : ∀ o, w'.cell? ⟨b, o, none⟩ = w.cell? ⟨b, o, none⟩ := fun o => by
    unfold World.cell?
    rw [hb.block b h.lt hr]
  ⟨(e _).trans h.1, (e _).trans h.2.1, (e _).trans h.2.2.1, (e _).trans h.2.2.2.1, (e _).trans h.2.2.2.2.1, (e _).trans h.2.2.2.2.2⟩
/-- Nodes lie in a slice. -/
def NdsL (w : World) (A : Option Addr) (L : List Nd) : Prop := 0 < L.length → ∃ b off, A = some ⟨b, off, none⟩ ∧ ∀ i n, L[i]? = some n → NdAt w b (off + i * 6) n
theorem NdsL.below {w w' : World} {A : Option Addr} {L : List Nd} (h : NdsL w A L) (hb : Below w.heap.size w w') : NdsL w' A L := fun hn => by
  obtain ⟨b, off, e, hp⟩ := h hn
  exact ⟨b, off, e, fun i n hi => (hp i n hi).below hb (hp i n hi).lt⟩
theorem NdsL.drew {w : World} {A : Option Addr} {L : List Nd} (h : NdsL w A L) : NdsL w.drew A L := h
theorem NdsL.at {w : World} {A : Option Addr} {L : List Nd} (h : NdsL w A L) {i : Nat} {n : Nd} (hi : L[i]? = some n) : ∃ b off, A = some ⟨b, off, none⟩ ∧ NdAt w b (off + i * 6) n := by
  obtain ⟨b, off, e, hp⟩ := h (by have := (List.getElem?_eq_some_iff.1 hi).1; omega)
  exact ⟨b, off, e, hp i n hi⟩
/-- Numbers lie in a slice. -/
def NumL (w : World) (A : Option Addr) (l : List Int) : Prop := 0 < l.length → ∃ b off, A = some ⟨b, off, none⟩ ∧ ∀ i x, l[i]? = some x → w.cell? ⟨b, off + i, none⟩ = some (iv x)
theorem NumL.below {w w' : World} {A : Option Addr} {l : List Int} (h : NumL w A l) (hb : Below w.heap.size w w') : NumL w' A l := fun hn => by
  obtain ⟨b, off, e, hp⟩ := h hn
  refine ⟨b, off, e, fun i x hi => ?_⟩
  have := hp i x hi
  exact (hb.cell (p := ⟨b, off + i, none⟩) (World.block_lt_of_cell? w _ this)).trans this
theorem NumL.at {w : World} {A : Option Addr} {l : List Int} (h : NumL w A l) {i : Nat} {x : Int} (hi : l[i]? = some x) : ∃ b off, A = some ⟨b, off, none⟩ ∧ w.cell? ⟨b, off + i, none⟩ = some (iv x) := by
  obtain ⟨b, off, e, hp⟩ := h (by have := (List.getElem?_eq_some_iff.1 hi).1; omega)
  exact ⟨b, off, e, hp i x hi⟩
theorem NumL.nil (w : World) (A : Option Addr) : NumL w A [] := fun h => by cases h
/-- Rows of numbers lie in a slice. -/
def RowsL (w : World) (A : Option Addr) (t : List (List Int)) : Prop := 0 < t.length → ∃ b off, A = some ⟨b, off, none⟩ ∧ ∀ i r, t[i]? = some r → ∃ C c, w.cell? ⟨b, off + i, none⟩ = some (.slice C r.length c) ∧ NumL w C r
theorem RowsL.below {w w' : World} {A : Option Addr} {t : List (List Int)} (h : RowsL w A t) (hb : Below w.heap.size w w') : RowsL w' A t := fun hn => by
  obtain ⟨b, off, e, hp⟩ := h hn
  refine ⟨b, off, e, fun i r hi => ?_⟩
  obtain ⟨C, c, h1, h2⟩ := hp i r hi
  exact ⟨C, c, (hb.cell (p := ⟨b, off + i, none⟩) (World.block_lt_of_cell? w _ h1)).trans h1, h2.below hb⟩
theorem RowsL.at {w : World} {A : Option Addr} {t : List (List Int)} (h : RowsL w A t) {i : Nat} {r : List Int} (hi : t[i]? = some r) : ∃ b off C c, A = some ⟨b, off, none⟩ ∧ w.cell? ⟨b, off + i, none⟩ = some (.slice C r.length c) ∧ NumL w C r := by
  obtain ⟨b, off, e, hp⟩ := h (by have := (List.getElem?_eq_some_iff.1 hi).1; omega)
  obtain ⟨C, c, h1, h2⟩ := hp i r hi
  exact ⟨b, off, C, c, e, h1, h2⟩
theorem drop_at {α : Type} {L : List α} {k : Nat} (h : k < L.length) : ∃ n, L[k]? = some n ∧ L.drop k = n :: L.drop (k + 1) := ⟨L[k], List.getElem?_eq_getElem h, List.drop_eq_getElem_cons h⟩
theorem drop_end {α : Type} (L : List α) : L.drop L.length = [] := List.drop_length
end Go.Proofs.YtnpnfdnaglcnfaaDoor
