/- Words of a text, and the nodes that they are. -/
import Derived.Test.YtnpnfdnaglcnfaaDoorFig
import Derived.Test.YtnpnfdnaglcnfaaDoorNum
import Derived.Test.YtnpnfdnaglcnfaaDoorFld
import Derived.Test.YtnpnfdnaglcnfaaDoorChk
namespace Go.Proofs.YtnpnfdnaglcnfaaDoor
open Go.RowKit Go.Shelf

def cutH (s : ByteArray) : ByteArray := ⟨(Lib.cut s.data.toList [32]).1.toArray⟩
def cutR (s : ByteArray) : ByteArray := ⟨(Lib.cut s.data.toList [32]).2.1.toArray⟩
def cutM (s : ByteArray) : Bool := (Lib.cut s.data.toList [32]).2.2
/-- What follows so many words. -/
def rst (s : ByteArray) : Nat → ByteArray
  | 0 => s
  | i + 1 => cutR (rst s i)
theorem cut_ok (s : ByteArray) (hs : s.size ≤ 1000) (w : World) (hE : Env w) :
    Calls Tryd.prog 94 #[.string s, .string ⟨#[32]⟩] w fun e w' => e = .returned (.tuple #[.string (cutH s), .string (cutR s), .bool (cutM s)]) ∧ Below w.heap.size w w' := by
  obtain ⟨_, m, hm⟩ := hE
  refine (Tryd.strings_Cut s ⟨#[32]⟩ m w (by omega) hm).mono fun e w' h => ⟨h.1, ?_⟩
  obtain ⟨n, rfl⟩ := h.2
  exact below_drewN (Below.refl _ _) n
def cntN (op : Int) : Nat := if op = 2 then 3 else if op = 6 ∨ op = 7 ∨ op = 8 then 2 else 0
def nodeF (op : Int) (x : Nat → Int) : Nd := if op = 2 then ⟨op, x 0, x 1, x 2, 0, 0⟩ else if op = 6 ∨ op = 7 ∨ op = 8 then ⟨op, 0, 0, 0, x 0, x 1⟩ else ⟨op, 0, 0, 0, 0, 0⟩
/-- A row of int64s, its block known whole. -/
def Row2 (W : World) (g M : Nat) (F : Nat → Int) : Prop := BoxAt W g 2 ((List.range M).map fun i => iv (F i)).toArray
theorem Row2.ext {W : World} {g M : Nat} {F G : Nat → Int} (h : Row2 W g M F) (he : ∀ i, i < M → F i = G i) : Row2 W g M G := by
  have e : ((List.range M).map fun i => iv (F i)) = ((List.range M).map fun i => iv (G i)) := List.map_congr_left fun i hi => by rw [he i (List.mem_range.1 hi)]
  unfold Row2 at h ⊢
  rwa [e] at h
theorem Row2.set {W : World} {g M : Nat} {F : Nat → Int} (h : Row2 W g M F) (k : Nat) (v : Int) : Row2 (W.setCell ⟨g, k, none⟩ (iv v)) g M (fun j => if j = k then v else F j) := by
  have h2 := BoxAt.set h k (iv v)
  have e : (((List.range M).map fun i => iv (F i)).toArray.setIfInBounds k (iv v)) = ((List.range M).map fun i => iv (if i = k then v else F i)).toArray := by
    apply Array.ext_getElem?
    intro i
    rw [Array.getElem?_setIfInBounds]
    simp only [List.getElem?_toArray, List.getElem?_map, List.size_toArray, List.length_map, List.length_range]
    by_cases hi : i < M
    · rw [List.getElem?_range hi]
      by_cases hk : k = i
      · subst hk
        simp [hi]
      · simp [hk]
        intro e
        exact absurd e.symm hk
    · rw [List.getElem?_eq_none (by simp; omega)]
      by_cases hk : k = i
      · subst hk
        simp [hi]
      · simp [hk]
  rw [e] at h2
  exact h2
theorem fig_any (op : Int) (h1 : 1 ≤ op) (h8 : op ≤ 8) (w : World) : Calls Tryd.prog 64 #[.agg #[iv op, iv 0, iv 0, iv 0, iv 0, iv 0]] w fun e w' => ∃ Ag g, e = .returned (.slice Ag (cntN op) (cntN op)) ∧ (0 < cntN op → Ag = some ⟨g, 0, none⟩ ∧ Row2 w' g (cntN op) fun _ => 0) ∧ w.heap.size ≤ g ∧ Below w.heap.size w w' := by
  by_cases h : op = 2
  · subst h
    refine (fig_three w).mono fun e w' hh => ?_
    obtain ⟨g, rfl, hb, hg, hbl⟩ := hh
    exact ⟨_, g, rfl, fun _ => ⟨rfl, hb⟩, hg, hbl⟩
  · by_cases h6 : op = 6 ∨ op = 7 ∨ op = 8
    · refine (fig_two op h6 w).mono fun e w' hh => ?_
      obtain ⟨g, rfl, hb, hg, hbl⟩ := hh
      have ec : cntN op = 2 := by unfold cntN; rw [if_neg h, if_pos h6]
      rw [ec]
      exact ⟨_, g, rfl, fun _ => ⟨rfl, hb⟩, hg, hbl⟩
    · refine (fig_none op (by omega) w).mono fun e w' hh => ?_
      obtain ⟨rfl, hbl⟩ := hh
      have ec : cntN op = 0 := by unfold cntN; rw [if_neg h, if_neg h6]
      rw [ec]
      exact ⟨_, w.heap.size, rfl, fun h => by omega, Nat.le_refl _, hbl⟩
theorem node_all (op : Int) (h1 : 1 ≤ op) (h8 : op ≤ 8) (Ag : Option Addr) (g : Nat) (x : Nat → Int) (w : World) (hg : 0 < cntN op → Ag = some ⟨g, 0, none⟩ ∧ Row2 w g (cntN op) x) :
    Calls Tryd.prog 97 #[iv op, .slice Ag (cntN op) (cntN op)] w fun e w' => e = .returned (ndV (nodeF op x)) ∧ Below w.heap.size w w' := by
  by_cases h : op = 2
  · subst h
    obtain ⟨rfl, hb⟩ := hg (by decide)
    exact node_three g 3 (x 0) (x 1) (x 2) w hb
  · by_cases h6 : op = 6 ∨ op = 7 ∨ op = 8
    · have ec : cntN op = 2 := by unfold cntN; rw [if_neg h, if_pos h6]
      have en : nodeF op x = ⟨op, 0, 0, 0, x 0, x 1⟩ := by unfold nodeF; rw [if_neg h, if_pos h6]
      rw [ec] at hg ⊢
      rw [en]
      obtain ⟨rfl, hb⟩ := hg (by decide)
      exact node_two op h6 g 2 (x 0) (x 1) w hb
    · have en : nodeF op x = ⟨op, 0, 0, 0, 0, 0⟩ := by unfold nodeF; rw [if_neg h, if_neg h6]
      rw [en]
      exact node_none op (by omega) _ w
/-- The cells of nodes. -/
def ndC (L : List Nd) : List Value := L.flatMap fun n => [iv n.op, iv n.l, iv n.r, iv n.k, iv n.lo, iv n.hi]
theorem ndC_len (L : List Nd) : (ndC L).length = L.length * 6 := by
  induction L with
  | nil => rfl
  | cons n L ih => simp only [ndC, List.flatMap_cons, List.length_append, List.length_cons, List.length_nil] at ih ⊢; omega
theorem ndC_snoc (L : List Nd) (n : Nd) : ndC (L ++ [n]) = ndC L ++ [iv n.op, iv n.l, iv n.r, iv n.k, iv n.lo, iv n.hi] := by unfold ndC; simp
theorem ndC_at : ∀ (L : List Nd) (i : Nat) (n : Nd), L[i]? = some n → ∀ j, j < 6 → (ndC L)[i * 6 + j]? = [iv n.op, iv n.l, iv n.r, iv n.k, iv n.lo, iv n.hi][j]?
  | [], i, n, h => by simp at h
  | m :: L, 0, n, h => fun j hj => by
    obtain rfl : m = n := by simpa using h
    show ([iv m.op, iv m.l, iv m.r, iv m.k, iv m.lo, iv m.hi] ++ ndC L)[0 * 6 + j]? = _
    rw [List.getElem?_append_left (by simp; omega)]
    congr 1
    omega
  | m :: L, i + 1, n, h => fun j hj => by
    have ih := ndC_at L i n (by simpa using h) j hj
    show ([iv m.op, iv m.l, iv m.r, iv m.k, iv m.lo, iv m.hi] ++ ndC L)[(i + 1) * 6 + j]? = _
    rw [List.getElem?_append_right (by simp; omega), ← ih]
    congr 1
    simp
    omega
/-- An owned row of nodes. -/
theorem nds_own {W : World} {base c : Nat} {A : Option Addr} {L : List Nd} (h : W.ownsRow base 61 6 (.slice A L.length c) L.length (ndC L)) : NdsL W A L := fun hn => by
  obtain ⟨g, c', hv, hb, hg⟩ := h.form hn
  obtain ⟨rfl, rfl⟩ : A = some ⟨g, 0, none⟩ ∧ c = c' := by simpa using hv
  refine ⟨g, 0, rfl, fun i n hi => ?_⟩
  have hil := (List.getElem?_eq_some_iff.1 hi).1
  have hc : ∀ j, j < 6 → W.cell? ⟨g, 0 + i * 6 + j, none⟩ = [iv n.op, iv n.l, iv n.r, iv n.k, iv n.lo, iv n.hi][j]? := fun j hj => by
    have := World.ownsRow.cellAt h (i * 6 + j) (by omega)
    rw [Nat.zero_add, this, ndC_at L i n hi j hj]
  exact ⟨hc 0 (by omega), hc 1 (by omega), hc 2 (by omega), hc 3 (by omega), hc 4 (by omega), hc 5 (by omega)⟩
theorem inf61 : (Tryd.prog.info? 61).map (fun i => (i.zero, i.size, i.bytes)) = some (some (.agg #[.int .i64 0, .int .i64 0, .int .i64 0, .int .i64 0, .int .i64 0, .int .i64 0]), 6, 48) := by kernel_rfl
end Go.Proofs.YtnpnfdnaglcnfaaDoor
