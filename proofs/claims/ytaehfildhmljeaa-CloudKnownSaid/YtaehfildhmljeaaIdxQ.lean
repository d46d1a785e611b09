/- A row of points of two cells each, sorted by the library: what the slice owns behind it. Plain words on worlds. -/
import Derived.Shelf.GgSortFunc.InsertionK
import Derived.Sort.Grow
import Derived.Laws.AppendOwn
import Derived.Laws.OwnMore
namespace Go.Proofs.Ytaehfildhmljeaa
open Go.Sort

def encC (x : Int × Int) : List Value := [.int .i64 x.1, .int .i64 x.2]
/-- The cells of a list of points. -/
def ptV (L : List (Int × Int)) : List Value := L.flatMap encC
theorem ptV_cons (x : Int × Int) (L : List (Int × Int)) : ptV (x :: L) = .int .i64 x.1 :: .int .i64 x.2 :: ptV L := rfl
theorem ptV_len (L : List (Int × Int)) : (ptV L).length = L.length * 2 := by
  induction L with
  | nil => rfl
  | cons x r ih => rw [ptV_cons]; simp [ih]; omega
theorem ptV_get : ∀ (L : List (Int × Int)) (j : Nat) (x : Int × Int), L[j]? = some x → (ptV L)[j * 2]? = some (.int .i64 x.1) ∧ (ptV L)[j * 2 + 1]? = some (.int .i64 x.2) := by
  intro L
  induction L with
  | nil => intro j x h; simp at h
  | cons y r ih =>
    intro j x h
    cases j with
    | zero =>
      obtain rfl : y = x := by simpa using h
      exact ⟨rfl, rfl⟩
    | succ j =>
      have h1 := ih j x (by simpa using h)
      rw [ptV_cons]
      have e1 : (j + 1) * 2 = j * 2 + 1 + 1 := by omega
      have e2 : (j + 1) * 2 + 1 = j * 2 + 1 + 1 + 1 := by omega
      rw [e1]
      simp only [List.getElem?_cons_succ]
      exact h1
theorem flat_list (d : Array (Int × Int)) : (flatK encC 2 d).toList = ptV d.toList := by
  apply List.ext_getElem?
  intro t
  by_cases ht : t < d.size * 2
  · have hj : t / 2 < d.size := by omega
    have hx : d.toList[t / 2]? = some d[t / 2]! := by simp [hj]
    have h1 := ptV_get d.toList (t / 2) _ hx
    have h0 : (flatK encC 2 d).toList[t]? = some ((encC d[t / 2]!)[t % 2]!) := by
      rw [Array.getElem?_toList, Array.getElem?_eq_getElem (by simpa using ht), ← getElem!_pos _ t (by simpa using ht), get_flatK _ _ _ _ ht]
    rw [h0]
    rcases Nat.mod_two_eq_zero_or_one t with e | e
    · have : t = t / 2 * 2 := by omega
      rw [e]
      conv => rhs; rw [this]
      rw [h1.1]; rfl
    · have : t = t / 2 * 2 + 1 := by omega
      rw [e]
      conv => rhs; rw [this]
      rw [h1.2]; rfl
  · rw [List.getElem?_eq_none (by simp; omega), List.getElem?_eq_none (by rw [ptV_len]; simp; omega)]
section
variable {w : World} {g n : Nat} {os : Array Obj} {cur : Array Value} {e : TypeId}
theorem holds_row {d : Array (Int × Int)} (hb : w.heap[g]? = some (.cells cur e (0, 0))) (ht : cur.toList.take (d.size * 2) = ptV d.toList) : HoldsK encC 2 w g 0 d := by
  intro j hj
  have hj' : j < d.size * 2 := by simpa using hj
  refine ⟨?_, by simp [World.frozen?, hb]⟩
  have h1 : (cur.toList.take (d.size * 2))[j]? = (ptV d.toList)[j]? := by rw [ht]
  rw [List.getElem?_take_of_lt hj', ← flat_list] at h1
  simp only [World.cell?, hb, Nat.zero_add]
  simp only [Option.isSome_none, Bool.false_eq_true, if_false]
  rw [← Array.getElem?_toList, h1, Array.getElem?_toList, Array.getElem?_eq_getElem hj, getElem!_pos _ j hj]
  rfl
theorem heap_sortK (F : Array Value) {fr : Nat × Nat} (hb : w.heap[g]? = some (.cells cur e fr)) :
    (grow (putRow id (Sort.ahead w n) g 0 F) os).heap[g]? = some (.cells (putCells id 0 F cur) e fr) := by
  have hg : g < w.heap.size := (Array.getElem?_eq_some_iff.1 hb).1
  rw [heap_grow_old _ _ (by simpa using hg)]
  simp [putRow, mapBlock, Sort.ahead, Array.getElem?_modify, hb, onCells]
theorem grownBy_sortK (d : Array (Int × Int)) : w.grownBy (sortWorldK encC 2 w g 0 n d os) (some g) := by
  refine ⟨rfl, rfl, rfl, by simp [sortWorldK, putRowK], fun k hk hne => ?_⟩
  have hne' : g ≠ k := fun e => hne (by rw [e])
  unfold sortWorldK putRowK
  rw [heap_grow_old _ _ (by simpa using hk)]
  simp [putRow, mapBlock, Sort.ahead, Array.getElem?_modify, hne']
theorem take_putK (F : Array Value) (h : F.size ≤ cur.size) : (putCells id 0 F cur).toList.take F.size = F.toList := by
  apply List.ext_getElem?
  intro j
  by_cases hj : j < F.size
  · rw [List.getElem?_take_of_lt hj, Array.getElem?_toList]
    simp [putCells, hj, show j < cur.size by omega]
  · rw [List.getElem?_take_eq_none (by omega), List.getElem?_eq_none (by simp; omega)]
/-- Behind the sort the same slice owns the sorted points. -/
theorem ownsRow_sortK {base cap m : Nat} {d : Array (Int × Int)} (hl : d.size = m) (hbase : base ≤ g) (hb : w.heap[g]? = some (.cells cur e (0, 0))) (h1 : m ≤ cap) (h2 : cap ≤ maxLen) (h3 : cur.size = cap * 2) :
    (sortWorldK encC 2 w g 0 n d os).ownsRow base e 2 (.slice (some ⟨g, 0, none⟩) m cap) m (ptV d.toList) := by
  refine ⟨by rw [ptV_len]; simp [hl], .inr ⟨g, cap, _, rfl, hbase, heap_sortK _ hb, h1, h2, by simp [putCells, h3], ?_⟩⟩
  have h4 := take_putK (cur := cur) (flatK encC 2 d) (by simp [hl, h3]; omega)
  rw [flat_list] at h4
  rw [← h4]
  simp [hl]
end
end Go.Proofs.Ytaehfildhmljeaa
