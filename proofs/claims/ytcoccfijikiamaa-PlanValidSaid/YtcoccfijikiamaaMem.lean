/- Numbers in memory; rows that are owned. -/
import Derived.Test.YtcoccfijikiamaaAid
import Derived.Test.YtcoccfijikiamaaMd
namespace Go.Proofs.Ytcoccfijikiamaa
open Go.RowKit Go.Shelf

abbrev iv (x : Int) : Value := .int .i64 x
abbrev cv (c : Car) : Value := .agg #[iv c.len, iv c.acc, iv c.brk, iv c.rate, iv c.del]
/-- Numbers lie in a slice. -/
def NumL (w : World) (A : Option Addr) (l : List Int) : Prop := 0 < l.length → ∃ b off, A = some ⟨b, off, none⟩ ∧ ∀ i x, l[i]? = some x → w.cell? ⟨b, off + i, none⟩ = some (iv x)
theorem NumL.below {w w' : World} {A : Option Addr} {l : List Int} (h : NumL w A l) (hb : Below w.heap.size w w') : NumL w' A l := fun hn => by
  obtain ⟨b, off, e, hp⟩ := h hn
  refine ⟨b, off, e, fun i x hi => ?_⟩
  have := hp i x hi
  exact (hb.cell (p := ⟨b, off + i, none⟩) (World.block_lt_of_cell? w _ this)).trans this
theorem NumL.at {w : World} {A : Option Addr} {l : List Int} (h : NumL w A l) {i : Nat} {x : Int} (hi : l[i]? = some x) : ∃ b off, A = some ⟨b, off, none⟩ ∧ w.cell? ⟨b, off + i, none⟩ = some (iv x) := by
  obtain ⟨b, off, e, hp⟩ := h (by have := (List.getElem?_eq_some_iff.1 hi).1; omega)
  exact ⟨b, off, e, hp i x hi⟩
theorem NumL.nil (w : World) (A : Option Addr) : NumL w A [] := fun h => by cases h
theorem drop_at {α : Type} {L : List α} {k : Nat} (h : k < L.length) : ∃ n, L[k]? = some n ∧ L.drop k = n :: L.drop (k + 1) := ⟨L[k], List.getElem?_eq_getElem h, List.drop_eq_getElem_cons h⟩
theorem drop_end {α : Type} (L : List α) : L.drop L.length = [] := List.drop_length
theorem add_flat (b off j : Nat) : (⟨b, off, none⟩ : Addr).add j = ⟨b, off + j, none⟩ := by unfold Addr.add; split <;> simp_all
theorem own_form {W : World} {base e s k : Nat} {v : Value} {xs : List Value} (h : W.ownsRow base e s v k xs) : ∃ A c, v = .slice A k c := by
  by_cases h0 : k = 0
  · rcases h.2 with ⟨rfl, h2⟩ | ⟨g, cap, cur, rfl, _⟩
    · exact ⟨none, 0, by rw [h0]⟩
    · exact ⟨_, _, rfl⟩
  · obtain ⟨g, c, rfl, _⟩ := h.form (by omega)
    exact ⟨_, _, rfl⟩
theorem row_cells {W : World} {base : Nat} {e : TypeId} {size : Nat} {v : Value} {k : Nat} {xs : List Value} (h : W.ownsRow base e size v k xs) {j : Nat} (hj : v.ownBlock = some j) : base ≤ j ∧ ∃ cur, W.heap[j]? = some (.cells cur e (0, 0)) := by
  rcases h.2 with ⟨rfl, _⟩ | ⟨g, cap, cur, rfl, hb, hg, _⟩
  · simp [Value.ownBlock] at hj
  · simp [Value.ownBlock] at hj
    subst hj
    exact ⟨hb, cur, hg⟩
theorem own_cap {W : World} {base e s n c : Nat} {A : Option Addr} {xs : List Value} (h : W.ownsRow base e s (.slice A n c) n xs) : n ≤ c := by
  rcases h.2 with ⟨h1, h2⟩ | ⟨g, cap, cur, h1, _, _, h4, _⟩
  · omega
  · obtain ⟨_, rfl⟩ : A = some ⟨g, 0, none⟩ ∧ c = cap := by simpa using h1
    exact h4
theorem num_row {W : World} {base : Nat} {A : Option Addr} {c n : Nat} {r : List Int} (h : W.ownsRow base 2 1 (.slice A n c) n (r.map fun x => iv x)) : NumL W A r := fun hn => by
  have hl : r.length = n := by have := h.1; rw [List.length_map, Nat.mul_one] at this; exact this
  obtain ⟨g, c', hv, hb, hg⟩ := h.form (by omega)
  obtain ⟨rfl, rfl⟩ : A = some ⟨g, 0, none⟩ ∧ c = c' := by simpa using hv
  refine ⟨g, 0, rfl, fun i x hi => ?_⟩
  have hil := (List.getElem?_eq_some_iff.1 hi).1
  rw [Nat.zero_add, World.ownsRow.cellAt h i (by omega), List.getElem?_map, hi]
  rfl
theorem num_cells {w : World} {b off : Nat} {l : List Int} (h : ∀ i x, l[i]? = some x → w.cell? ⟨b, off + i, none⟩ = some (iv x)) : ∀ j u, (l.map fun x => iv x)[j]? = some u → w.cell? ((⟨b, off, none⟩ : Addr).add j) = some u := fun j u hu => by
  rw [List.getElem?_map] at hu
  obtain ⟨x, hx, rfl⟩ := Option.map_eq_some_iff.1 hu
  rw [add_flat]
  exact h j x hx
theorem one_num (l : List Int) : ∀ u ∈ l.map (fun x => iv x), u.oneCell' = true := fun u hu => by obtain ⟨x, _, rfl⟩ := List.mem_map.1 hu; rfl
/-- A block that holds numbers is a slice of them. -/
theorem num_box {w : World} {g : Nat} {t : TypeId} {l : List Int} (h : BoxAt w g t (l.map fun x => iv x).toArray) : NumL w (some ⟨g, 0, none⟩) l := fun _ => ⟨g, 0, rfl, fun i x hi => by
  rw [Nat.zero_add, h.cell i, List.getElem?_toArray, List.getElem?_map, hi]; rfl⟩
theorem inf2 : (Try.prog.info? 2).map (fun i => (i.zero, i.size, i.bytes)) = some (some (.int .i64 0), 1, 8) := by kernel_rfl
theorem inf26 : (Try.prog.info? 26).map (fun i => (i.zero, i.size, i.bytes)) = some (some (.agg #[.slice none 0 0]), 1, 24) := by kernel_rfl
theorem boxC {W w2 : World} {g : Nat} {t : TypeId} {a0 a1 a2 a3 a4 : Value} (h : BoxAt W g t #[a0, a1, a2, a3, a4]) (hb : Below W.heap.size W w2) :
    Hid (BoxAt w2 g t #[a0, a1, a2, a3, a4]) ∧ w2.cell? ⟨g, 0, none⟩ = some a0 ∧ w2.cell? ⟨g, 1, none⟩ = some a1 ∧ w2.cell? ⟨g, 2, none⟩ = some a2 ∧ w2.cell? ⟨g, 3, none⟩ = some a3 ∧ w2.cell? ⟨g, 4, none⟩ = some a4 ∧ g < w2.heap.size :=
  have q := h.below hb h.lt
  ⟨q, q.cell 0, q.cell 1, q.cell 2, q.cell 3, q.cell 4, q.lt⟩
theorem grown_set {w : World} (g i : Nat) (u : Value) : w.grownBy (w.setCell ⟨g, i, none⟩ u) (some g) :=
  ⟨rfl, rfl, rfl, by simp, fun k _ hk => Below.heap_setCell w _ u k (fun e => hk (by simp [e]))⟩
theorem below_drewN {B n : Nat} {w wr : World} (h : Below B w wr) : Below B w (wr.drewN n) := ⟨h.1, h.2, h.3, h.4, h.5⟩
end Go.Proofs.Ytcoccfijikiamaa
