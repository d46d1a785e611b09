/- Rows that are made: owned rows of plans, each with a block of its own. -/
import Derived.Test.YtcoccfijikiamaaMem
namespace Go.Proofs.Ytcoccfijikiamaa
open Go.RowKit Go.Shelf

/-- Blocks of int64s stand. -/
def Kt2 (W W' : World) : Prop := ∀ (g : Nat) (cs : Array Value), W.heap[g]? = some (Obj.cells cs 2 (0, 0)) → W'.heap[g]? = some (Obj.cells cs 2 (0, 0))
theorem Kt2.of_below {W W' : World} (h : Below W.heap.size W W') : Kt2 W W' := fun g _ e => (h.block g (Array.getElem?_eq_some_iff.1 e).1).trans e
theorem Kt2.grown {W W' : World} {base e size : Nat} {v : Value} {k : Nat} {xs : List Value} (h : W.grownBy W' v.ownBlock) (hr : W.ownsRow base e size v k xs) (he : e ≠ 2) : Kt2 W W' := fun g cs h2 => by
  refine (h.block g (Array.getElem?_eq_some_iff.1 h2).1 ?_).trans h2
  intro hg
  obtain ⟨_, cur, h3⟩ := row_cells hr hg.symm
  rw [h2] at h3
  cases h3
  exact he rfl
/-- A value that is a row of its own. -/
def RowB (W : World) (u : Value) (r : List Int) : Prop := ∃ (C : Option Addr) (c : Nat), u = .slice C r.length c ∧ r.length ≤ c ∧ (0 < r.length → ∃ (g : Nat) (cur : Array Value), C = some ⟨g, 0, none⟩ ∧ W.heap[g]? = some (Obj.cells cur 2 (0, 0)) ∧ ∀ (i : Nat) (x : Int), r[i]? = some x → cur[i]? = some (iv x))
theorem RowB.kt {W W' : World} {u : Value} {r : List Int} (h : RowB W u r) (hk : Kt2 W W') : RowB W' u r := by
  obtain ⟨C, c, h1, h0, h2⟩ := h
  refine ⟨C, c, h1, h0, fun hl => ?_⟩
  obtain ⟨g, cur, e1, e2, e3⟩ := h2 hl
  exact ⟨g, cur, e1, hk _ _ e2, e3⟩
theorem RowB.num {W : World} {r : List Int} {C : Option Addr} {n c : Nat} (h : RowB W (.slice C n c) r) : NumL W C r := fun hl => by
  obtain ⟨C', c', h1, _, h2⟩ := h
  obtain ⟨rfl, _, rfl⟩ : C = C' ∧ n = r.length ∧ c = c' := by simpa using h1
  obtain ⟨g, cur, e1, e2, e3⟩ := h2 hl
  refine ⟨g, 0, e1, fun i x hi => ?_⟩
  have hb : BoxAt W g 2 cur := e2
  rw [Nat.zero_add, hb.cell i, e3 i x hi]
theorem row_b {W : World} {base : Nat} {C : Option Addr} {n c : Nat} {r : List Int} (h : W.ownsRow base 2 1 (.slice C n c) n (r.map fun x => iv x)) : RowB W (.slice C n c) r := by
  have hl : r.length = n := by have := h.1; rw [List.length_map, Nat.mul_one] at this; exact this
  subst hl
  refine ⟨C, c, rfl, own_cap h, fun hl => ?_⟩
  obtain ⟨g, c', hv, hb, hg⟩ := h.form hl
  obtain ⟨rfl, rfl⟩ : C = some ⟨g, 0, none⟩ ∧ c = c' := by simpa using hv
  obtain ⟨_, cur, h3⟩ := row_cells h (show (Value.slice (some (⟨g, 0, none⟩ : Addr)) r.length c).ownBlock = some g from rfl)
  refine ⟨g, cur, rfl, h3, fun i x hi => ?_⟩
  have hil := (List.getElem?_eq_some_iff.1 hi).1
  have h5 := World.ownsRow.cellAt h i (by omega)
  have hb : BoxAt W g 2 cur := h3
  rw [hb.cell i] at h5
  rw [h5, List.getElem?_map, hi]
  rfl
/-- Two lists, one by one. -/
def Rep {V : Type} (R : Value → V → Prop) : List Value → List V → Prop
  | [], [] => True
  | u :: us, x :: xs => R u x ∧ Rep R us xs
  | _, _ => False
theorem Rep.mono {V : Type} {R S : Value → V → Prop} (h : ∀ u x, R u x → S u x) : ∀ {us : List Value} {xs : List V}, Rep R us xs → Rep S us xs
  | [], [], _ => trivial
  | _ :: us, _ :: xs, g => ⟨h _ _ g.1, Rep.mono (us := us) (xs := xs) h g.2⟩
  | [], _ :: _, g => g.elim
  | _ :: _, [], g => g.elim
theorem Rep.at {V : Type} {R : Value → V → Prop} : ∀ {us : List Value} {xs : List V} (i : Nat) (x : V), Rep R us xs → xs[i]? = some x → ∃ u, us[i]? = some u ∧ R u x
  | u :: _, y :: _, 0, x, h, hx => by
    have e : y = x := by simpa using hx
    exact ⟨u, rfl, e ▸ h.1⟩
  | _ :: us, _ :: xs, i + 1, x, h, hx => by
    obtain ⟨u, hu, hr⟩ := Rep.at (us := us) (xs := xs) i x h.2 (by simpa using hx)
    exact ⟨u, by simpa using hu, hr⟩
  | [], [], _, _, _, hx => by simp at hx
  | [], _ :: _, _, _, h, _ => h.elim
  | _ :: _, [], _, _, h, _ => h.elim
theorem Rep.snoc {V : Type} {R : Value → V → Prop} {u : Value} {x : V} (hu : R u x) : ∀ {us : List Value} {xs : List V}, Rep R us xs → Rep R (us ++ [u]) (xs ++ [x])
  | [], [], _ => ⟨hu, trivial⟩
  | _ :: us, _ :: xs, h => ⟨h.1, Rep.snoc (us := us) (xs := xs) hu h.2⟩
  | [], _ :: _, h => h.elim
  | _ :: _, [], h => h.elim
/-- Plans that are owned. -/
def OwnP (W : World) (base : Nat) (v : Value) (t : List (List Int)) : Prop := ∃ us : List Value, W.ownsRow base 26 1 v t.length us ∧ Rep (RowB W) us t
theorem OwnP.at {W : World} {base n : Nat} {A : Option Addr} {c : Nat} {t : List (List Int)} (h : OwnP W base (.slice A n c) t) {i : Nat} {r : List Int} (hi : t[i]? = some r) :
    ∃ g C cc, A = some ⟨g, 0, none⟩ ∧ W.cell? ⟨g, i, none⟩ = some (.slice C r.length cc) ∧ r.length ≤ cc ∧ NumL W C r := by
  obtain ⟨us, h1, h2⟩ := h
  obtain ⟨A', c', e0⟩ := own_form h1
  obtain ⟨rfl, rfl, rfl⟩ : A = A' ∧ n = t.length ∧ c = c' := by simpa using e0
  have hil := (List.getElem?_eq_some_iff.1 hi).1
  obtain ⟨g, c', hv, hb, hg⟩ := h1.form (by omega)
  obtain ⟨rfl, rfl⟩ : A = some ⟨g, 0, none⟩ ∧ c = c' := by simpa using hv
  obtain ⟨u, hu, hr⟩ := h2.at i r hi
  obtain ⟨C, cc, rfl, h4, h5⟩ := id hr
  refine ⟨g, C, cc, rfl, ?_, h4, hr.num⟩
  rw [World.ownsRow.cellAt h1 i (by omega), hu]
theorem OwnP.below {W W' : World} {base : Nat} {v : Value} {t : List (List Int)} (h : OwnP W base v t) (hb : Below W.heap.size W W') : OwnP W' base v t := by
  obtain ⟨us, h1, h2⟩ := h
  exact ⟨us, h1.kept (grown_of_below hb) (Classical.em _), h2.mono fun u r h => h.kt (Kt2.of_below hb)⟩
theorem OwnP.form {W : World} {base : Nat} {v : Value} {t : List (List Int)} (h : OwnP W base v t) : ∃ A c, v = .slice A t.length c := by
  obtain ⟨us, h1, h2⟩ := h
  exact own_form h1
theorem OwnP.nil (W : World) (base : Nat) : OwnP W base (.slice none 0 0) [] := ⟨[], World.ownsRow_nil _ _ _ _, trivial⟩
/-- A plan more. -/
theorem OwnP.grown {W W' : World} {base g c : Nat} {v u : Value} {t : List (List Int)} {r : List Int} {us : List Value} (h1 : W.ownsRow base 26 1 v t.length us) (h2 : Rep (RowB W) us t) (hu : RowB W u r) (hg : W.grownBy W' v.ownBlock)
    (hr : W'.ownsRow base 26 1 (.slice (some ⟨g, 0, none⟩) (t.length + 1) c) (t.length + 1) (us ++ [u])) : OwnP W' base (.slice (some ⟨g, 0, none⟩) (t.length + 1) c) (t ++ [r]) := by
  have hk := Kt2.grown hg h1 (by decide)
  refine ⟨us ++ [u], ?_, (h2.mono fun u r h => h.kt hk).snoc (hu.kt hk)⟩
  rw [List.length_append]
  exact hr
end Go.Proofs.Ytcoccfijikiamaa
