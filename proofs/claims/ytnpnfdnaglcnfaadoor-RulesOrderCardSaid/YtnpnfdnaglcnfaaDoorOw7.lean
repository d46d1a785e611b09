/- Laws and traces that are made: rows that are owned, each piece with blocks of its own. -/
import Derived.Test.YtnpnfdnaglcnfaaDoorBtr
import Derived.Test.YtnpnfdnaglcnfaaDoorOwn6
import Derived.Test.YtnpnfdnaglcnfaaDoorDulM
import Derived.Test.YtnpnfdnaglcnfaaDoorDulJ
namespace Go.Proofs.YtnpnfdnaglcnfaaDoor
open Go.RowKit Go.Shelf

theorem inf71 : (Tryd.prog.info? 71).map (fun i => (i.zero, i.size, i.bytes)) = some (some (.agg #[.int .i64 0, .slice none 0 0]), 2, 32) := by kernel_rfl
theorem inf23 : (Tryd.prog.info? 23).map (fun i => (i.zero, i.size, i.bytes)) = some (some (.slice none 0 0), 1, 24) := by kernel_rfl
/-- Blocks of nodes, of rows and of int64s stand. -/
def Kt3 (W W' : World) : Prop := ∀ (g : Nat) (cs : Array Value) (e : TypeId), (e = 61 ∨ e = 36 ∨ e = 2) → W.heap[g]? = some (Obj.cells cs e (0, 0)) → W'.heap[g]? = some (Obj.cells cs e (0, 0))
theorem Kt3.of_below {W W' : World} (h : Below W.heap.size W W') : Kt3 W W' := fun g _ _ _ e => (h.block g (Array.getElem?_eq_some_iff.1 e).1).trans e
theorem Kt3.two {W W' : World} (h : Kt3 W W') : Kt2 W W' := fun g cs e => h g cs 2 (.inr (.inr rfl)) e
theorem Kt3.grown {W W' : World} {base e size : Nat} {v : Value} {k : Nat} {xs : List Value} (h : W.grownBy W' v.ownBlock) (hr : W.ownsRow base e size v k xs) (he : e ≠ 61 ∧ e ≠ 36 ∧ e ≠ 2) : Kt3 W W' := fun g cs t ht h2 => by
  refine (h.block g (Array.getElem?_eq_some_iff.1 h2).1 ?_).trans h2
  intro hg
  obtain ⟨_, cur, h3⟩ := row_cells hr hg.symm
  rw [h2] at h3
  cases h3
  rcases ht with rfl | rfl | rfl
  · exact he.1 rfl
  · exact he.2.1 rfl
  · exact he.2.2 rfl
/-- A value that is a formula of its own. -/
def NdB (W : World) (u : Value) (L : List Nd) : Prop := ∃ (C : Option Addr) (c : Nat), u = .slice C L.length c ∧ (0 < L.length → ∃ (g : Nat) (cur : Array Value), C = some ⟨g, 0, none⟩ ∧ W.heap[g]? = some (Obj.cells cur 61 (0, 0)) ∧ ∀ (i : Nat) (x : Value), (ndC L)[i]? = some x → cur[i]? = some x)
theorem NdB.kt {W W' : World} {u : Value} {L : List Nd} (h : NdB W u L) (hk : Kt3 W W') : NdB W' u L := by
  obtain ⟨C, c, h1, h2⟩ := h
  refine ⟨C, c, h1, fun hl => ?_⟩
  obtain ⟨g, cur, e1, e2, e3⟩ := h2 hl
  exact ⟨g, cur, e1, hk _ _ _ (.inl rfl) e2, e3⟩
theorem NdB.nds {W : World} {L : List Nd} {C : Option Addr} {c : Nat} (h : NdB W (.slice C L.length c) L) : NdsL W C L := fun hl => by
  obtain ⟨C', c', h1, h2⟩ := h
  obtain ⟨rfl, rfl⟩ : C = C' ∧ c = c' := by simpa using h1
  obtain ⟨g, cur, e1, e2, e3⟩ := h2 hl
  have hb : BoxAt W g 61 cur := e2
  refine ⟨g, 0, e1, fun i n hi => ?_⟩
  have hc : ∀ j, j < 6 → ∀ v, [iv n.op, iv n.l, iv n.r, iv n.k, iv n.lo, iv n.hi][j]? = some v → W.cell? ⟨g, 0 + i * 6 + j, none⟩ = some v := fun j hj v hv => by
    rw [Nat.zero_add, hb.cell (i * 6 + j)]
    exact e3 _ _ (by rw [ndC_at L i n hi j hj, hv])
  exact ⟨hc 0 (by omega) _ rfl, hc 1 (by omega) _ rfl, hc 2 (by omega) _ rfl, hc 3 (by omega) _ rfl, hc 4 (by omega) _ rfl, hc 5 (by omega) _ rfl⟩
theorem nd_b {W : World} {base c : Nat} {A : Option Addr} {L : List Nd} (h : W.ownsRow base 61 6 (.slice A L.length c) L.length (ndC L)) : NdB W (.slice A L.length c) L := by
  refine ⟨A, c, rfl, fun hl => ?_⟩
  obtain ⟨g, c', hv, hb, hg⟩ := h.form hl
  obtain ⟨rfl, rfl⟩ : A = some ⟨g, 0, none⟩ ∧ c = c' := by simpa using hv
  obtain ⟨_, cur, h3⟩ := row_cells h (show (Value.slice (some (⟨g, 0, none⟩ : Addr)) L.length c).ownBlock = some g from rfl)
  refine ⟨g, cur, rfl, h3, fun i x hi => ?_⟩
  have hil := (List.getElem?_eq_some_iff.1 hi).1
  rw [ndC_len] at hil
  have h5 := World.ownsRow.cellAt h i hil
  have hb : BoxAt W g 61 cur := h3
  rw [hb.cell i] at h5
  rw [h5, hi]
/-- A value that is a trace of its own. -/
def TrB (W : World) (u : Value) (t : List (List Int)) : Prop := ∃ (C : Option Addr) (c : Nat), u = .slice C t.length c ∧ (0 < t.length → ∃ (g : Nat) (cur : Array Value) (us : List Value), C = some ⟨g, 0, none⟩ ∧ W.heap[g]? = some (Obj.cells cur 36 (0, 0)) ∧ (∀ (i : Nat) (x : Value), us[i]? = some x → cur[i]? = some x) ∧ Reps (RowB W) us t)
theorem TrB.kt {W W' : World} {u : Value} {t : List (List Int)} (h : TrB W u t) (hk : Kt3 W W') : TrB W' u t := by
  obtain ⟨C, c, h1, h2⟩ := h
  refine ⟨C, c, h1, fun hl => ?_⟩
  obtain ⟨g, cur, us, e1, e2, e3, e4⟩ := h2 hl
  exact ⟨g, cur, us, e1, hk _ _ _ (.inr (.inl rfl)) e2, e3, e4.mono fun u r h => h.kt hk.two⟩
theorem TrB.rows {W : World} {t : List (List Int)} {C : Option Addr} {c : Nat} (h : TrB W (.slice C t.length c) t) : RowsL W C t := fun hl => by
  obtain ⟨C', c', h1, h2⟩ := h
  obtain ⟨rfl, rfl⟩ : C = C' ∧ c = c' := by simpa using h1
  obtain ⟨g, cur, us, e1, e2, e3, e4⟩ := h2 hl
  have hb : BoxAt W g 36 cur := e2
  refine ⟨g, 0, e1, fun i r hi => ?_⟩
  obtain ⟨u, hu, hr⟩ := e4.at i r hi
  obtain ⟨D, d, rfl, _⟩ := id hr
  exact ⟨D, d, by rw [Nat.zero_add, hb.cell i, e3 i _ hu], hr.num⟩
theorem tr_b {W : World} {base c : Nat} {A : Option Addr} {t : List (List Int)} (h : OwnT W base (.slice A t.length c) t) : TrB W (.slice A t.length c) t := by
  obtain ⟨us, h, hre⟩ := h
  refine ⟨A, c, rfl, fun hl => ?_⟩
  obtain ⟨g, c', hv, hb, hg⟩ := h.form hl
  obtain ⟨rfl, rfl⟩ : A = some ⟨g, 0, none⟩ ∧ c = c' := by simpa using hv
  obtain ⟨_, cur, h3⟩ := row_cells h (show (Value.slice (some (⟨g, 0, none⟩ : Addr)) t.length c).ownBlock = some g from rfl)
  refine ⟨g, cur, us, rfl, h3, fun i x hi => ?_, hre⟩
  have hil := (List.getElem?_eq_some_iff.1 hi).1
  rw [hre.len] at hil
  have h5 := World.ownsRow.cellAt h i (by omega)
  have hb : BoxAt W g 36 cur := h3
  rw [hb.cell i] at h5
  rw [h5, hi]
/-- The cells of a row of laws. -/
def lwC : List (Nat × List Nd) → List Value → List Value
  | p :: bs, u :: us => iv (p.1 : Int) :: u :: lwC bs us
  | _, _ => []
theorem lwC_snoc : ∀ (bs : List (Nat × List Nd)) (us : List Value) (p : Nat × List Nd) (u : Value), us.length = bs.length → lwC (bs ++ [p]) (us ++ [u]) = lwC bs us ++ [iv (p.1 : Int), u]
  | [], [], p, u, _ => rfl
  | q :: bs, v :: us, p, u, h => by
    show iv (q.1 : Int) :: v :: lwC (bs ++ [p]) (us ++ [u]) = _
    rw [lwC_snoc bs us p u (by simpa using h)]
    rfl
  | [], _ :: _, _, _, h => by simp at h
  | _ :: _, [], _, _, h => by simp at h
theorem lwC_at : ∀ (bs : List (Nat × List Nd)) (us : List Value) (i : Nat) (p : Nat × List Nd) (u : Value), bs[i]? = some p → us[i]? = some u → (lwC bs us)[i * 2]? = some (iv (p.1 : Int)) ∧ (lwC bs us)[i * 2 + 1]? = some u
  | q :: bs, v :: us, 0, p, u, h, h' => by
    obtain rfl : q = p := by simpa using h
    obtain rfl : v = u := by simpa using h'
    exact ⟨rfl, rfl⟩
  | q :: bs, v :: us, i + 1, p, u, h, h' => by
    obtain ⟨a, b⟩ := lwC_at bs us i p u (by simpa using h) (by simpa using h')
    have e1 : (i + 1) * 2 = i * 2 + 1 + 1 := by omega
    have e2 : (i + 1) * 2 + 1 = i * 2 + 1 + 1 + 1 := by omega
    show (iv (q.1 : Int) :: v :: lwC bs us)[(i + 1) * 2]? = _ ∧ (iv (q.1 : Int) :: v :: lwC bs us)[(i + 1) * 2 + 1]? = _
    rw [e2, e1]
    exact ⟨by simpa using a, by simpa using b⟩
  | [], _, _, _, _, h, _ => by simp at h
  | _ :: _, [], _, _, _, _, h => by simp at h
/-- Laws that are owned. -/
def OwnB (W : World) (base : Nat) (v : Value) (bs : List (Nat × List Nd)) : Prop := ∃ us : List Value, W.ownsRow base 71 2 v bs.length (lwC bs us) ∧ Reps (fun u p => NdB W u p.2) us bs
theorem OwnB.laws {W : World} {base : Nat} {A : Option Addr} {c : Nat} {bs : List (Nat × List Nd)} (h : OwnB W base (.slice A bs.length c) bs) : LawsL W A bs := fun hn => by
  obtain ⟨us, h1, h2⟩ := h
  obtain ⟨g, c', hv, hb, hg⟩ := h1.form hn
  obtain ⟨rfl, rfl⟩ : A = some ⟨g, 0, none⟩ ∧ c = c' := by simpa using hv
  refine ⟨g, 0, rfl, fun i p hi => ?_⟩
  obtain ⟨u, hu, hr⟩ := h2.at i p hi
  have hil := (List.getElem?_eq_some_iff.1 hi).1
  obtain ⟨e1, e2⟩ := lwC_at bs us i p u hi hu
  obtain ⟨C, cc, rfl, h4⟩ := id hr
  refine ⟨?_, C, cc, ?_, hr.nds⟩
  · rw [Nat.zero_add, World.ownsRow.cellAt h1 (i * 2) (by omega), e1]
  · rw [Nat.zero_add, World.ownsRow.cellAt h1 (i * 2 + 1) (by omega), e2]
theorem OwnB.form {W : World} {base : Nat} {v : Value} {bs : List (Nat × List Nd)} (h : OwnB W base v bs) : ∃ A c, v = .slice A bs.length c := by
  obtain ⟨us, h1, h2⟩ := h
  exact own_form h1
theorem OwnB.nil (W : World) (base : Nat) : OwnB W base (.slice none 0 0) [] := ⟨[], World.ownsRow_nil _ _ _ _, trivial⟩
theorem OwnB.below {W W' : World} {base : Nat} {v : Value} {bs : List (Nat × List Nd)} (h : OwnB W base v bs) (hb : Below W.heap.size W W') : OwnB W' base v bs := by
  obtain ⟨us, h1, h2⟩ := h
  exact ⟨us, h1.kept (grown_of_below hb) (Classical.em _), h2.mono fun u p h => h.kt (Kt3.of_below hb)⟩
/-- A law more. -/
theorem OwnB.grown {W W' : World} {base g c : Nat} {v u : Value} {bs : List (Nat × List Nd)} {p : Nat × List Nd} {us : List Value} (h1 : W.ownsRow base 71 2 v bs.length (lwC bs us)) (h2 : Reps (fun u p => NdB W u p.2) us bs) (hu : NdB W u p.2) (hg : W.grownBy W' v.ownBlock)
    (hr : W'.ownsRow base 71 2 (.slice (some ⟨g, 0, none⟩) (bs.length + 1) c) (bs.length + 1) (lwC bs us ++ [iv (p.1 : Int), u])) : OwnB W' base (.slice (some ⟨g, 0, none⟩) (bs.length + 1) c) (bs ++ [p]) := by
  have hk := Kt3.grown hg h1 (by decide)
  refine ⟨us ++ [u], ?_, Reps.snoc (R := fun u p => NdB W' u p.2) (hu.kt hk) (h2.mono fun u p h => h.kt hk)⟩
  rw [List.length_append, lwC_snoc _ _ _ _ h2.len]
  exact hr
/-- Traces lie in a slice. -/
def TrsL (w : World) (A : Option Addr) (ts : List (List (List Int))) : Prop := 0 < ts.length → ∃ b off, A = some ⟨b, off, none⟩ ∧ ∀ i t, ts[i]? = some t → ∃ C c, w.cell? ⟨b, off + i, none⟩ = some (.slice C t.length c) ∧ RowsL w C t
theorem TrsL.below {w w' : World} {A : Option Addr} {ts : List (List (List Int))} (h : TrsL w A ts) (hb : Below w.heap.size w w') : TrsL w' A ts := fun hn => by
  obtain ⟨b, off, e, hp⟩ := h hn
  refine ⟨b, off, e, fun i t hi => ?_⟩
  obtain ⟨C, c, h2, h3⟩ := hp i t hi
  exact ⟨C, c, (hb.cell (p := ⟨b, off + i, none⟩) (World.block_lt_of_cell? w _ h2)).trans h2, h3.below hb⟩
theorem TrsL.at {w : World} {A : Option Addr} {ts : List (List (List Int))} (h : TrsL w A ts) {i : Nat} {t : List (List Int)} (hi : ts[i]? = some t) : ∃ b off C c, A = some ⟨b, off, none⟩ ∧ w.cell? ⟨b, off + i, none⟩ = some (.slice C t.length c) ∧ RowsL w C t := by
  obtain ⟨b, off, e, hp⟩ := h (by have := (List.getElem?_eq_some_iff.1 hi).1; omega)
  obtain ⟨C, c, h2, h3⟩ := hp i t hi
  exact ⟨b, off, C, c, e, h2, h3⟩
/-- Traces that are owned. -/
def OwnTT (W : World) (base : Nat) (v : Value) (ts : List (List (List Int))) : Prop := ∃ us : List Value, W.ownsRow base 23 1 v ts.length us ∧ Reps (TrB W) us ts
theorem OwnTT.trs {W : World} {base : Nat} {A : Option Addr} {c : Nat} {ts : List (List (List Int))} (h : OwnTT W base (.slice A ts.length c) ts) : TrsL W A ts := fun hn => by
  obtain ⟨us, h1, h2⟩ := h
  obtain ⟨g, c', hv, hb, hg⟩ := h1.form hn
  obtain ⟨rfl, rfl⟩ : A = some ⟨g, 0, none⟩ ∧ c = c' := by simpa using hv
  refine ⟨g, 0, rfl, fun i p hi => ?_⟩
  obtain ⟨u, hu, hr⟩ := h2.at i p hi
  have hil := (List.getElem?_eq_some_iff.1 hi).1
  obtain ⟨C, cc, rfl, h4⟩ := id hr
  refine ⟨C, cc, ?_, hr.rows⟩
  rw [Nat.zero_add, World.ownsRow.cellAt h1 i (by omega), hu]
theorem OwnTT.form {W : World} {base : Nat} {v : Value} {ts : List (List (List Int))} (h : OwnTT W base v ts) : ∃ A c, v = .slice A ts.length c := by
  obtain ⟨us, h1, h2⟩ := h
  exact own_form h1
theorem OwnTT.nil (W : World) (base : Nat) : OwnTT W base (.slice none 0 0) [] := ⟨[], World.ownsRow_nil _ _ _ _, trivial⟩
theorem OwnTT.below {W W' : World} {base : Nat} {v : Value} {ts : List (List (List Int))} (h : OwnTT W base v ts) (hb : Below W.heap.size W W') : OwnTT W' base v ts := by
  obtain ⟨us, h1, h2⟩ := h
  exact ⟨us, h1.kept (grown_of_below hb) (Classical.em _), h2.mono fun u p h => h.kt (Kt3.of_below hb)⟩
/-- A trace more. -/
theorem OwnTT.grown {W W' : World} {base g c : Nat} {v u : Value} {ts : List (List (List Int))} {t : List (List Int)} {us : List Value} (h1 : W.ownsRow base 23 1 v ts.length us) (h2 : Reps (TrB W) us ts) (hu : TrB W u t) (hg : W.grownBy W' v.ownBlock)
    (hr : W'.ownsRow base 23 1 (.slice (some ⟨g, 0, none⟩) (ts.length + 1) c) (ts.length + 1) (us ++ [u])) : OwnTT W' base (.slice (some ⟨g, 0, none⟩) (ts.length + 1) c) (ts ++ [t]) := by
  have hk := Kt3.grown hg h1 (by decide)
  refine ⟨us ++ [u], ?_, Reps.snoc (hu.kt hk) (h2.mono fun u p h => h.kt hk)⟩
  rw [List.length_append]
  exact hr
/-- Two rows of different kinds have different blocks. -/
theorem row_ne_row {W : World} {b1 e1 s1 b2 e2 s2 : Nat} {v1 v2 : Value} {k1 k2 : Nat} {xs1 xs2 : List Value} (h1 : W.ownsRow b1 e1 s1 v1 k1 xs1) (h2 : W.ownsRow b2 e2 s2 v2 k2 xs2) (hne : e1 ≠ e2) : v1.ownBlock = none ∨ v1.ownBlock ≠ v2.ownBlock := by
  cases ho : v1.ownBlock with
  | none => exact .inl rfl
  | some g =>
    refine .inr fun e => ?_
    obtain ⟨_, c1, h3⟩ := row_cells h1 ho
    obtain ⟨_, c2, h4⟩ := row_cells h2 e.symm
    rw [h3] at h4
    cases h4
    exact hne rfl
/-- The laws stand when the traces' row grows. -/
theorem OwnB.other {W W' : World} {base b2 : Nat} {v v2 : Value} {bs : List (Nat × List Nd)} {k2 : Nat} {us2 : List Value} (h : OwnB W base v bs) (h2 : W.ownsRow b2 23 1 v2 k2 us2) (hg : W.grownBy W' v2.ownBlock) : OwnB W' base v bs := by
  obtain ⟨us, h1, h3⟩ := h
  exact ⟨us, h1.kept hg (row_ne_row h1 h2 (by decide)), h3.mono fun u p h => h.kt (Kt3.grown hg h2 (by decide))⟩
/-- The traces stand when the laws' row grows. -/
theorem OwnTT.other {W W' : World} {base b2 : Nat} {v v2 : Value} {ts : List (List (List Int))} {k2 : Nat} {us2 : List Value} (h : OwnTT W base v ts) (h2 : W.ownsRow b2 71 2 v2 k2 us2) (hg : W.grownBy W' v2.ownBlock) : OwnTT W' base v ts := by
  obtain ⟨us, h1, h3⟩ := h
  exact ⟨us, h1.kept hg (row_ne_row h1 h2 (by decide)), h3.mono fun u p h => h.kt (Kt3.grown hg h2 (by decide))⟩
theorem rule_chk {x : Fm} (h : x.wf ∧ x.ok 2 ∧ x.hor ≤ 2 * 3 ∧ x.flat.length ≤ 15) : chkE x.flat 2 = 0 :=
  Vx.chk ⟨h.1, h.2.1, hor_nn _ h.2.1 h.1, by have := h.2.2.1; omega, by have := h.2.2.2; omega⟩
theorem tr_ok10 {t : List (List Int)} (h : TrOk 2 10 t) : trE t 2 = 0 := tr_ok2 ⟨by have := h.1; omega, h.2⟩
theorem tr_sh10 {t : List (List Int)} (h : TrOk 2 10 t) : Short t := fun r hr => by have := (h.2 r hr).1; omega
end Go.Proofs.YtnpnfdnaglcnfaaDoor
