/- The cells, collected from a map in any order and sorted, are the cells in order; a cell's row is found in the map. Buckets in memory: a row of three cells each; the third one is a row of numbers. -/
import Derived.Test.YtaehfildhmljeaaIdxQ
import Derived.Test.YtaehfildhmljeaaIdxR
import Derived.Maps.RangeRun
import Derived.Test.YtaehfildhmljeaaSIn
namespace Go.Proofs.Ytaehfildhmljeaa
open Go.RowKit Go.Shelf Go.Maps Go.WideMaps Go.WideElems Go.MapKept Go.Sort
open Go.ChangeMaps (setBlock)

theorem perm_all {d d' : Array Pt} (h : PermIn 0 d.size d d') : d'.toList.Perm d.toList := by
  obtain ⟨h1, _, h3⟩ := h
  have e1 : d'.extract 0 d.size = d' := by rw [← h1]; simp
  have e2 : d.extract 0 d.size = d := by simp
  rw [e1, e2] at h3
  exact h3
theorem srt_sorted {d d' : Array Pt} (hp : PermIn 0 d.size d d') (hs : SortedIn befB 0 d.size d') (hn : d.toList.Nodup) : SrtL d'.toList := by
  have hn' : d'.toList.Nodup := (perm_all hp).nodup_iff.2 hn
  have hsz := hp.1
  rw [SrtL, List.pairwise_iff_getElem]
  intro i j hi hj hij
  have hne := (List.pairwise_iff_getElem.1 hn') i j hi hj hij
  have hb := hs i j (Nat.zero_le _) hij (by rw [← hsz]; simpa using hj)
  rw [getElem!_pos _ i (by simpa using hi), getElem!_pos _ j (by simpa using hj)] at hb
  exact bef_tri (by simpa using hb) (fun e => hne (by simpa using e.symm))
theorem left_all {es : Array MapEntry} {S : Array Nat} (h : (leftOf es S).size = 0) {e : MapEntry} (he : e ∈ es.toList) : S.contains e.born = true := by
  unfold leftOf at h
  cases hc : S.contains e.born with
  | true => rfl
  | false =>
    have h1 : e ∈ es.filter (fun e => !S.contains e.born) := Array.mem_filter.2 ⟨by simpa using he, by simp only [hc]; rfl⟩
    have h2 : (es.filter (fun e => !S.contains e.born)) = #[] := Array.eq_empty_of_size_eq_zero h
    rw [h2] at h1
    simp at h1
section
variable {C : Nat → Pt} {n : Nat}
/-- The cells of some places, sorted, are all cells in order. -/
theorem cel_sorted {S : List Nat} (hS : S.Nodup) (hl : ∀ a ∈ S, a < rnk C n) (hall : ∀ a, a < rnk C n → a ∈ S) {d' : Array Pt} {d : Array Pt} (hd : d.toList = S.map (fun a => C (nthF C n a))) (hp : PermIn 0 d.size d d') (hs : SortedIn befB 0 d.size d') :
    d'.toList = celL C n := by
  have hn : d.toList.Nodup := by
    rw [hd]
    refine List.pairwise_map.2 ((List.Pairwise.and_mem.1 hS).imp ?_)
    rintro a b ⟨ha, hb, hne⟩ e
    obtain ⟨_, h2, h3⟩ := nth_spec (C := C) n a (hl a ha)
    obtain ⟨_, g2, g3⟩ := nth_spec (C := C) n b (hl b hb)
    have := fst_uniq h2 g2 e
    rw [this] at h3
    exact hne (h3.symm.trans g3)
  refine celL_of (srt_sorted hp hs hn) fun x => ?_
  rw [(perm_all hp).mem_iff, hd, List.mem_map, ← first_mem]
  constructor
  · rintro ⟨a, ha, e⟩
    exact ⟨a, hl a ha, e⟩
  · rintro ⟨a, ha, e⟩
    exact ⟨a, hall a ha, e⟩
/-- The k-th cell in order is some first cell. -/
theorem cel_place {k : Nat} {x : Pt} (h : (celL C n)[k]? = some x) : ∃ a, a < rnk C n ∧ C (nthF C n a) = x := by
  rw [first_mem]
  exact mem_celL.1 (List.mem_of_getElem? h)
end
section
variable {W : World} {b : Nat} {Ks : Nat → Value} {xs : List Value}
theorem run_lookup_old (h : MapAt W b Ks xs) (hk : ∀ a, a < xs.length → ∃ l, keyOf Try.prog 24 (Ks a) = some l) (hu : ∀ a c, a < xs.length → c < xs.length → Ks a = Ks c → a = c) {a : Nat} {v : Value} (hv : xs[a]? = some v) :
    (Instr.lookup 82 (.map (some b)) (Ks a) false).run Try.prog W = .ok v W := by
  have ha : a < xs.length := (List.getElem?_eq_some_iff.1 hv).1
  obtain ⟨l, hl⟩ := hk a ha
  have hes : ∀ e ∈ (esL Ks xs).toList, ∃ l, keyOf Try.prog 24 e.key = some l := fun e he => by
    obtain ⟨a, ha, e2⟩ := mem_esL he
    rw [e2]
    exact hk a ha
  rcases Try.law24.find W hl (esL Ks xs).toList hes with ⟨_, h2⟩ | ⟨j, e0, h1, h2, h3⟩
  · exact absurd rfl (h2 ⟨Ks a, v, a⟩ (List.mem_of_getElem? (i := a) (by rw [Array.getElem?_toList, esL_get, hv]; rfl)))
  · have h2' : (esL Ks xs)[j]? = some e0 := by rw [← Array.getElem?_toList]; exact h2
    have h4 := h2'
    rw [esL_get] at h4
    cases hx : xs[j]? with
    | none => rw [hx] at h4; cases h4
    | some u =>
      rw [hx] at h4
      obtain rfl := Option.some.inj h4
      obtain rfl := hu j a (List.getElem?_eq_some_iff.1 hx).1 ha h3
      rw [hx] at hv
      obtain rfl := Option.some.inj hv
      have hb : W.heap[b]? = some (.map (esL Ks xs) xs.length) := h
      simp [Instr.lookup, run_underlying Try.underlying82, MapKept.run_getObj_map hb, Try.law24.check W _ hl, h1, Result.andThen]
end
end Go.Proofs.Ytaehfildhmljeaa

namespace Go.Proofs.Ytaehfildhmljeaa
open Go.RowKit Go.Shelf

/-- The cells of buckets. -/
def bkV : List Pt → List Value → List Value
  | c :: L, y :: ys => .int .i64 c.1 :: .int .i64 c.2 :: y :: bkV L ys
  | _, _ => []
theorem bkV_len : ∀ {L : List Pt} {ys : List Value}, ys.length = L.length → (bkV L ys).length = L.length * 3 := by
  intro L
  induction L with
  | nil => intro ys h; cases ys with | nil => rfl | cons y r => simp at h
  | cons c L ih =>
    intro ys h
    cases ys with
    | nil => simp at h
    | cons y r =>
      simp only [bkV, List.length_cons]
      rw [ih (by simpa using h)]
      omega
theorem bkV_append : ∀ {L L' : List Pt} {ys ys' : List Value}, ys.length = L.length → bkV (L ++ L') (ys ++ ys') = bkV L ys ++ bkV L' ys' := by
  intro L
  induction L with
  | nil => intro L' ys ys' h; cases ys with | nil => rfl | cons y r => simp at h
  | cons c L ih =>
    intro L' ys ys' h
    cases ys with
    | nil => simp at h
    | cons y r =>
      simp only [List.cons_append, bkV]
      rw [ih (by simpa using h)]
theorem bkV_get : ∀ {L : List Pt} {ys : List Value} {j : Nat} {c : Pt} {y : Value}, L[j]? = some c → ys[j]? = some y →
    (bkV L ys)[j * 3]? = some (.int .i64 c.1) ∧ (bkV L ys)[j * 3 + 1]? = some (.int .i64 c.2) ∧ (bkV L ys)[j * 3 + 2]? = some y := by
  intro L
  induction L with
  | nil => intro ys j c y h; simp at h
  | cons d L ih =>
    intro ys j c y h h'
    cases ys with
    | nil => simp at h'
    | cons z r =>
      cases j with
      | zero =>
        obtain rfl : d = c := by simpa using h
        obtain rfl : z = y := by simpa using h'
        exact ⟨rfl, rfl, rfl⟩
      | succ j =>
        have h1 := ih (j := j) (c := c) (y := y) (by simpa using h) (by simpa using h')
        rw [bkV]
        rw [show (j + 1) * 3 = j * 3 + 1 + 1 + 1 by omega]
        simp only [List.getElem?_cons_succ]
        exact h1
theorem bkV_take : ∀ {L : List Pt} {ys : List Value} (j : Nat), ys.length = L.length → (bkV L ys).take (j * 3) = bkV (L.take j) (ys.take j) := by
  intro L
  induction L with
  | nil => intro ys j h; cases ys with | nil => simp [bkV] | cons y r => simp at h
  | cons c L ih =>
    intro ys j h
    cases ys with
    | nil => simp at h
    | cons y r =>
      cases j with
      | zero => simp [bkV]
      | succ j =>
        rw [show (j + 1) * 3 = j * 3 + 1 + 1 + 1 by omega]
        simp only [bkV, List.take_succ_cons]
        rw [ih j (by simpa using h)]
theorem bkV_drop : ∀ {L : List Pt} {ys : List Value} (j : Nat), ys.length = L.length → (bkV L ys).drop (j * 3) = bkV (L.drop j) (ys.drop j) := by
  intro L
  induction L with
  | nil => intro ys j h; cases ys with | nil => simp [bkV] | cons y r => simp at h
  | cons c L ih =>
    intro ys j h
    cases ys with
    | nil => simp at h
    | cons y r =>
      cases j with
      | zero => simp
      | succ j =>
        rw [show (j + 1) * 3 = j * 3 + 1 + 1 + 1 by omega]
        simp only [bkV, List.drop_succ_cons]
        rw [ih j (by simpa using h)]
theorem bkV_set : ∀ {L : List Pt} {ys : List Value} (j : Nat) (y : Value), ys.length = L.length → (bkV L ys).set (j * 3 + 2) y = bkV L (ys.set j y) := by
  intro L
  induction L with
  | nil => intro ys j y h; cases ys with | nil => simp [bkV] | cons y r => simp at h
  | cons c L ih =>
    intro ys j y h
    cases ys with
    | nil => simp at h
    | cons z r =>
      cases j with
      | zero => rfl
      | succ j =>
        rw [show (j + 1) * 3 + 2 = (j * 3 + 2) + 1 + 1 + 1 by omega]
        simp only [bkV, List.set_cons_succ]
        rw [ih j y (by simpa using h)]
theorem bkV_cells {L : List Pt} {ys : List Value} (h : ∀ y ∈ ys, y.oneCell' = true) : ∀ u ∈ bkV L ys, u.oneCell' = true := by
  induction L generalizing ys with
  | nil => intro u hu; simp [bkV] at hu
  | cons c L ih =>
    intro u hu
    cases ys with
    | nil => simp [bkV] at hu
    | cons y r =>
      rw [bkV] at hu
      rcases List.mem_cons.1 hu with rfl | hu
      · rfl
      · rcases List.mem_cons.1 hu with rfl | hu
        · rfl
        · rcases List.mem_cons.1 hu with rfl | hu
          · exact h _ List.mem_cons_self
          · exact ih (fun y hy => h y (List.mem_cons_of_mem _ hy)) u hu

/-- Buckets: the cells, and the rows of numbers. -/
def Bks (W : World) (v : Value) (L : List Pt) (R : List (List Nat)) : Prop :=
  ∃ base ys, ys.length = L.length ∧ R.length = L.length ∧ W.ownsRow base 43 3 v L.length (bkV L ys) ∧ ∀ (j : Nat) y r, ys[j]? = some y → R[j]? = some r → Row W y r
theorem Bks.below {W W' : World} {v : Value} {L : List Pt} {R : List (List Nat)} (h : Bks W v L R) (hb : Below W.heap.size W W') : Bks W' v L R := by
  obtain ⟨base, ys, h1, h2, h3, h4⟩ := h
  exact ⟨base, ys, h1, h2, h3.kept (grown_of_below hb) (Classical.em _), fun j y r hy hr => (h4 j y r hy hr).below hb⟩
theorem Bks.form {W : World} {v : Value} {L : List Pt} {R : List (List Nat)} (h : Bks W v L R) : ∃ A c, v = .slice A L.length c := by
  obtain ⟨base, ys, h1, h2, h, _⟩ := h
  by_cases h0 : L.length = 0
  · rcases h.2 with ⟨rfl, h2⟩ | ⟨g, cap, cur, rfl, _⟩
    · exact ⟨none, 0, by rw [h0]⟩
    · exact ⟨_, _, rfl⟩
  · obtain ⟨g, c, rfl, _⟩ := h.form (by omega)
    exact ⟨_, _, rfl⟩
theorem Bks.cell {W : World} {A : Option Addr} {c : Nat} {L : List Pt} {R : List (List Nat)} (h : Bks W (.slice A L.length c) L R) {k : Nat} (hk : k < L.length) (hk' : k < R.length) :
    ∃ g x, A = some ⟨g, 0, none⟩ ∧ Row W x R[k] ∧ W.cell? ⟨g, k * 3, none⟩ = some (.int .i64 L[k].1) ∧ W.cell? ⟨g, k * 3 + 1, none⟩ = some (.int .i64 L[k].2) ∧ W.cell? ⟨g, k * 3 + 2, none⟩ = some x := by
  obtain ⟨base, ys, h1, h2, h, h4⟩ := h
  obtain ⟨g, cap, hv, hg, _⟩ := h.form (by omega)
  obtain ⟨rfl, rfl⟩ : A = some ⟨g, 0, none⟩ ∧ c = cap := by simpa using hv
  have hx : ys[k]? = some ys[k] := List.getElem?_eq_getElem (by omega)
  obtain ⟨e0, e1, e2⟩ := bkV_get (List.getElem?_eq_getElem hk) hx
  refine ⟨g, ys[k], rfl, h4 k _ _ hx (List.getElem?_eq_getElem hk'), ?_, ?_, ?_⟩
  · rw [World.ownsRow.cellAt h _ (by omega), e0]
  · rw [World.ownsRow.cellAt h _ (by omega), e1]
  · rw [World.ownsRow.cellAt h _ (by omega), e2]
end Go.Proofs.Ytaehfildhmljeaa
