/- The cells, collected from a map in any order and sorted, are the cells in order; a cell's row is found in the map. Buckets in memory: a row of three cells each; the third one is a row of numbers. The program's Index of a valid cloud, the size in range: the walk. -/
import Derived.Test.YtaehfildhmljeaaIdxQ
import Derived.Test.YtaehfildhmljeaaIdxR
import Derived.Maps.RangeRun
import Derived.Test.YtaehfildhmljeaaSIn
import Derived.Test.YtaehfildhmljeaaIdxS
import Derived.Test.YtaehfildhmljeaaRedW
import Derived.Test.YtaehfildhmljeaaKCl
namespace Go.Proofs.Ytaehfildhmljeaa
open Go.RowKit Go.Shelf Go.Maps Go.WideMaps Go.WideElems Go.MapKept Go.Sort
open Go.ChangeMaps (setBlock)

theorem perm_all {d d' : Array Pt} (h : PermIn 0 d.size d d') : d'.toList.Perm d.toList := by
  obtain ⟨h1, _, h3⟩ := h
  have e1 : d'.extract 0 d.size = d' := by rw [← h1]; simp
  have e2 : d.extract 0 d.size = d := by simp
  rw [e1, e2] at h3
  exact h3
theorem srt_sorted {d d' : Array Pt} (hp : PermIn 0 d.size d d') (hs : SortedIn befB 0 d.size d') (hn : d.toList.Nodup) : SrtL d'.toList := by
  have hn' : d'.toList.Nodup := (perm_all hp).nodup_iff.2 hn
  have hsz := hp.1
  rw [SrtL, List.pairwise_iff_getElem]
  intro i j hi hj hij
  have hne := (List.pairwise_iff_getElem.1 hn') i j hi hj hij
  have hb := hs i j (Nat.zero_le _) hij (by rw [← hsz]; simpa using hj)
  rw [getElem!_pos _ i (by simpa using hi), getElem!_pos _ j (by simpa using hj)] at hb
  exact bef_tri (by simpa using hb) (fun e => hne (by simpa using e.symm))
theorem left_all {es : Array MapEntry} {S : Array Nat} (h : (leftOf es S).size = 0) {e : MapEntry} (he : e ∈ es.toList) : S.contains e.born = true := by
  unfold leftOf at h
  cases hc : S.contains e.born with
  | true => rfl
  | false =>
    have h1 : e ∈ es.filter (fun e => !S.contains e.born) := Array.mem_filter.2 ⟨by simpa using he, by simp only [hc]; rfl⟩
    have h2 : (es.filter (fun e => !S.contains e.born)) = #[] := Array.eq_empty_of_size_eq_zero h
    rw [h2] at h1
    simp at h1
section
variable {C : Nat → Pt} {n : Nat}
/-- The cells of some places, sorted, are all cells in order. -/
theorem cel_sorted {S : List Nat} (hS : S.Nodup) (hl : ∀ a ∈ S, a < rnk C n) (hall : ∀ a, a < rnk C n → a ∈ S) {d' : Array Pt} {d : Array Pt} (hd : d.toList = S.map (fun a => C (nthF C n a))) (hp : PermIn 0 d.size d d') (hs : SortedIn befB 0 d.size d') :
    d'.toList = celL C n := by
  have hn : d.toList.Nodup := by
    rw [hd]
    refine List.pairwise_map.2 ((List.Pairwise.and_mem.1 hS).imp ?_)
    rintro a b ⟨ha, hb, hne⟩ e
    obtain ⟨_, h2, h3⟩ := nth_spec (C := C) n a (hl a ha)
    obtain ⟨_, g2, g3⟩ := nth_spec (C := C) n b (hl b hb)
    have := fst_uniq h2 g2 e
    rw [this] at h3
    exact hne (h3.symm.trans g3)
  refine celL_of (srt_sorted hp hs hn) fun x => ?_
  rw [(perm_all hp).mem_iff, hd, List.mem_map, ← first_mem]
  constructor
  · rintro ⟨a, ha, e⟩
    exact ⟨a, hl a ha, e⟩
  · rintro ⟨a, ha, e⟩
    exact ⟨a, hall a ha, e⟩
/-- The k-th cell in order is some first cell. -/
theorem cel_place {k : Nat} {x : Pt} (h : (celL C n)[k]? = some x) : ∃ a, a < rnk C n ∧ C (nthF C n a) = x := by
  rw [first_mem]
  exact mem_celL.1 (List.mem_of_getElem? h)
end
section
variable {W : World} {b : Nat} {Ks : Nat → Value} {xs : List Value}
theorem run_lookup_old (h : MapAt W b Ks xs) (hk : ∀ a, a < xs.length → ∃ l, keyOf Try.prog 24 (Ks a) = some l) (hu : ∀ a c, a < xs.length → c < xs.length → Ks a = Ks c → a = c) {a : Nat} {v : Value} (hv : xs[a]? = some v) :
    (Instr.lookup 82 (.map (some b)) (Ks a) false).run Try.prog W = .ok v W := by
  have ha : a < xs.length := (List.getElem?_eq_some_iff.1 hv).1
  obtain ⟨l, hl⟩ := hk a ha
  have hes : ∀ e ∈ (esL Ks xs).toList, ∃ l, keyOf Try.prog 24 e.key = some l := fun e he => by
    obtain ⟨a, ha, e2⟩ := mem_esL he
    rw [e2]
    exact hk a ha
  rcases Try.law24.find W hl (esL Ks xs).toList hes with ⟨_, h2⟩ | ⟨j, e0, h1, h2, h3⟩
  · exact absurd rfl (h2 ⟨Ks a, v, a⟩ (List.mem_of_getElem? (i := a) (by rw [Array.getElem?_toList, esL_get, hv]; rfl)))
  · have h2' : (esL Ks xs)[j]? = some e0 := by rw [← Array.getElem?_toList]; exact h2
    have h4 := h2'
    rw [esL_get] at h4
    cases hx : xs[j]? with
    | none => rw [hx] at h4; cases h4
    | some u =>
      rw [hx] at h4
      obtain rfl := Option.some.inj h4
      obtain rfl := hu j a (List.getElem?_eq_some_iff.1 hx).1 ha h3
      rw [hx] at hv
      obtain rfl := Option.some.inj hv
      have hb : W.heap[b]? = some (.map (esL Ks xs) xs.length) := h
      simp [Instr.lookup, run_underlying Try.underlying82, MapKept.run_getObj_map hb, Try.law24.check W _ hl, h1, Result.andThen]
end
end Go.Proofs.Ytaehfildhmljeaa

namespace Go.Proofs.Ytaehfildhmljeaa
open Go.RowKit Go.Shelf

/-- The cells of buckets. -/
def bkV : List Pt → List Value → List Value
  | c :: L, y :: ys => .int .i64 c.1 :: .int .i64 c.2 :: y :: bkV L ys
  | _, _ => []
theorem bkV_len : ∀ {L : List Pt} {ys : List Value}, ys.length = L.length → (bkV L ys).length = L.length * 3 := by
  intro L
  induction L with
  | nil => intro ys h; cases ys with | nil => rfl | cons y r => simp at h
  | cons c L ih =>
    intro ys h
    cases ys with
    | nil => simp at h
    | cons y r =>
      simp only [bkV, List.length_cons]
      rw [ih (by simpa using h)]
      omega
theorem bkV_append : ∀ {L L' : List Pt} {ys ys' : List Value}, ys.length = L.length → bkV (L ++ L') (ys ++ ys') = bkV L ys ++ bkV L' ys' := by
  intro L
  induction L with
  | nil => intro L' ys ys' h; cases ys with | nil => rfl | cons y r => simp at h
  | cons c L ih =>
    intro L' ys ys' h
    cases ys with
    | nil => simp at h
    | cons y r =>
      simp only [List.cons_append, bkV]
      rw [ih (by simpa using h)]
theorem bkV_get : ∀ {L : List Pt} {ys : List Value} {j : Nat} {c : Pt} {y : Value}, L[j]? = some c → ys[j]? = some y →
    (bkV L ys)[j * 3]? = some (.int .i64 c.1) ∧ (bkV L ys)[j * 3 + 1]? = some (.int .i64 c.2) ∧ (bkV L ys)[j * 3 + 2]? = some y := by
  intro L
  induction L with
  | nil => intro ys j c y h; simp at h
  | cons d L ih =>
    intro ys j c y h h'
    cases ys with
    | nil => simp at h'
    | cons z r =>
      cases j with
      | zero =>
        obtain rfl : d = c := by simpa using h
        obtain rfl : z = y := by simpa using h'
        exact ⟨rfl, rfl, rfl⟩
      | succ j =>
        have h1 := ih (j := j) (c := c) (y := y) (by simpa using h) (by simpa using h')
        rw [bkV]
        rw [show (j + 1) * 3 = j * 3 + 1 + 1 + 1 by omega]
        simp only [List.getElem?_cons_succ]
        exact h1
theorem bkV_take : ∀ {L : List Pt} {ys : List Value} (j : Nat), ys.length = L.length → (bkV L ys).take (j * 3) = bkV (L.take j) (ys.take j) := by
  intro L
  induction L with
  | nil => intro ys j h; cases ys with | nil => simp [bkV] | cons y r => simp at h
  | cons c L ih =>
    intro ys j h
    cases ys with
    | nil => simp at h
    | cons y r =>
      cases j with
      | zero => simp [bkV]
      | succ j =>
        rw [show (j + 1) * 3 = j * 3 + 1 + 1 + 1 by omega]
        simp only [bkV, List.take_succ_cons]
        rw [ih j (by simpa using h)]
theorem bkV_drop : ∀ {L : List Pt} {ys : List Value} (j : Nat), ys.length = L.length → (bkV L ys).drop (j * 3) = bkV (L.drop j) (ys.drop j) := by
  intro L
  induction L with
  | nil => intro ys j h; cases ys with | nil => simp [bkV] | cons y r => simp at h
  | cons c L ih =>
    intro ys j h
    cases ys with
    | nil => simp at h
    | cons y r =>
      cases j with
      | zero => simp
      | succ j =>
        rw [show (j + 1) * 3 = j * 3 + 1 + 1 + 1 by omega]
        simp only [bkV, List.drop_succ_cons]
        rw [ih j (by simpa using h)]
theorem bkV_set : ∀ {L : List Pt} {ys : List Value} (j : Nat) (y : Value), ys.length = L.length → (bkV L ys).set (j * 3 + 2) y = bkV L (ys.set j y) := by
  intro L
  induction L with
  | nil => intro ys j y h; cases ys with | nil => simp [bkV] | cons y r => simp at h
  | cons c L ih =>
    intro ys j y h
    cases ys with
    | nil => simp at h
    | cons z r =>
      cases j with
      | zero => rfl
      | succ j =>
        rw [show (j + 1) * 3 + 2 = (j * 3 + 2) + 1 + 1 + 1 by omega]
        simp only [bkV, List.set_cons_succ]
        rw [ih j y (by simpa using h)]
theorem bkV_cells {L : List Pt} {ys : List Value} (h : ∀ y ∈ ys, y.oneCell' = true) : ∀ u ∈ bkV L ys, u.oneCell' = true := by
  induction L generalizing ys with
  | nil => intro u hu; simp [bkV] at hu
  | cons c L ih =>
    intro u hu
    cases ys with
    | nil => simp [bkV] at hu
    | cons y r =>
      rw [bkV] at hu
      rcases List.mem_cons.1 hu with rfl | hu
      · rfl
      · rcases List.mem_cons.1 hu with rfl | hu
        · rfl
        · rcases List.mem_cons.1 hu with rfl | hu
          · exact h _ List.mem_cons_self
          · exact ih (fun y hy => h y (List.mem_cons_of_mem _ hy)) u hu

/-- Buckets: the cells, and the rows of numbers. -/
def Bks (W : World) (v : Value) (L : List Pt) (R : List (List Nat)) : Prop :=
  ∃ base ys, ys.length = L.length ∧ R.length = L.length ∧ W.ownsRow base 43 3 v L.length (bkV L ys) ∧ ∀ (j : Nat) y r, ys[j]? = some y → R[j]? = some r → Row W y r
theorem Bks.below {W W' : World} {v : Value} {L : List Pt} {R : List (List Nat)} (h : Bks W v L R) (hb : Below W.heap.size W W') : Bks W' v L R := by
  obtain ⟨base, ys, h1, h2, h3, h4⟩ := h
  exact ⟨base, ys, h1, h2, h3.kept (grown_of_below hb) (Classical.em _), fun j y r hy hr => (h4 j y r hy hr).below hb⟩
theorem Bks.form {W : World} {v : Value} {L : List Pt} {R : List (List Nat)} (h : Bks W v L R) : ∃ A c, v = .slice A L.length c := by
  obtain ⟨base, ys, h1, h2, h, _⟩ := h
  by_cases h0 : L.length = 0
  · rcases h.2 with ⟨rfl, h2⟩ | ⟨g, cap, cur, rfl, _⟩
    · exact ⟨none, 0, by rw [h0]⟩
    · exact ⟨_, _, rfl⟩
  · obtain ⟨g, c, rfl, _⟩ := h.form (by omega)
    exact ⟨_, _, rfl⟩
theorem Bks.cell {W : World} {A : Option Addr} {c : Nat} {L : List Pt} {R : List (List Nat)} (h : Bks W (.slice A L.length c) L R) {k : Nat} (hk : k < L.length) (hk' : k < R.length) :
    ∃ g x, A = some ⟨g, 0, none⟩ ∧ Row W x R[k] ∧ W.cell? ⟨g, k * 3, none⟩ = some (.int .i64 L[k].1) ∧ W.cell? ⟨g, k * 3 + 1, none⟩ = some (.int .i64 L[k].2) ∧ W.cell? ⟨g, k * 3 + 2, none⟩ = some x := by
  obtain ⟨base, ys, h1, h2, h, h4⟩ := h
  obtain ⟨g, cap, hv, hg, _⟩ := h.form (by omega)
  obtain ⟨rfl, rfl⟩ : A = some ⟨g, 0, none⟩ ∧ c = cap := by simpa using hv
  have hx : ys[k]? = some ys[k] := List.getElem?_eq_getElem (by omega)
  obtain ⟨e0, e1, e2⟩ := bkV_get (List.getElem?_eq_getElem hk) hx
  refine ⟨g, ys[k], rfl, h4 k _ _ hx (List.getElem?_eq_getElem hk'), ?_, ?_, ?_⟩
  · rw [World.ownsRow.cellAt h _ (by omega), e0]
  · rw [World.ownsRow.cellAt h _ (by omega), e1]
  · rw [World.ownsRow.cellAt h _ (by omega), e2]
end Go.Proofs.Ytaehfildhmljeaa

namespace Go.Proofs.Ytaehfildhmljeaa
open Go.RowKit Go.Shelf Go.Maps
open Go.ChangeMaps (setBlock)

/-- The key of the a-th cell. -/
def kyC (C : Nat → Pt) (n a : Nat) : Value := sp (C (nthF C n a)).1 (C (nthF C n a)).2
theorem mapAt_grown {W W' : World} {b : Nat} {Ks : Nat → Value} {xs : List Value} {row : Option Nat} (h : MapAt W b Ks xs) (hg : W.grownBy W' row) (hr : some b ≠ row) : MapAt W' b Ks xs := by
  have hb : W.heap[b]? = some (.map (esL Ks xs) xs.length) := h
  exact (hg.block b (Array.getElem?_eq_some_iff.1 hb).1 hr).trans hb
theorem Try.info24 : (Try.prog.info? 24).map (fun i => (i.zero, i.size, i.bytes)) = some (some (.agg #[.int .i64 0, .int .i64 0]), 2, 16) := by kernel_rfl
def cellV (C : Nat → Pt) (n : Nat) (S : List Nat) : List Value := S.flatMap (fun a => [.int .i64 (C (nthF C n a)).1, .int .i64 (C (nthF C n a)).2])
theorem cellV_snoc (C : Nat → Pt) (n : Nat) (S : List Nat) (a : Nat) : cellV C n (S ++ [a]) = cellV C n S ++ [.int .i64 (C (nthF C n a)).1, .int .i64 (C (nthF C n a)).2] := by simp [cellV]
theorem own_not {W : World} {base size k r : Nat} {e : TypeId} {v : Value} {xs : List Value} {o : Obj} (h : W.ownsRow base e size v k xs) (ho : W.heap[r]? = some o) (hc : o.isCells = false) : some r ≠ v.ownBlock := by
  intro e2
  rcases h.2 with ⟨rfl, _⟩ | ⟨g, cap, cur, rfl, _, hg, _⟩
  · cases e2
  · obtain rfl : r = g := by simpa [Value.ownBlock] using e2
    rw [ho] at hg
    obtain rfl := Option.some.inj hg
    cases hc
theorem mem_esL2 {Ks : Nat → Value} {xs : List Value} {x : MapEntry} (h : x ∈ (esL Ks xs).toList) : ∃ a v, xs[a]? = some v ∧ x = ⟨Ks a, v, a⟩ := by
  obtain ⟨a, ha⟩ := List.getElem?_of_mem h
  rw [Array.getElem?_toList, esL_get] at ha
  cases hx : xs[a]? with
  | none => rw [hx] at ha; cases ha
  | some v =>
    rw [hx] at ha
    obtain rfl := Option.some.inj ha
    exact ⟨a, v, hx, rfl⟩
theorem esL_born (Ks : Nat → Value) (xs : List Value) : (esL Ks xs).toList.map (·.born) = List.range xs.length := by
  apply List.ext_getElem?
  intro i
  rw [List.getElem?_map, Array.getElem?_toList, esL_get, Option.map_map]
  by_cases h : i < xs.length
  · rw [List.getElem?_eq_getElem h, List.getElem?_range h]; rfl
  · rw [List.getElem?_eq_none (by omega), List.getElem?_eq_none (by simp; omega)]; rfl
theorem Rws.iter {W W' : World} {base r : Nat} {o : Obj} {xs : List Value} {R : List (List Nat)} (h : Rws W base xs R) (hg : W.grownBy W' (some r)) (ho : W.heap[r]? = some o) (hc : o.isCells = false) : Rws W' base xs R := by
  obtain ⟨h1, h2, h3⟩ := h
  exact ⟨h1, fun a x q hx hR => (h2 a x q hx hR).kept hg (Or.inr (fun e => own_not (h2 a x q hx hR) ho hc e.symm)), h3⟩
theorem Rws.other {W W' : World} {base base' s n : Nat} {v : Value} {ys : List Value} {xs : List Value} {R : List (List Nat)} (h : Rws W base xs R) (hv : W.ownsRow base' 24 s v n ys) (hg : W.grownBy W' v.ownBlock) : Rws W' base xs R := by
  obtain ⟨h1, h2, h3⟩ := h
  exact ⟨h1, fun a x q hx hR => (h2 a x q hx hR).kept hg (own_ne (h2 a x q hx hR) hv (by decide)), h3⟩
theorem iterSeen_at {W : World} {r : Nat} {a : Option Nat} {b c : Nat} {s : Array Nat} (h : W.heap[r]? = some (.mapIter a b s c)) : W.iterSeen r = s := by unfold World.iterSeen; rw [h]
theorem nodup_le : ∀ (m : Nat) (S : List Nat), S.Nodup → (∀ a ∈ S, a < m) → S.length ≤ m := by
  intro m
  induction m with
  | zero =>
    intro S _ h
    cases S with
    | nil => exact Nat.le_refl _
    | cons a r => exact absurd (h a List.mem_cons_self) (by omega)
  | succ m ih =>
    intro S hn h
    have h1 := ih (S.erase m) (hn.erase m) (fun a ha => by
      have h2 := h a (List.mem_of_mem_erase ha)
      have h3 : a ≠ m := fun e => by rw [e] at ha; exact (List.Nodup.mem_erase_iff hn).1 ha |>.1 rfl
      omega)
    rw [List.length_erase] at h1
    split at h1 <;> omega
/-- The cells of an index. -/
def idxL (n : Nat) (X Y V : Nat → Int) (s : Int) : List Pt := if gridF n X Y V s = 0 then celL (redC X Y s) n else []
def idxR (n : Nat) (X Y V : Nat → Int) (s : Int) : List (List Nat) := (idxL n X Y V s).map (grpL (redC X Y s) n)
/-- What Index gives. -/
def IdxAll (n : Nat) (X Y V : Nat → Int) (s : Int) (w : World) (e : Ending) (w' : World) : Prop :=
  ∃ v, e = .returned (.tuple #[v, .int .i64 (gridF n X Y V s)]) ∧ Bks w' v (idxL n X Y V s) (idxR n X Y V s) ∧ Below w.heap.size w w'
theorem Try.info43 : (Try.prog.info? 43).map (fun i => (i.zero, i.size, i.bytes)) = some (some (.agg #[.int .i64 0, .int .i64 0, .slice none 0 0]), 3, 40) := by kernel_rfl
theorem Rws.otherE {W W' : World} {base base' s n : Nat} {e : TypeId} {v : Value} {ys : List Value} {xs : List Value} {R : List (List Nat)} (h : Rws W base xs R) (hv : W.ownsRow base' e s v n ys) (hne : (3 : TypeId) ≠ e) (hg : W.grownBy W' v.ownBlock) : Rws W' base xs R := by
  obtain ⟨h1, h2, h3⟩ := h
  exact ⟨h1, fun a x q hx hR => (h2 a x q hx hR).kept hg (own_ne (h2 a x q hx hR) hv hne), h3⟩
set_option maxRecDepth 100000 in
set_option maxHeartbeats 16000000 in
theorem index_good (A : Option Addr) (n cap : Nat) (X Y V : Nat → Int) (s : Int) (hok : chkF n X Y V = 0) (s1 : 1 ≤ s) (s2 : s ≤ 16777216) (w : World) (hcl : Cloud w A n X Y V) :
    Calls Try.prog 25 #[.slice A n cap, .int .i64 s] w (IdxAll n X Y V s w) := by
  have hg : gridF n X Y V s = 0 := by unfold gridF; rw [hok, if_neg (by simp), if_pos ⟨s1, s2⟩]
  have hn : n ≤ 1000 := chkF_le hok
  have HK := Lib.hid (grid_any A n cap X Y V s w hcl)
  rw [hg] at HK
  obtain ⟨C, hC⟩ : ∃ C, C = redC X Y s := ⟨_, rfl⟩
  have HC := Lib.hid hC
  have hwf : ∀ i, i < n → wfC (C i) := fun i hi => by
    have h := ok_at hok hi
    rw [hC]
    exact redC_wf h.1 h.2.1 s1
  have HOK := Lib.hid (fun k (hk : k < n) => ok_at hok hk)
  have HKey : Hid (∀ a, a < rnk C n → ∃ l, keyOf Try.prog 24 (kyC C n a) = some l) := Lib.hid (fun a ha => by
    have h1 := (nth_spec (C := C) n a ha).1
    exact key_ok _ _ (hwf _ h1).1 (hwf _ h1).2)
  have HUq : Hid (∀ a c, a < rnk C n → c < rnk C n → kyC C n a = kyC C n c → a = c) := Lib.hid (fun a c ha hc e => by
    obtain ⟨h1, h2, h3⟩ := nth_spec (C := C) n a ha
    obtain ⟨g1, g2, g3⟩ := nth_spec (C := C) n c hc
    have e2 : C (nthF C n a) = C (nthF C n c) := by
      unfold kyC at e
      simp only [Value.agg.injEq, Array.mk.injEq, List.cons.injEq, Value.int.injEq, true_and, and_true] at e
      exact Prod.ext e.1 e.2
    have := fst_uniq h2 g2 e2
    rw [← h3, ← g3, this])
  have HCL := Lib.hid hcl
  have HGr := Lib.hid hg
  have hmm := @run_makeMap Try.prog
  obtain ⟨i0_, hi0, hz0, hz1, hz2⟩ := info_parts Try.info3
  have hI0 := Lib.hid hi0
  have hZ0 := Lib.hid hz0
  have hZ1 := Lib.hid hz1
  have hZ2 := Lib.hid hz2
  clear hi0 hz0 hz1 hz2 hcl hok hg hwf hC
  go_enter Try.func25, Try.ntmps25
  go_upto_region 6 with (go_at_call 65; (with_reducible refine HK.out.mono ?_); rintro e w1 ⟨rfl, hb1⟩)
  have hM : MapAt (w1.alloc (.map #[] 0)) w1.heap.size (kyC C n) [] := heap_alloc_new w1 _
  have hB := below_step hb1 ((Below.refl _ w1).alloc (Nat.le_refl _) (.map #[] 0))
  obtain ⟨M, hMe⟩ : ∃ z, z = w1.heap.size := ⟨_, rfl⟩
  rw [← hMe] at hM ⊢
  have hwM : w.heap.size ≤ M := by rw [hMe]; exact hb1.size
  have hsz : M + 1 ≤ (w1.alloc (.map #[] 0)).heap.size := by rw [hMe]; simp
  clear hMe hb1 hmm HK
  generalize w1.alloc (.map #[] 0) = w2 at *
  have I : ∃ (k : Nat) (xs : List Value), k ≤ n ∧ (Value.int .i64 0) = .int .i64 k ∧ Hid (xs.length = rnk C k) ∧ Hid (MapAt w2 M (kyC C n) xs) ∧ Hid (Rws w2 (M + 1) xs (rowC C n k)) ∧ Hid (Below w.heap.size w w2) ∧ Hid (M + 1 ≤ w2.heap.size) :=
    ⟨0, [], Nat.zero_le _, rfl, Lib.hid rfl, Lib.hid hM, Lib.hid (rws_none _ _), Lib.hid hB, Lib.hid hsz⟩
  clear hM hB hsz
  go_wp2
  go_loopw [25] (fun i wr => ∃ (k : Nat) (xs : List Value), k ≤ n ∧ i = .int .i64 k ∧ Hid (xs.length = rnk C k) ∧ Hid (MapAt wr M (kyC C n) xs) ∧ Hid (Rws wr (M + 1) xs (rowC C n k)) ∧ Hid (Below w.heap.size w wr) ∧ Hid (M + 1 ≤ wr.heap.size)) (fun i _ => n + 1 - (intOf i).toNat)
  case atStart => exact I
  case round =>
    clear I
    obtain ⟨k, xs, hk, rfl, HL, HM, HR, HB, HZ⟩ := hrel
    by_cases hlt : k < n
    · obtain ⟨blk, off, e, hc0⟩ := HCL.out (by omega)
      subst e
      have i0 : (0 : Int) ≤ (k : Int) := Int.natCast_nonneg _
      have i1 : (k : Int) < (n : Int) := by omega
      have hbl := hc0.lt (by omega)
      have l1 : blk < wr.heap.size := Nat.lt_of_lt_of_le hbl HB.out.size
      obtain ⟨c0, c1, c2⟩ := (hc0.below HB.out hbl) k hlt
      obtain ⟨o1, o2, o3, o4⟩ := HOK.out k hlt
      have HO := Lib.hid (And.intro o1 o2)
      obtain ⟨t, ht⟩ : ∃ t, t = V k := ⟨_, rfl⟩
      rw [← ht] at c2
      clear hc0 o1 o2 o3 o4 ht
      go_upto_region 8 with fail
      have hbp := BoxAt.new wr 69 #[.int .i64 (X k), .int .i64 (Y k), .int .i64 t]
      have hb3 : Below wr.heap.size wr (wr.alloc (.cells #[.int .i64 (X k), .int .i64 (Y k), .int .i64 t] 69)) := (Below.refl _ wr).alloc (Nat.le_refl _) _
      obtain ⟨Lp, hLp⟩ : ∃ z, z = wr.heap.size := ⟨_, rfl⟩
      rw [← hLp] at hbp ⊢
      clear c0 c1 c2 l1 hLp
      generalize wr.alloc (.cells #[.int .i64 (X k), .int .i64 (Y k), .int .i64 t] 69) = w3 at *
      have p0 : w3.cell? ⟨Lp, 0, none⟩ = some (.int .i64 (X k)) := hbp.cell 0
      have p1 : w3.cell? ⟨Lp, 1, none⟩ = some (.int .i64 (Y k)) := hbp.cell 1
      have p2 : w3.cell? ⟨Lp, 2, none⟩ = some (.int .i64 t) := hbp.cell 2
      have p3 := hbp.lt
      have HCell := Lib.hid (fun W => cell_any (X k) (Y k) t s W HO.out.1 HO.out.2 s1 s2)
      obtain ⟨p, hp⟩ : ∃ p, p = X k / s := ⟨_, rfl⟩
      obtain ⟨q, hq⟩ : ∃ q, q = Y k / s := ⟨_, rfl⟩
      rw [← hp, ← hq] at HCell
      have HCk : Hid (C k = (p, q)) := Lib.hid (by rw [HC.out, hp, hq]; rfl)
      clear hp hq hbp
      go_upto_region 9 with (go_at_call 66; (with_reducible refine (HCell.out _).mono ?_); rintro e w4 ⟨rfl, hb4⟩)
      have hb5 : Below w4.heap.size w4 (w4.alloc (.cells #[.int .i64 p, .int .i64 q] 24)) := (Below.refl _ w4).alloc (Nat.le_refl _) _
      have hbc := BoxAt.new w4 24 #[.int .i64 p, .int .i64 q]
      obtain ⟨Lc, hLc⟩ : ∃ z, z = w4.heap.size := ⟨_, rfl⟩
      rw [← hLc] at hbc ⊢
      have HB5 : Hid (Below wr.heap.size wr (w4.alloc (.cells #[.int .i64 p, .int .i64 q] 24))) := Lib.hid (below_step (below_step hb3 hb4) hb5)
      clear p0 p1 p2 p3 hLc hb3 hb4 hb5 HCell
      generalize w4.alloc (.cells #[.int .i64 p, .int .i64 q] 24) = w5 at *
      have d0 : w5.cell? ⟨Lc, 0, none⟩ = some (.int .i64 p) := hbc.cell 0
      have d1 : w5.cell? ⟨Lc, 1, none⟩ = some (.int .i64 q) := hbc.cell 1
      have d2 := hbc.lt
      have hb6 : Below w5.heap.size w5 (w5.alloc (.cells #[.int .i64 (k : Int)] 3)) := (Below.refl _ w5).alloc (Nat.le_refl _) _
      have HB6 := Lib.hid (below_step HB5.out hb6)
      have HM6 := Lib.hid (mapAt_grown HM.out (grown_of_below HB6.out) (by simp))
      have HR6 := Lib.hid (HR.out.below HB6.out)
      have HBW := Lib.hid (below_step HB.out HB6.out)
      have HZ6 : Hid (M + 1 ≤ (w5.alloc (.cells #[.int .i64 (k : Int)] 3)).heap.size) := Lib.hid (Nat.le_trans HZ.out HB6.out.size)
      have HN6 : Hid ((w5.alloc (.cells #[.int .i64 (k : Int)] 3)).heap[w5.heap.size]? = some (.cells #[.int .i64 (k : Int)] 3 (0, 0))) := Lib.hid (heap_alloc_new w5 _)
      have hM5 : M < w5.heap.size := by have h1 := HZ.out; have h2 := HB5.out.size; omega
      have hm := rnk_le (C := C) k
      have hmn : rnk C k ≤ rnk C n := rnk_mono hk
      clear hbc hb6 HM HR HB HZ HB5
      cases hf : fstB C k with
      | true =>
        have hrn : rnk C k < rnk C n := rnk_lt hf hlt
        have hkey : kyC C n (rnk C k) = .agg #[.int .i64 p, .int .i64 q] := by unfold kyC; rw [nth_of hf n hlt, HCk.out]
        have hrun := run_entry_new HM6.out (fun a ha => HKey.out a (by have := HL.out; omega)) (fun a ha e => by have h1 := HL.out; have := HUq.out a xs.length (by omega) (by omega) e; omega)
        have hat1 := mapAt_set (w5.alloc (.cells #[.int .i64 (k : Int)] 3)) (b := M) (by have := HZ6.out; omega) (kyC C n) (xs ++ [.slice none 0 0]) (n := xs.length + 1) (by simp)
        have hgr1 : (w5.alloc (.cells #[.int .i64 (k : Int)] 3)).grownBy (setBlock (w5.alloc (.cells #[.int .i64 (k : Int)] 3)) M (.map (esL (kyC C n) (xs ++ [.slice none 0 0])) (xs.length + 1))) (some M) := grown_setBlock _
        rw [HL.out, hkey] at hrun
        rw [HL.out] at hat1 hgr1
        have hrun' : (Instr.mapEntry 82 (.map (some M)) (.agg #[.int .i64 p, .int .i64 q])).run Try.prog (w5.alloc (.cells #[.int .i64 (k : Int)] 3)) = .ok (.tuple #[.slice none 0 0, .int .i64 ((rnk C k : Nat) : Int)]) (setBlock (w5.alloc (.cells #[.int .i64 (k : Int)] 3)) M (.map (esL (kyC C n) (xs ++ [.slice none 0 0])) (rnk C k + 1))) := hrun
        clear hrun
        generalize setBlock (w5.alloc (.cells #[.int .i64 (k : Int)] 3)) M (.map (esL (kyC C n) (xs ++ [.slice none 0 0])) (rnk C k + 1)) = W1 at *
        have hsz1 := hgr1.size
        have HW1 : Hid (W1.heap[w5.heap.size]? = some (.cells #[.int .i64 (k : Int)] 3 (0, 0))) := Lib.hid ((hgr1.block _ (by simp) (by simp; omega)).trans HN6.out)
        have HZ1 : Hid (M + 1 ≤ W1.heap.size) := Lib.hid (Nat.le_trans HZ6.out hsz1)
        have HR1 := Lib.hid (HR6.out.kept hgr1 (fun g e => by obtain rfl := Option.some.inj e; omega))
        have HB1 : Hid (Below w.heap.size w W1) := Lib.hid (HBW.out.grown hgr1 HBW.out.size (fun b e => by obtain rfl := Option.some.inj e; exact hwM))
        have HAt1 := Lib.hid hat1
        have HF := Lib.hid hf
        clear hgr1 hat1 hsz1 hf
        go_wp2_with (at_builtin; go_loud (refine wpList_append_lies _ rfl _ _ 41 rfl (M + 1) 3 i0_ (.int .i64 0) 1 8 Try.underlying41 hI0.out hZ0.out hZ1.out hZ2.out rfl (by decide) (.slice none 0 0) 0 [] rfl (World.ownsRow_nil _ _ _ _) ⟨w5.heap.size, 0, none⟩ 1 1 [.int .i64 (k : Int)] rfl rfl (World.news_of_block (cs := #[.int .i64 (k : Int)]) (t := 3) (fr := (0, 0)) HW1.out) (by simp [Value.oneCell']) (by decide) (by unfold maxLen; omega) (by omega) HZ1.out _ rfl ?_; intro gg cap1 w7 hown7 hgrow hat hlt7; have hM7 := mapAt_grown HAt1.out hgrow (by simp [Value.ownBlock]); obtain ⟨W8, hW8⟩ : ∃ z, z = setBlock w7 M (.map (esL (kyC C n) ((xs ++ [Value.slice none 0 0]).set (rnk C k) (.slice (some ⟨gg, 0, none⟩) 1 cap1))) (xs ++ [Value.slice none 0 0]).length) := ⟨_, rfl⟩; have hes : (Instr.entryStore 82 (.map (some M)) (.int .i64 ((rnk C k : Nat) : Int)) (.slice (some ⟨gg, 0, none⟩) 1 cap1)).run Try.prog w7 = .ok () W8 := (by rw [hW8]; exact run_entry_store (a := rnk C k) hM7 (by have := HL.out; simp; omega) _); have HW8 := Lib.hid hW8; have HM7 := Lib.hid hM7; have HOwn7 := Lib.hid hown7; have HGrow := Lib.hid hgrow; have HAt := Lib.hid hat; clear hW8 hM7 hown7 hgrow hat))
        have hg8 : w7.grownBy W8 (some M) := by rw [HW8.out]; exact grown_setBlock _
        have hgn : W1.grownBy w7 none := HGrow.out
        have hM8w : M < w7.heap.size := by have h1 := HZ1.out; have h2 := hgn.size; omega
        have HL8 : Hid ((xs ++ [Value.slice (some ⟨gg, 0, none⟩) 1 cap1]).length = rnk C (k + 1)) := Lib.hid (by rw [rnk_fst HF.out, ← HL.out]; simp)
        have HM8 : Hid (MapAt W8 M (kyC C n) (xs ++ [Value.slice (some ⟨gg, 0, none⟩) 1 cap1])) := Lib.hid (by
          have e : (xs ++ [Value.slice none 0 0]).set (rnk C k) (.slice (some ⟨gg, 0, none⟩) 1 cap1) = xs ++ [Value.slice (some ⟨gg, 0, none⟩) 1 cap1] := by rw [← HL.out]; simp
          rw [HW8.out, e]
          exact mapAt_set w7 hM8w _ _ (by simp))
        have HR8 : Hid (Rws W8 (M + 1) (xs ++ [Value.slice (some ⟨gg, 0, none⟩) 1 cap1]) (rowC C n (k + 1))) := Lib.hid (by
          rw [rowC_new hlt HF.out]
          have h1 := HR1.out.push (r := [k]) (g1 := gg) (c1 := cap1) HOwn7.out hgn (HAt.out.elim (fun h => by cases h) (fun h => by omega))
          exact h1.kept hg8 (fun g e => by obtain rfl := Option.some.inj e; omega))
        have HB8 : Hid (Below w.heap.size w W8) := Lib.hid (by
          have h1 := HB1.out.grown hgn HB1.out.size (fun b e => by cases e)
          exact h1.grown hg8 h1.size (fun b e => by obtain rfl := Option.some.inj e; exact hwM))
        have HZ8 : Hid (M + 1 ≤ W8.heap.size) := Lib.hid (by have := hg8.size; omega)
        clear hg8 hgn hM8w
        go_roundw
        case rel => exact ⟨k + 1, _, by omega, by go_num, HL8, HM8, HR8, HB8, HZ8⟩
        case measure => simp [intOf]; omega
      | false =>
        have hlead : ∃ j, j < k ∧ fstB C j = true ∧ C j = C k := by
          obtain ⟨j, h1, h2, h3⟩ := lead (C := C) k
          refine ⟨j, ?_, h2, h3⟩
          have : j ≠ k := fun e => by rw [e, hf] at h2; cases h2
          omega
        obtain ⟨j, hjk, hfj, hjc⟩ := hlead
        have ham := rnk_lt hfj hjk
        have hkey : kyC C n (rnk C j) = .agg #[.int .i64 p, .int .i64 q] := by unfold kyC; rw [nth_of hfj n (by omega), hjc, HCk.out]
        have hrow : (rowC C n k)[rnk C j]? = some (grpL C k (C k)) := by rw [rowC_get ham, nth_of hfj n (by omega), hjc]
        have HRow := Lib.hid (rowC_old (n := n) hlt hf hfj hjk hjc)
        have HRk := Lib.hid (rnk_not hf)
        have hgl := grp_len (C := C) k (C k)
        generalize grpL C k (C k) = r at *
        obtain ⟨a, hae⟩ : ∃ a, a = rnk C j := ⟨_, rfl⟩
        rw [← hae] at ham hkey hrow HRow
        have hal : a < xs.length := by have := HL.out; omega
        obtain ⟨x, hx⟩ : ∃ x, xs[a]? = some x := ⟨_, List.getElem?_eq_getElem hal⟩
        have hox := HR6.out.2.1 a x r hx hrow
        have hrun := run_entry_old HM6.out (fun c hc => HKey.out c (by have := HL.out; omega)) (fun c d hc hd e => HUq.out c d (by have := HL.out; omega) (by have := HL.out; omega) e) hx
        rw [hkey] at hrun
        obtain ⟨Ax, cx, hxx⟩ := own_form hox
        subst hxx
        obtain ⟨R, hRe⟩ : ∃ R, R = r.length := ⟨_, rfl⟩
        rw [← hRe] at hox hrun hgl hx
        have HOx := Lib.hid hox
        have hrun' : (Instr.mapEntry 82 (.map (some M)) (.agg #[.int .i64 p, .int .i64 q])).run Try.prog (w5.alloc (.cells #[.int .i64 (k : Int)] 3)) = .ok (.tuple #[.slice Ax R cx, .int .i64 ((a : Nat) : Int)]) (w5.alloc (.cells #[.int .i64 (k : Int)] 3)) := hrun
        have HX := Lib.hid hx
        have HRw := Lib.hid hrow
        have HRe := Lib.hid hRe
        clear hrun hf hfj hjc hjk hae hox hkey hx hrow hRe
        go_wp2_with (at_builtin; go_loud (refine wpList_append_lies _ rfl _ _ 41 rfl (M + 1) 3 i0_ (.int .i64 0) 1 8 Try.underlying41 hI0.out hZ0.out hZ1.out hZ2.out rfl (by decide) (.slice Ax R cx) R (natV r) rfl HOx.out ⟨w5.heap.size, 0, none⟩ 1 1 [.int .i64 (k : Int)] rfl rfl (World.news_of_block (cs := #[.int .i64 (k : Int)]) (t := 3) (fr := (0, 0)) HN6.out) (by simp [Value.oneCell']) (by decide) (by unfold maxLen; omega) (by omega) HZ6.out _ rfl ?_; intro gg cap1 w7 hown7 hgrow hat hlt7; have hM7 := mapAt_grown HM6.out hgrow (fun e => by have := (HOx.out.lt M e.symm).1; omega); obtain ⟨W8, hW8⟩ : ∃ z, z = setBlock w7 M (.map (esL (kyC C n) (xs.set a (.slice (some ⟨gg, 0, none⟩) (R + 1) cap1))) xs.length) := ⟨_, rfl⟩; have hes : (Instr.entryStore 82 (.map (some M)) (.int .i64 ((a : Nat) : Int)) (.slice (some ⟨gg, 0, none⟩) (R + 1) cap1)).run Try.prog w7 = .ok () W8 := (by rw [hW8]; exact run_entry_store (a := a) hM7 hal _); have HW8 := Lib.hid hW8; have HM7 := Lib.hid hM7; have HOwn7 := Lib.hid hown7; have HGrow := Lib.hid hgrow; have HAt := Lib.hid hat; clear hW8 hM7 hown7 hgrow hat))
        have hg8 : w7.grownBy W8 (some M) := by rw [HW8.out]; exact grown_setBlock _
        have hM8w : M < w7.heap.size := by have h1 := HZ6.out; have h2 := HGrow.out.size; omega
        have HL8 : Hid ((xs.set a (Value.slice (some ⟨gg, 0, none⟩) (R + 1) cap1)).length = rnk C (k + 1)) := Lib.hid (by rw [HRk.out, ← HL.out]; simp)
        have HM8 : Hid (MapAt W8 M (kyC C n) (xs.set a (Value.slice (some ⟨gg, 0, none⟩) (R + 1) cap1))) := Lib.hid (by
          rw [HW8.out]
          exact mapAt_set w7 hM8w _ _ (by simp))
        have HR8 : Hid (Rws W8 (M + 1) (xs.set a (Value.slice (some ⟨gg, 0, none⟩) (R + 1) cap1)) (rowC C n (k + 1))) := Lib.hid (by
          rw [HRow.out]
          have hx2 := HX.out
          have ho2 := HOwn7.out
          rw [HRe.out] at hx2 ho2
          have h1 := HR6.out.add (i := k) (g1 := gg) (c1 := cap1) hx2 HRw.out ho2 (by rw [← HRe.out]; exact HGrow.out) (by rw [← HRe.out]; exact HAt.out.elim .inl (fun h => .inr (by omega)))
          rw [HRe.out]
          exact h1.kept hg8 (fun g e => by obtain rfl := Option.some.inj e; omega))
        have HB8 : Hid (Below w.heap.size w W8) := Lib.hid (by
          have h1 := HBW.out.grown HGrow.out HBW.out.size (fun b e => by have := (HOx.out.lt b e).1; omega)
          exact h1.grown hg8 h1.size (fun b e => by obtain rfl := Option.some.inj e; exact hwM))
        have HZ8 : Hid (M + 1 ≤ W8.heap.size) := Lib.hid (by have := hg8.size; omega)
        clear hg8 hM8w
        go_roundw
        case rel => exact ⟨k + 1, _, by omega, by go_num, HL8, HM8, HR8, HB8, HZ8⟩
        case measure => simp [intOf]; omega
    · obtain rfl : k = n := by omega
      have i1 : ¬ (k : Int) < (k : Int) := by omega
      have hmap : wr.heap[M]? = some (.map (esL (kyC C k) xs) xs.length) := HM.out
      have hrg := run_range_map (P := Try.prog) wr 82 24 41 M (esL (kyC C k) xs) xs.length Try.underlying82 hmap
      have HIt := Lib.hid (heap_alloc_new wr (.mapIter (some M) xs.length #[] xs.length))
      have hbi : Below wr.heap.size wr (wr.alloc (.mapIter (some M) xs.length #[] xs.length)) := (Below.refl _ wr).alloc (Nat.le_refl _) _
      have HMi := Lib.hid (mapAt_grown HM.out (grown_of_below hbi) (by simp))
      have HRi := Lib.hid (HR.out.below hbi)
      have HBi := Lib.hid (below_step HB.out hbi)
      have HZi : Hid (M + 1 ≤ (wr.alloc (.mapIter (some M) xs.length #[] xs.length)).heap.size) := Lib.hid (Nat.le_trans HZ.out hbi.size)
      have hlr : M + 1 ≤ wr.heap.size := HZ.out
      have HHM := Lib.hid hmap
      clear hmap hbi HM HR HB HZ
      obtain ⟨j0_, hj0, hy0, hy1, hy2⟩ := info_parts Try.info24
      have hJ0 := Lib.hid hj0
      have hY0 := Lib.hid hy0
      have hY1 := Lib.hid hy1
      have hY2 := Lib.hid hy2
      clear hj0 hy0 hy1 hy2
      go_upto_region 13 with fail
      obtain ⟨r, hr⟩ : ∃ z, z = wr.heap.size := ⟨_, rfl⟩
      rw [← hr] at HIt ⊢
      have hrM : M + 1 ≤ r := by omega
      clear hr hrg hlr HHM
      generalize wr.alloc (.mapIter (some M) xs.length #[] xs.length) = wi at *
      have hwr : w.heap.size ≤ r := by omega
      have I : ∃ (S : List Nat) (v : Value), (Value.slice none 0 0) = v ∧ Hid (S.Nodup ∧ ∀ a ∈ S, a < xs.length) ∧ Hid (wi.heap[r]? = some (.mapIter (some M) xs.length S.toArray xs.length)) ∧ Hid (wi.ownsRow (M + 1) 24 2 v S.length (cellV C k S)) ∧ Hid (MapAt wi M (kyC C k) xs) ∧ Hid (Rws wi (M + 1) xs (rowC C k k)) ∧ Hid (Below w.heap.size w wi) ∧ Hid (M + 1 ≤ wi.heap.size) :=
        ⟨[], _, rfl, Lib.hid ⟨List.nodup_nil, fun a h => by cases h⟩, HIt, Lib.hid (World.ownsRow_nil _ _ _ _), HMi, HRi, HBi, HZi⟩
      clear HIt HMi HRi HBi HZi
      go_loopw [11] (fun o wr => ∃ (S : List Nat) (v : Value), o = v ∧ Hid (S.Nodup ∧ ∀ a ∈ S, a < xs.length) ∧ Hid (wr.heap[r]? = some (.mapIter (some M) xs.length S.toArray xs.length)) ∧ Hid (wr.ownsRow (M + 1) 24 2 v S.length (cellV C k S)) ∧ Hid (MapAt wr M (kyC C k) xs) ∧ Hid (Rws wr (M + 1) xs (rowC C k k)) ∧ Hid (Below w.heap.size w wr) ∧ Hid (M + 1 ≤ wr.heap.size)) (fun _ wr => (leftOf (esL (kyC C k) xs) (wr.iterSeen r)).size)
      case atStart => exact I
      case round =>
        clear I
        obtain ⟨S, v, rfl, HS, HIt, HO, HM, HR, HB, HZ⟩ := hrel
        have hold : ∀ x ∈ (esL (kyC C k) xs).toList, x.born < xs.length := fun x hx => by
          obtain ⟨a, u, h1, rfl⟩ := mem_esL2 hx
          exact (List.getElem?_eq_some_iff.1 h1).1
        rcases run_next_at (P := Try.prog) _ 0 r M xs.length xs.length S.toArray (esL (kyC C k) xs) xs.length HIt.out HM.out hold (Nat.le_refl _) with ⟨h0, hrun⟩ | ⟨e, he, w1, hw1, hrun⟩
        · have HAll : Hid (∀ a, a < rnk C k → a ∈ S) := Lib.hid (fun a ha => by
            have hal : a < xs.length := by rw [HL.out]; exact ha
            have he : (⟨kyC C k a, xs[a], a⟩ : MapEntry) ∈ (esL (kyC C k) xs).toList := List.mem_of_getElem? (i := a) (by rw [Array.getElem?_toList, esL_get, List.getElem?_eq_getElem hal]; rfl)
            have h := left_all h0 he
            simpa using h)
          have hSl : S.length ≤ 1000 := by
            have h1 := nodup_le xs.length S HS.out.1 HS.out.2
            have h2 := HL.out
            have h3 := rnk_le (C := C) k
            omega
          obtain ⟨d, hd⟩ : ∃ d : Array Pt, d = (S.map (fun a => C (nthF C k a))).toArray := ⟨_, rfl⟩
          have hdz : d.size = S.length := by rw [hd]; simp
          have hcv : cellV C k S = ptV d.toList := by rw [hd]; simp [cellV, ptV, encC, List.flatMap_map]
          have HD : Hid (d.toList = S.map (fun a => C (nthF C k a)) ∧ d.size = S.length) := Lib.hid ⟨by rw [hd], hdz⟩
          obtain ⟨Av, cv, hv⟩ := own_form HO.out
          subst hv
          have HSo := Lib.hid (sort_own wr (M + 1) (.slice Av S.length cv) d (by omega) (by rw [hdz, ← hcv]; exact HO.out))
          obtain ⟨m, hm⟩ : ∃ m, m = S.length := ⟨_, rfl⟩
          rw [← hm] at HSo hSl HO ⊢
          have HMl := Lib.hid hm
          clear hd hdz hcv hm h0 hold
          go_upto_region 17 with (go_at_call 67; (with_reducible refine HSo.out.mono ?_); rintro e w6 ⟨rfl, d', hp6, hs6, ho6, hg6⟩)
          have HCel := Lib.hid (cel_sorted (C := C) (n := k) HS.out.1 (fun a ha => by rw [← HL.out]; exact HS.out.2 a ha) HAll.out (d := d) HD.out.1 hp6 hs6)
          obtain ⟨L, hL⟩ : ∃ L, L = celL C k := ⟨_, rfl⟩
          have hLm : L.length = m := by rw [hL, ← HCel.out]; have h1 := hp6.1; have h2 := HD.out.2; have h3 := HMl.out; simp; omega
          have hdm : d.size = m := by have h2 := HD.out.2; have h3 := HMl.out; omega
          rw [hdm] at ho6
          have HO6 : Hid (w6.ownsRow (M + 1) 24 2 (.slice Av m cv) m (ptV L)) := Lib.hid (by rw [hL, ← HCel.out]; exact ho6)
          have HM6 := Lib.hid (mapAt_grown HM.out hg6 (fun e => by have := (HO.out.lt M e.symm).1; omega))
          have HR6 := Lib.hid (HR.out.other HO.out hg6)
          have HB6 : Hid (Below w.heap.size w w6) := Lib.hid (HB.out.grown hg6 HB.out.size (fun b e => by have := (HO.out.lt b e).1; omega))
          have HZ6 : Hid (M + 1 ≤ w6.heap.size) := Lib.hid (Nat.le_trans HZ.out hg6.size)
          have HLL := Lib.hid hLm
          have HLc := Lib.hid hL
          clear hp6 hs6 ho6 hg6 HSo HD HCel HAll HS HIt HO HM HR HB HZ hrun hLm hL
          obtain ⟨j1_, hj1, hx0, hx1, hx2⟩ := info_parts Try.info43
          have hJ1 := Lib.hid hj1
          have hX0 := Lib.hid hx0
          have hX1 := Lib.hid hx1
          have hX2 := Lib.hid hx2
          clear hj1 hx0 hx1 hx2
          go_wp2
          go_loopw [13, 56] (fun o iv wr => ∃ (j : Nat) (bv : Value) (ys : List Value), j ≤ m ∧ o = bv ∧ iv = .int .i64 j ∧ Hid (ys.length = j) ∧ Hid (wr.ownsRow (M + 1) 43 3 bv j (bkV (L.take j) ys)) ∧ Hid (∀ (i : Nat) y c, ys[i]? = some y → L[i]? = some c → ∃ a : Nat, xs[a]? = some y ∧ (rowC C k k)[a]? = some (grpL C k c)) ∧ Hid (wr.ownsRow (M + 1) 24 2 (.slice Av m cv) m (ptV L)) ∧ Hid (MapAt wr M (kyC C k) xs) ∧ Hid (Rws wr (M + 1) xs (rowC C k k)) ∧ Hid (Below w.heap.size w wr) ∧ Hid (M + 1 ≤ wr.heap.size)) (fun _ iv _ => m + 1 - (intOf iv).toNat)
          case atStart => exact ⟨0, _, [], Nat.zero_le _, rfl, rfl, Lib.hid rfl, Lib.hid (World.ownsRow_nil _ _ _ _), Lib.hid (fun i y c h => by simp at h), HO6, HM6, HR6, HB6, HZ6⟩
          case round =>
            clear HO6 HM6 HR6 HB6 HZ6
            obtain ⟨j, bv, ys, hj, rfl, rfl, HY, HBk, HF, HO, HM, HR, HB, HZ⟩ := hrel
            by_cases hltj : j < m
            · obtain ⟨⟨p, q⟩, hc⟩ : ∃ c, L[j]? = some c := ⟨_, List.getElem?_eq_getElem (by rw [HLL.out]; exact hltj)⟩
              obtain ⟨g, c0, hform, hg0, hg1⟩ := HO.out.form (by omega)
              obtain ⟨rfl, rfl⟩ : Av = some ⟨g, 0, none⟩ ∧ cv = c0 := by simpa using hform
              have hpt := ptV_get L j (p, q) hc
              have d0 : wr.cell? ⟨g, j * 2, none⟩ = some (.int .i64 p) := by rw [World.ownsRow.cellAt HO.out _ (by omega)]; exact hpt.1
              have d1 : wr.cell? ⟨g, j * 2 + 1, none⟩ = some (.int .i64 q) := by rw [World.ownsRow.cellAt HO.out _ (by omega)]; exact hpt.2
              obtain ⟨a, ha, hca⟩ := cel_place (C := C) (n := k) (by rw [← HLc.out]; exact hc)
              have hal : a < xs.length := by rw [HL.out]; exact ha
              obtain ⟨y, hy⟩ : ∃ y, xs[a]? = some y := ⟨_, List.getElem?_eq_getElem hal⟩
              have hrow : (rowC C k k)[a]? = some (grpL C k (p, q)) := by rw [rowC_get ha, hca]
              have hky : kyC C k a = .agg #[.int .i64 p, .int .i64 q] := by unfold kyC; rw [hca]
              have hlk := fun (W : World) (hM : MapAt W M (kyC C k) xs) => run_lookup_old hM (fun a ha => HKey.out a (by rw [← HL.out]; exact ha)) (fun a c ha hc e => HUq.out a c (by rw [← HL.out]; exact ha) (by rw [← HL.out]; exact hc) e) hy
              rw [hky] at hlk
              obtain ⟨Ay, cy, hyy⟩ := own_form (HR.out.2.1 a y _ hy hrow)
              subst hyy
              obtain ⟨Ab, cb, hb⟩ := own_form HBk.out
              subst hb
              obtain ⟨R, hR⟩ : ∃ R, R = (grpL C k (p, q)).length := ⟨_, rfl⟩
              rw [← hR] at hlk hy
              have i0 : (0 : Int) ≤ (j : Int) := Int.natCast_nonneg _
              have i1 : (j : Int) < (m : Int) := by omega
              have HLk := Lib.hid hlk
              have HYy := Lib.hid hy
              have HRo := Lib.hid hrow
              have HPc := Lib.hid hc
              clear hlk hy hrow hky hca ha hal hpt hg0 hg1 hform hc hR
              go_upto_region 21 with fail
              have hbx := BoxAt.new wr 24 #[.int .i64 p, .int .i64 q]
              have hb3 : Below wr.heap.size wr (wr.alloc (.cells #[.int .i64 p, .int .i64 q] 24)) := (Below.refl _ wr).alloc (Nat.le_refl _) _
              obtain ⟨Lb, hLb⟩ : ∃ z, z = wr.heap.size := ⟨_, rfl⟩
              rw [← hLb] at hbx ⊢
              have HBk3 := Lib.hid (HBk.out.kept (grown_of_below hb3) (Classical.em _))
              have HO3 := Lib.hid (HO.out.kept (grown_of_below hb3) (Classical.em _))
              have HM3 := Lib.hid (mapAt_grown HM.out (grown_of_below hb3) (by simp))
              have HR3 := Lib.hid (HR.out.below hb3)
              have HB3 := Lib.hid (below_step HB.out hb3)
              have HZ3 := Lib.hid (Nat.le_trans HZ.out hb3.size)
              have HLow : Hid (∀ b, (Value.slice Ab j cb).ownBlock = some b → b < Lb) := Lib.hid (fun b e => by rw [hLb]; exact (HBk.out.lt b e).2)
              clear hLb hb3 HBk HO HM HR HB HZ d0 d1
              generalize wr.alloc (.cells #[.int .i64 p, .int .i64 q] 24) = wp at *
              have d0 : wp.cell? ⟨Lb, 0, none⟩ = some (.int .i64 p) := hbx.cell 0
              have d1 : wp.cell? ⟨Lb, 1, none⟩ = some (.int .i64 q) := hbx.cell 1
              have d2 := hbx.lt
              have hlk := HLk.out wp.drew HM3.out
              have HBk4 : Hid (wp.drew.ownsRow (M + 1) 43 3 (.slice Ab j cb) j (bkV (L.take j) ys)) := HBk3
              have hsz := HZ3.out
              have hc1 : (wp.drew.alloc (.cells #[.int .i64 p, .int .i64 q, .slice Ay R cy] 43)).cell? ⟨Lb, 0, none⟩ = wp.cell? ⟨Lb, 0, none⟩ := (Below.cell (w := wp) (B := wp.heap.size) ((Below.refl _ wp).drew.alloc (Nat.le_refl _) _) d2)
              have hc2 : (wp.drew.alloc (.cells #[.int .i64 p, .int .i64 q, .slice Ay R cy] 43)).cell? ⟨Lb, 1, none⟩ = wp.cell? ⟨Lb, 1, none⟩ := (Below.cell (w := wp) (B := wp.heap.size) ((Below.refl _ wp).drew.alloc (Nat.le_refl _) _) d2)
              clear hbx
              go_region_held3 (fun w' => w'.cell? ⟨Lb, 0, none⟩ = some (.int .i64 p) ∧ w'.cell? ⟨Lb, 1, none⟩ = some (.int .i64 q)) (first | exact ⟨d0, d1⟩ | go_keep | exact ⟨hgrow.cell ((hc1.trans d0)) (fun e => by have := HLow.out _ e.symm; simp at this), hgrow.cell ((hc2.trans d1)) (fun e => by have := HLow.out _ e.symm; simp at this)⟩)
                ((refine step_append_lies _ (by rfl) _ _ 38 (by rfl) (M + 1) 43 j1_ _ 3 40 Try.underlying38 hJ1.out hX0.out hX1.out hX2.out rfl (by decide) (.slice Ab j cb) j (bkV (L.take j) ys) (by rfl) (HBk4.out.alloc _) ⟨wp.heap.size, 0, none⟩ 1 1 [.int .i64 p, .int .i64 q, .slice Ay R cy] (by rfl) (by rfl) (World.news_of_block (cs := #[.int .i64 p, .int .i64 q, .slice Ay R cy]) (t := 43) (fr := (0, 0)) (heap_alloc_new _ _)) (by simp [Value.oneCell']) (by decide) (by unfold maxLen; omega) (by omega) (by simp; omega) _ rfl ?_; intro gg cap1 w7 hown7 hgrow hat hlt7))
              have hb4 : Below wp.heap.size wp (wp.drew.alloc (.cells #[.int .i64 p, .int .i64 q, .slice Ay R cy] 43)) := (Below.refl _ wp).drew.alloc (Nat.le_refl _) _
              have HBk7 : Hid (w7.ownsRow (M + 1) 43 3 (.slice (some ⟨gg, 0, none⟩) (j + 1) cap1) (j + 1) (bkV (L.take (j + 1)) (ys ++ [.slice Ay R cy]))) := Lib.hid (by
                have e1 : L.take (j + 1) = L.take j ++ [(p, q)] := by rw [List.take_add_one, HPc.out]; rfl
                have e2 : ys.length = (L.take j).length := by have h1 := HY.out; have h2 := HLL.out; rw [List.length_take]; omega
                rw [e1, bkV_append e2]
                exact hown7)
              have HF7 : Hid (∀ (i : Nat) y c, (ys ++ [.slice Ay R cy])[i]? = some y → L[i]? = some c → ∃ a : Nat, xs[a]? = some y ∧ (rowC C k k)[a]? = some (grpL C k c)) := Lib.hid (fun i y c hy hc => by
                rcases snoc_get hy with ⟨_, h⟩ | ⟨h1, h2⟩
                · exact HF.out i y c h hc
                · rw [h1, HY.out, HPc.out] at hc
                  obtain rfl := Option.some.inj hc
                  exact ⟨a, by rw [h2]; exact HYy.out, HRo.out⟩)
              have HO7 := Lib.hid ((HO3.out.kept (grown_of_below hb4) (Classical.em _)).kept hgrow (own_ne HO3.out HBk3.out (by decide)))
              have HM7 := Lib.hid (mapAt_grown (mapAt_grown HM3.out (grown_of_below hb4) (by simp)) hgrow (fun e => by have := (HBk3.out.lt M e.symm).1; omega))
              have HR7 := Lib.hid ((HR3.out.below hb4).otherE (HBk3.out.kept (grown_of_below hb4) (Classical.em _)) (by decide) hgrow)
              have HB7 : Hid (Below w.heap.size w w7) := Lib.hid (by
                have h1 := below_step HB3.out hb4
                exact h1.grown hgrow h1.size (fun b e => by have := (HBk3.out.lt b e).1; omega))
              have HZ7 : Hid (M + 1 ≤ w7.heap.size) := Lib.hid (Nat.le_trans (Nat.le_trans HZ3.out hb4.size) hgrow.size)
              have HY7 : Hid ((ys ++ [Value.slice Ay R cy]).length = j + 1) := Lib.hid (by simp [HY.out])
              clear hb4 hown7 hgrow hat hlt7 hc1 hc2
              go_wp2
              exact ⟨⟨j + 1, _, ys ++ [.slice Ay R cy], by omega, rfl, by go_num, HY7, HBk7, HF7, HO7, HM7, HR7, HB7, HZ7⟩, by simp [intOf]; omega⟩
            · obtain rfl : j = m := by omega
              obtain ⟨Ab, cb, hb⟩ := own_form HBk.out
              subst hb
              have HRes : Hid (∃ v, (Ending.returned (.tuple #[.slice Ab j cb, .int .i64 0])) = .returned (.tuple #[v, .int .i64 (gridF k X Y V s)]) ∧ Bks wr v (idxL k X Y V s) (idxR k X Y V s) ∧ Below w.heap.size w wr) := Lib.hid (by
                refine ⟨_, by rw [HGr.out], ?_, HB.out⟩
                have hLL : idxL k X Y V s = L := by unfold idxL; rw [if_pos HGr.out, HLc.out, HC.out]
                have hRR : idxR k X Y V s = L.map (grpL C k) := by unfold idxR; rw [hLL, HC.out]
                rw [hLL, hRR]
                have hlen := HLL.out
                refine ⟨M + 1, ys, by rw [HY.out, hlen], by simp, ?_, fun i y r hy hr => ?_⟩
                · have h := HBk.out
                  rw [← hlen, List.take_length] at h
                  rw [← hlen] 
                  exact h
                · rw [List.getElem?_map] at hr
                  cases hc : L[i]? with
                  | none => rw [hc] at hr; cases hr
                  | some c =>
                    rw [hc] at hr
                    obtain rfl := Option.some.inj hr
                    obtain ⟨a, h1, h2⟩ := HF.out i y c hy hc
                    exact ⟨M + 1, HR.out.2.1 a y _ h1 h2⟩)
              clear HBk HF HO HM HR HB HZ
              go_wp2
              exact bodyPost_ret (v := .tuple #[.slice Ab j cb, .int .i64 0]) (by simp [results, Try.results25, go_sem]) rfl HRes.out
        · obtain ⟨he1, he2⟩ := mem_left he
          have hlf := left_shrinks _ _ _ he
          obtain ⟨a, u, hu, rfl⟩ := mem_esL2 he1
          have hal := (List.getElem?_eq_some_iff.1 hu).1
          have hna : a ∉ S := fun h => by
            have : S.toArray.contains a = true := by simpa using h
            exact absurd (this.symm.trans he2) (by simp)
          obtain ⟨wn, hwn⟩ : ∃ z, z = setBlock w1 r (.mapIter (some M) xs.length (S.toArray.push a) xs.length) := ⟨_, rfl⟩
          obtain ⟨p, hp⟩ : ∃ p, p = (C (nthF C k a)).1 := ⟨_, rfl⟩
          obtain ⟨q, hq⟩ : ∃ q, q = (C (nthF C k a)).2 := ⟨_, rfl⟩
          have hky : kyC C k a = .agg #[.int .i64 p, .int .i64 q] := by rw [hp, hq]; rfl
          have hrun' : (Instr.next (.pointer (some ⟨r, 0, none⟩)) false 0).run Try.prog wr = .ok (.tuple #[.bool true, .agg #[.int .i64 p, .int .i64 q], u]) wn := by rw [hwn, ← hky]; exact hrun
          have hg1 : wr.grownBy w1 none := by rcases hw1 with rfl | rfl <;> exact ⟨rfl, rfl, rfl, Nat.le_refl _, fun i _ _ => rfl⟩
          have hgn : w1.grownBy wn (some r) := by rw [hwn]; exact grown_setBlock _
          have hi1 : w1.heap[r]? = some (.mapIter (some M) xs.length S.toArray xs.length) := by rcases hw1 with rfl | rfl <;> exact HIt.out
          have hln : r < w1.heap.size := (Array.getElem?_eq_some_iff.1 hi1).1
          have HItn : Hid (wn.heap[r]? = some (.mapIter (some M) xs.length (S.toArray.push a) xs.length)) := Lib.hid (by
            rw [hwn]; unfold setBlock
            rw [Array.getElem?_setIfInBounds_self_of_lt hln])
          have ho1 := HO.out.kept hg1 (Classical.em _)
          have HOn := Lib.hid (ho1.kept hgn (Or.inr (fun e => own_not ho1 hi1 rfl e.symm)))
          have HMn := Lib.hid (mapAt_grown (mapAt_grown HM.out hg1 (by simp)) hgn (by simp; omega))
          have HRn := Lib.hid ((HR.out.kept hg1 (fun g e => by cases e)).iter hgn hi1 rfl)
          have HBn : Hid (Below w.heap.size w wn) := Lib.hid (by
            have h1 := HB.out.grown hg1 HB.out.size (fun b e => by cases e)
            exact h1.grown hgn h1.size (fun b e => by obtain rfl := Option.some.inj e; exact hwr))
          have HZn : Hid (M + 1 ≤ wn.heap.size) := Lib.hid (Nat.le_trans HZ.out (Nat.le_trans hg1.size hgn.size))
          have hent : (Instr.entry (.pointer (some ⟨r, 0, none⟩))).run Try.prog wn = .ok (.tuple #[.agg #[.int .i64 p, .int .i64 q], u]) wn := by
            have h := run_entry_at (P := Try.prog) wn r M xs.length S.toArray (esL (kyC C k) xs) xs.length ⟨kyC C k a, u, a⟩ HItn.out HMn.out he1 (by rw [esL_born]; exact List.nodup_range)
            rw [hky] at h
            exact h
          have HSn : Hid ((S ++ [a]).Nodup ∧ ∀ c ∈ S ++ [a], c < xs.length) := Lib.hid ⟨List.nodup_append.2 ⟨HS.out.1, by simp, fun c hc d hd e => hna (by rw [← (List.mem_singleton.1 hd), ← e]; exact hc)⟩, fun c hc => by
            rcases List.mem_append.1 hc with h | h
            · exact HS.out.2 c h
            · rw [List.mem_singleton.1 h]; exact hal⟩
          have HLf := Lib.hid hlf
          have HIs := Lib.hid (iterSeen_at HIt.out)
          have HPQ : Hid (p = (C (nthF C k a)).1 ∧ q = (C (nthF C k a)).2) := Lib.hid ⟨hp, hq⟩
          obtain ⟨Av, cv, hv⟩ := own_form HOn.out
          subst hv
          have hSl : S.length ≤ 1000 := by
            have h1 := nodup_le xs.length S HS.out.1 HS.out.2
            have h2 := HL.out
            have h3 := rnk_le (C := C) k
            omega
          clear hrun hold he he1 he2 hlf hu hna hwn hky hg1 hgn hi1 hln ho1 hw1 hp hq HS HIt HO HM HR HB HZ
          go_upto_region 15 with fail
          have hbx := BoxAt.new wn 24 #[.int .i64 p, .int .i64 q]
          have hb3 : Below wn.heap.size wn (wn.alloc (.cells #[.int .i64 p, .int .i64 q] 24)) := (Below.refl _ wn).alloc (Nat.le_refl _) _
          obtain ⟨Lb, hLb⟩ : ∃ z, z = wn.heap.size := ⟨_, rfl⟩
          rw [← hLb] at hbx ⊢
          have hb4 : Below wn.heap.size wn ((wn.alloc (.cells #[.int .i64 p, .int .i64 q] 24)).alloc (.cells #[.int .i64 p, .int .i64 q] 24)) := hb3.alloc hb3.size _
          have HIt4 := Lib.hid ((hb4.block r (Array.getElem?_eq_some_iff.1 HItn.out).1).trans HItn.out)
          have HO4 := Lib.hid (HOn.out.kept (grown_of_below hb4) (Classical.em _))
          have HM4 := Lib.hid (mapAt_grown HMn.out (grown_of_below hb4) (by simp))
          have HR4 := Lib.hid (HRn.out.below hb4)
          have HB4 := Lib.hid (below_step HBn.out hb4)
          have HZ4 := Lib.hid (Nat.le_trans HZn.out hb4.size)
          clear hLb hb3 hb4 HItn HOn HMn HRn HBn HZn hent hrun'
          generalize wn.alloc (.cells #[.int .i64 p, .int .i64 q] 24) = wp at *
          have d0 : wp.cell? ⟨Lb, 0, none⟩ = some (.int .i64 p) := hbx.cell 0
          have d1 : wp.cell? ⟨Lb, 1, none⟩ = some (.int .i64 q) := hbx.cell 1
          have d2 := hbx.lt
          clear hbx
          obtain ⟨m, hm⟩ : ∃ m, m = S.length := ⟨_, rfl⟩
          rw [← hm] at HO4 hSl ⊢
          have HMl := Lib.hid hm
          clear hm
          go_wp2_with (at_builtin; go_loud (refine wpList_append_lies _ rfl _ _ 56 rfl (M + 1) 24 j0_ _ 2 16 Try.underlying56 hJ0.out hY0.out hY1.out hY2.out rfl (by decide) (.slice Av m cv) m (cellV C k S) rfl HO4.out ⟨wp.heap.size, 0, none⟩ 1 1 [.int .i64 p, .int .i64 q] rfl rfl (World.news_of_block (cs := #[.int .i64 p, .int .i64 q]) (t := 24) (fr := (0, 0)) (heap_alloc_new wp _)) (by simp [Value.oneCell']) (by decide) (by unfold maxLen; omega) (by omega) HZ4.out _ rfl ?_; intro gg cap1 w7 hown7 hgrow hat hlt7))
          have HO7 : Hid (w7.ownsRow (M + 1) 24 2 (.slice (some ⟨gg, 0, none⟩) (m + 1) cap1) (S ++ [a]).length (cellV C k (S ++ [a]))) := Lib.hid (by
            rw [cellV_snoc, ← HPQ.out.1, ← HPQ.out.2, List.length_append, ← HMl.out]
            exact hown7)
          have HIt7 : Hid (w7.heap[r]? = some (.mapIter (some M) xs.length (S ++ [a]).toArray xs.length)) := Lib.hid (by
            have h := (hgrow.block r (Array.getElem?_eq_some_iff.1 HIt4.out).1 (own_not HO4.out HIt4.out rfl)).trans HIt4.out
            rw [h]; simp)
          have HM7 := Lib.hid (mapAt_grown HM4.out hgrow (fun e => by have := (HO4.out.lt M e.symm).1; omega))
          have HR7 := Lib.hid (HR4.out.other HO4.out hgrow)
          have HB7 : Hid (Below w.heap.size w w7) := Lib.hid (HB4.out.grown hgrow HB4.out.size (fun b e => by have := (HO4.out.lt b e).1; omega))
          have HZ7 : Hid (M + 1 ≤ w7.heap.size) := Lib.hid (Nat.le_trans HZ4.out hgrow.size)
          clear hown7 hgrow hat hlt7
          go_roundw
          case rel => exact ⟨S ++ [a], _, rfl, HSn, HIt7, HO7, HM7, HR7, HB7, HZ7⟩
          case measure =>
            have h1 := iterSeen_at HIt7.out
            have h2 := HIs.out
            have h3 := HLf.out
            have e : S.toArray.push a = (S ++ [a]).toArray := by simp
            rw [e] at h3
            show (leftOf (esL (kyC C k) xs) (w7.iterSeen r)).size < _
            rw [h1, h2]
            exact h3
end Go.Proofs.Ytaehfildhmljeaa
