/- The cells of a cloud, each one once, in order; and the points of each. Plain mathematics. A map from cells to rows of numbers, its entries in the order in which they came. Rows of numbers that values hold; the rows of the cells. -/
import Derived.Test.YtaehfildhmljeaaCho
import Derived.Test.YtaehfildhmljeaaRSz
import Derived.Test.YtaehfildhmljeaaRedM
import Derived.Test.YtaehfildhmljeaaRedK
import Derived.Test.YtaehfildhmljeaaSegR
import Derived.WideKeyEntry
namespace Go.Proofs.Ytaehfildhmljeaa

theorem bef_iff (p q : Pt) : befB p q = true ↔ p.1 < q.1 ∨ (p.1 = q.1 ∧ p.2 < q.2) := by
  unfold befB
  simp
theorem bef_no (p q : Pt) : befB p q = false ↔ ¬ (p.1 < q.1 ∨ (p.1 = q.1 ∧ p.2 < q.2)) := by
  rw [← bef_iff]
  simp
theorem bef_irr (p : Pt) : befB p p = false := by
  rw [bef_no]
  omega
theorem bef_trans {p q r : Pt} (h : befB p q = true) (h' : befB q r = true) : befB p r = true := by
  rw [bef_iff] at *
  omega
theorem bef_asym {p q : Pt} (h : befB p q = true) (h' : befB q p = true) : False := by
  rw [bef_iff] at *
  omega
theorem bef_tri {p q : Pt} (h : befB p q = false) (hne : p ≠ q) : befB q p = true := by
  rw [bef_no] at h
  rw [bef_iff]
  have : ¬ (p.1 = q.1 ∧ p.2 = q.2) := fun e => hne (Prod.ext e.1 e.2)
  omega

/-- In order, no two alike. -/
abbrev SrtL (L : List Pt) : Prop := L.Pairwise (fun p q => befB p q = true)
/-- c laid in its place, if it isn't there. -/
def insU (c : Pt) : List Pt → List Pt
  | [] => [c]
  | p :: r => if befB p c then p :: insU c r else if p = c then p :: r else c :: p :: r
theorem mem_insU {c x : Pt} : ∀ {L : List Pt}, x ∈ insU c L ↔ x = c ∨ x ∈ L := by
  intro L
  induction L with
  | nil => simp [insU]
  | cons p r ih =>
    rw [insU]
    split
    · rw [List.mem_cons, ih, List.mem_cons]
      constructor
      · rintro (h | h | h)
        · exact .inr (.inl h)
        · exact .inl h
        · exact .inr (.inr h)
      · rintro (h | h | h)
        · exact .inr (.inl h)
        · exact .inl h
        · exact .inr (.inr h)
    · split
      · rename_i h
        subst h
        simp
      · simp
theorem srt_insU {c : Pt} : ∀ {L : List Pt}, SrtL L → SrtL (insU c L) := by
  intro L
  induction L with
  | nil => intro _; simp [insU]
  | cons p r ih =>
    intro h
    obtain ⟨h1, h2⟩ := List.pairwise_cons.1 h
    rw [insU]
    split
    · rename_i hb
      refine List.pairwise_cons.2 ⟨fun y hy => ?_, ih h2⟩
      rcases mem_insU.1 hy with rfl | hy
      · exact hb
      · exact h1 y hy
    · rename_i hb
      split
      · exact h
      · rename_i hne
        have hcp : befB c p = true := bef_tri (by simpa using hb) hne
        refine List.pairwise_cons.2 ⟨fun y hy => ?_, h⟩
        rcases List.mem_cons.1 hy with rfl | hy
        · exact hcp
        · exact bef_trans hcp (h1 y hy)
theorem srt_uniq : ∀ {L L' : List Pt}, SrtL L → SrtL L' → (∀ x, x ∈ L ↔ x ∈ L') → L = L' := by
  intro L
  induction L with
  | nil =>
    intro L' _ _ h
    cases L' with
    | nil => rfl
    | cons a r => exact absurd ((h a).2 (List.mem_cons_self)) (by simp)
  | cons a r ih =>
    intro L' h1 h2 h
    cases L' with
    | nil => exact absurd ((h a).1 (List.mem_cons_self)) (by simp)
    | cons a' r' =>
      obtain ⟨p1, p2⟩ := List.pairwise_cons.1 h1
      obtain ⟨q1, q2⟩ := List.pairwise_cons.1 h2
      have e : a = a' := by
        rcases List.mem_cons.1 ((h a).1 (List.mem_cons_self)) with e | e
        · exact e
        · rcases List.mem_cons.1 ((h a').2 (List.mem_cons_self)) with e' | e'
          · exact e'.symm
          · exact (bef_asym (q1 a e) (p1 a' e')).elim
      subst e
      congr 1
      refine ih p2 q2 fun x => ⟨fun hx => ?_, fun hx => ?_⟩
      · rcases List.mem_cons.1 ((h x).1 (List.mem_cons_of_mem _ hx)) with rfl | hx'
        · have := p1 x hx
          rw [bef_irr] at this
          cases this
        · exact hx'
      · rcases List.mem_cons.1 ((h x).2 (List.mem_cons_of_mem _ hx)) with rfl | hx'
        · have := q1 x hx
          rw [bef_irr] at this
          cases this
        · exact hx'
/-- Behind n cells that go before c, at one that neither goes before c nor is c: c is new. -/
theorem insU_new {c : Pt} : ∀ {L : List Pt} {n : Nat}, n ≤ L.length → (∀ j p, j < n → L[j]? = some p → befB p c = true) → (∀ p, L[n]? = some p → befB p c = false ∧ p ≠ c) → insU c L = L.take n ++ c :: L.drop n := by
  intro L
  induction L with
  | nil =>
    intro n hn _ _
    obtain rfl : n = 0 := by simpa using hn
    rfl
  | cons a r ih =>
    intro n hn h h'
    cases n with
    | zero =>
      obtain ⟨h1, h2⟩ := h' a rfl
      rw [insU, if_neg (by rw [h1]; simp), if_neg h2]
      rfl
    | succ n =>
      have h1 := h 0 a (by omega) rfl
      rw [insU, if_pos h1, ih (n := n) (by simpa using hn) (fun j p hj hp => h (j + 1) p (by omega) (by simpa using hp)) (fun p hp => h' p (by simpa using hp))]
      rfl
theorem insU_old {c : Pt} : ∀ {L : List Pt} {n : Nat}, (∀ j p, j < n → L[j]? = some p → befB p c = true) → L[n]? = some c → insU c L = L := by
  intro L
  induction L with
  | nil => intro n _ h'; simp at h'
  | cons a r ih =>
    intro n h h'
    cases n with
    | zero =>
      obtain rfl : a = c := by simpa using h'
      rw [insU, if_neg (by rw [bef_irr]; simp), if_pos rfl]
    | succ n =>
      have h1 := h 0 a (by omega) rfl
      rw [insU, if_pos h1, ih (n := n) (fun j p hj hp => h (j + 1) p (by omega) (by simpa using hp)) (by simpa using h')]
theorem insU_len (c : Pt) (L : List Pt) : (insU c L).length ≤ L.length + 1 := by
  induction L with
  | nil => simp [insU]
  | cons p r ih =>
    rw [insU]
    split
    · simp; omega
    · split <;> simp

section
variable (C : Nat → Pt)
/-- The cells of the first k points. -/
def celL : Nat → List Pt
  | 0 => []
  | k + 1 => insU (C k) (celL k)
/-- The points of a cell among the first k. -/
def grpL (k : Nat) (c : Pt) : List Nat := selL (fun i => decide (C i = c)) k
end
section
variable {C : Nat → Pt}
theorem mem_celL {x : Pt} : ∀ {k : Nat}, x ∈ celL C k ↔ ∃ i, i < k ∧ C i = x := by
  intro k
  induction k with
  | zero => simp [celL]
  | succ k ih =>
    rw [celL, mem_insU, ih]
    constructor
    · rintro (rfl | ⟨i, hi, e⟩)
      · exact ⟨k, by omega, rfl⟩
      · exact ⟨i, by omega, e⟩
    · rintro ⟨i, hi, e⟩
      rcases Nat.lt_or_ge i k with h | h
      · exact .inr ⟨i, h, e⟩
      · obtain rfl : i = k := by omega
        exact .inl e.symm
theorem srt_celL : ∀ k, SrtL (celL C k) := by
  intro k
  induction k with
  | zero => simp [celL]
  | succ k ih => exact srt_insU ih
theorem celL_len : ∀ k, (celL C k).length ≤ k := by
  intro k
  induction k with
  | zero => simp [celL]
  | succ k ih =>
    have := insU_len (C k) (celL C k)
    rw [celL]
    omega
theorem grp_same {k : Nat} {c : Pt} (h : C k = c) : grpL C (k + 1) c = grpL C k c ++ [k] := by
  unfold grpL
  rw [selL, if_pos (by simp [h])]
theorem grp_other {k : Nat} {c : Pt} (h : C k ≠ c) : grpL C (k + 1) c = grpL C k c := by
  unfold grpL
  rw [selL, if_neg (by simp [h])]
theorem grp_none {c : Pt} : ∀ {k : Nat}, (∀ i, i < k → C i ≠ c) → grpL C k c = [] := by
  intro k
  induction k with
  | zero => intro _; rfl
  | succ k ih => intro h; rw [grp_other (h k (by omega)), ih (fun i hi => h i (by omega))]
theorem grp_len (k : Nat) (c : Pt) : (grpL C k c).length ≤ k := selL_bd _ k
/-- A list in order that has just the cells of the first n points. -/
theorem celL_of {L : List Pt} {n : Nat} (h : SrtL L) (hm : ∀ x, x ∈ L ↔ ∃ i, i < n ∧ C i = x) : L = celL C n :=
  srt_uniq h (srt_celL n) fun x => (hm x).trans mem_celL.symm
/-- The cells of the first ones are all cells. -/
theorem first_mem {n : Nat} (x : Pt) : (∃ a, a < rnk C n ∧ C (nthF C n a) = x) ↔ ∃ i, i < n ∧ C i = x := by
  constructor
  · rintro ⟨a, ha, e⟩
    exact ⟨_, (nth_spec (C := C) n a ha).1, e⟩
  · rintro ⟨i, hi, e⟩
    obtain ⟨j, hj, hf, e2⟩ := lead (C := C) i
    have hr := rnk_lt hf (show j < n by omega)
    exact ⟨rnk C j, hr, by rw [nth_of hf n (by omega), e2, e]⟩
end
end Go.Proofs.Ytaehfildhmljeaa

namespace Go.Proofs.Ytaehfildhmljeaa
open Go.RowKit Go.Shelf Go.Maps Go.WideMaps Go.WideElems Go.MapKept
open Go.ChangeMaps (setBlock)

/-- The entries of a map: the a-th one bears the key Ks a, the value xs[a] and the stamp a. -/
def esL (Ks : Nat → Value) (xs : List Value) : Array MapEntry := (xs.mapIdx (fun a x => (⟨Ks a, x, a⟩ : MapEntry))).toArray
def MapAt (W : World) (b : Nat) (Ks : Nat → Value) (xs : List Value) : Prop := W.heap[b]? = some (.map (esL Ks xs) xs.length)
theorem esL_size (Ks : Nat → Value) (xs : List Value) : (esL Ks xs).size = xs.length := by simp [esL]
theorem esL_get (Ks : Nat → Value) (xs : List Value) (a : Nat) : (esL Ks xs)[a]? = (xs[a]?).map (fun x => (⟨Ks a, x, a⟩ : MapEntry)) := by
  simp [esL]
theorem esL_push (Ks : Nat → Value) (xs : List Value) (v : Value) : (esL Ks xs).push ⟨Ks xs.length, v, xs.length⟩ = esL Ks (xs ++ [v]) := by
  apply Array.ext'
  simp [esL, List.mapIdx_append]
theorem esL_set (Ks : Nat → Value) (xs : List Value) (a : Nat) (v : Value) : (esL Ks xs).modify a (fun e => { e with val := v }) = esL Ks (xs.set a v) := by
  apply Array.ext_getElem?
  intro i
  rw [Array.getElem?_modify, esL_get, esL_get, List.getElem?_set]
  by_cases h : a = i
  · subst h
    rw [if_pos rfl]
    by_cases h2 : a < xs.length
    · rw [if_pos rfl, if_pos h2, List.getElem?_eq_getElem h2]
      rfl
    · rw [if_pos rfl, if_neg h2, List.getElem?_eq_none (by omega)]
      rfl
  · rw [if_neg h, if_neg h]
theorem esL_find (Ks : Nat → Value) (xs : List Value) {a : Nat} (ha : a < xs.length) : (esL Ks xs).findIdx? (fun e => ((e.born : Nat) : Int) == ((a : Nat) : Int)) = some a := by
  rw [Array.findIdx?_eq_some_iff_getElem]
  refine ⟨by rw [esL_size]; exact ha, by simp [esL], fun j hj => ?_⟩
  simp [esL]
  omega
theorem Try.zero41 (w : World) : (zeroValue 41).run Try.prog w = .ok (.slice none 0 0) w := by kernel_rfl
section
variable {W : World} {b : Nat} {Ks : Nat → Value} {xs : List Value}
theorem mem_esL {x : MapEntry} (h : x ∈ (esL Ks xs).toList) : ∃ a, a < xs.length ∧ x.key = Ks a := by
  obtain ⟨a, ha⟩ := List.getElem?_of_mem h
  rw [Array.getElem?_toList, esL_get] at ha
  cases hx : xs[a]? with
  | none => rw [hx] at ha; cases ha
  | some v =>
    rw [hx] at ha
    obtain rfl := Option.some.inj ha
    exact ⟨a, (List.getElem?_eq_some_iff.1 hx).1, rfl⟩
theorem run_entry_new (h : MapAt W b Ks xs) (hk : ∀ a, a ≤ xs.length → ∃ l, keyOf Try.prog 24 (Ks a) = some l) (hn : ∀ a, a < xs.length → Ks a ≠ Ks xs.length) :
    (Instr.mapEntry 82 (.map (some b)) (Ks xs.length)).run Try.prog W = .ok (.tuple #[.slice none 0 0, goInt xs.length]) (setBlock W b (.map (esL Ks (xs ++ [.slice none 0 0])) (xs.length + 1))) := by
  obtain ⟨l, hl⟩ := hk xs.length (Nat.le_refl _)
  have hes : ∀ e ∈ (esL Ks xs).toList, ∃ l, keyOf Try.prog 24 e.key = some l := fun e he => by
    obtain ⟨a, ha, e2⟩ := mem_esL he
    rw [e2]
    exact hk a (by omega)
  rcases Try.law24.find W hl (esL Ks xs).toList hes with ⟨h1, _⟩ | ⟨j, e0, _, h2, h3⟩
  · rw [← esL_push]
    have hb : W.heap[b]? = some (.map (esL Ks xs) xs.length) := h
    simp [Instr.mapEntry, run_underlying Try.underlying82, MapKept.run_getObj_map hb, Try.law24.check W false hl, h1, Try.zero41, MapKept.run_setObj_map _ hb, Result.andThen, setBlock]
  · obtain ⟨a, ha, e2⟩ := mem_esL (List.mem_of_getElem? h2)
    exact absurd (e2.symm.trans h3) (hn a ha)
theorem set_same {W : World} {b : Nat} {o : Obj} (h : W.heap[b]? = some o) : setBlock W b o = W := by
  unfold setBlock
  have : W.heap.setIfInBounds b o = W.heap := by
    apply Array.ext_getElem?
    intro i
    rw [Array.getElem?_setIfInBounds]
    split
    · rename_i e
      subst e
      split
      · exact h.symm
      · rename_i hb
        rw [Array.getElem?_eq_none (by omega)] at h
        cases h
    · rfl
  rw [this]
theorem run_entry_old (h : MapAt W b Ks xs) (hk : ∀ a, a < xs.length → ∃ l, keyOf Try.prog 24 (Ks a) = some l) (hu : ∀ a c, a < xs.length → c < xs.length → Ks a = Ks c → a = c) {a : Nat} {v : Value} (hv : xs[a]? = some v) :
    (Instr.mapEntry 82 (.map (some b)) (Ks a)).run Try.prog W = .ok (.tuple #[v, goInt a]) W := by
  have ha : a < xs.length := (List.getElem?_eq_some_iff.1 hv).1
  obtain ⟨l, hl⟩ := hk a ha
  have hes : ∀ e ∈ (esL Ks xs).toList, ∃ l, keyOf Try.prog 24 e.key = some l := fun e he => by
    obtain ⟨a, ha, e2⟩ := mem_esL he
    rw [e2]
    exact hk a ha
  rcases Try.law24.find W hl (esL Ks xs).toList hes with ⟨_, h2⟩ | ⟨j, e0, h1, h2, h3⟩
  · exact absurd rfl (h2 ⟨Ks a, v, a⟩ (List.mem_of_getElem? (i := a) (by rw [Array.getElem?_toList, esL_get, hv]; rfl)))
  · have h2' : (esL Ks xs)[j]? = some e0 := by rw [← Array.getElem?_toList]; exact h2
    have h4 := h2'
    rw [esL_get] at h4
    cases hx : xs[j]? with
    | none => rw [hx] at h4; cases h4
    | some u =>
      rw [hx] at h4
      obtain rfl := Option.some.inj h4
      obtain rfl := hu j a (List.getElem?_eq_some_iff.1 hx).1 ha h3
      rw [hx] at hv
      obtain rfl := Option.some.inj hv
      have hb : W.heap[b]? = some (.map (esL Ks xs) xs.length) := h
      have hsame : (esL Ks xs).modify j (fun e => { e with key := Ks j }) = esL Ks xs := by
        apply Array.ext_getElem?
        intro i
        rw [Array.getElem?_modify]
        split
        · rename_i e
          subst e
          rw [h2']
          rfl
        · rfl
      have := set_same hb
      simp [Instr.mapEntry, run_underlying Try.underlying82, MapKept.run_getObj_map hb, Try.law24.check W false hl, h1, h2', Try.law24.stays W hl, hsame, MapKept.run_setObj_map _ hb, Result.andThen]
      exact this
theorem run_entry_store (h : MapAt W b Ks xs) {a : Nat} (ha : a < xs.length) (v : Value) :
    (Instr.entryStore 82 (.map (some b)) (goInt a) v).run Try.prog W = .ok () (setBlock W b (.map (esL Ks (xs.set a v)) xs.length)) := by
  have hb : W.heap[b]? = some (.map (esL Ks xs) xs.length) := h
  have hf := esL_find Ks xs ha
  have hs := esL_set Ks xs a v
  simp [Instr.entryStore, MapKept.run_getObj_map hb, asInt, asIntOf, goInt, hf, hs, MapKept.run_setObj_map _ hb, Result.andThen, setBlock]
theorem mapAt_set (W : World) {b : Nat} (hb : b < W.heap.size) (Ks : Nat → Value) (xs : List Value) {n : Nat} (hn : n = xs.length) : MapAt (setBlock W b (.map (esL Ks xs) n)) b Ks xs := by
  subst hn
  unfold MapAt setBlock
  rw [Array.getElem?_setIfInBounds_self_of_lt hb]
end
end Go.Proofs.Ytaehfildhmljeaa

namespace Go.Proofs.Ytaehfildhmljeaa
open Go.RowKit Go.Shelf

/-- The values own the rows, each one its own. -/
def Rws (W : World) (base : Nat) (xs : List Value) (R : List (List Nat)) : Prop :=
  xs.length = R.length ∧ (∀ (a : Nat) x r, xs[a]? = some x → R[a]? = some r → W.ownsRow base 3 1 x r.length (natV r)) ∧
    ∀ (a b : Nat) x y, xs[a]? = some x → xs[b]? = some y → a ≠ b → x.ownBlock = none ∨ x.ownBlock ≠ y.ownBlock
theorem rws_none (W : World) (base : Nat) : Rws W base [] [] := ⟨rfl, fun a x r h => by simp at h, fun a b x y h => by simp at h⟩
theorem Rws.kept {W W' : World} {base : Nat} {xs : List Value} {R : List (List Nat)} {row : Option Nat} (h : Rws W base xs R) (hg : W.grownBy W' row) (hr : ∀ g, row = some g → g < base) : Rws W' base xs R := by
  obtain ⟨h1, h2, h3⟩ := h
  refine ⟨h1, fun a x r hx hR => ?_, h3⟩
  have ho := h2 a x r hx hR
  refine ho.kept hg ?_
  cases hb : x.ownBlock with
  | none => exact Or.inl rfl
  | some k =>
    refine Or.inr fun he => ?_
    have := (ho.lt k hb).1
    have := hr k he.symm
    omega
theorem Rws.below {W W' : World} {base : Nat} {xs : List Value} {R : List (List Nat)} (h : Rws W base xs R) (hb : Below W.heap.size W W') : Rws W' base xs R :=
  h.kept (row := Option.none) ⟨hb.os, hb.tape, hb.output, hb.size, fun i hi _ => hb.block i hi⟩ (fun g e => by cases e)
theorem snoc_get {α : Type} {xs : List α} {v x : α} {a : Nat} (h : (xs ++ [v])[a]? = some x) : (a < xs.length ∧ xs[a]? = some x) ∨ (a = xs.length ∧ x = v) := by
  rcases Nat.lt_or_ge a xs.length with h1 | h1
  · rw [List.getElem?_append_left h1] at h; exact Or.inl ⟨h1, h⟩
  · rw [List.getElem?_append_right h1] at h
    have : a - xs.length = 0 := by
      rcases Nat.eq_zero_or_pos (a - xs.length) with h0 | h0
      · exact h0
      · rw [List.getElem?_eq_none (by simp; omega)] at h; cases h
    rw [this] at h
    exact Or.inr ⟨by omega, by simpa using h.symm⟩
theorem Rws.push {W W' : World} {base g1 c1 : Nat} {xs : List Value} {R : List (List Nat)} {r : List Nat} (h : Rws W base xs R) (ho : W'.ownsRow base 3 1 (.slice (some ⟨g1, 0, none⟩) r.length c1) r.length (natV r)) (hg : W.grownBy W' none) (hat : W.heap.size ≤ g1) :
    Rws W' base (xs ++ [.slice (some ⟨g1, 0, none⟩) r.length c1]) (R ++ [r]) := by
  obtain ⟨h1, h2, h3⟩ := h
  have low : ∀ (a : Nat) x k, xs[a]? = some x → x.ownBlock = some k → k < W.heap.size := fun a x k hx hk => by
    have ha : a < R.length := by rw [← h1]; exact (List.getElem?_eq_some_iff.1 hx).1
    exact ((h2 a x _ hx (List.getElem?_eq_getElem ha)).lt k hk).2
  refine ⟨by simp [h1], fun a x q hx hq => ?_, fun a b x y hx hy hab => ?_⟩
  · rcases snoc_get hx with ⟨ha, hx'⟩ | ⟨ha, rfl⟩
    · rw [List.getElem?_append_left (by omega)] at hq
      exact (h2 a x q hx' hq).kept hg (Classical.em _)
    · rw [ha, h1, List.getElem?_append_right (Nat.le_refl _)] at hq
      obtain rfl : r = q := by simpa using hq
      exact ho
  · rcases snoc_get hx with ⟨ha, hx'⟩ | ⟨ha, rfl⟩
    · rcases snoc_get hy with ⟨hb, hy'⟩ | ⟨hb, rfl⟩
      · exact h3 a b x y hx' hy' hab
      · cases hk : x.ownBlock with
        | none => exact Or.inl rfl
        | some k =>
          refine Or.inr fun e => ?_
          have := low a x k hx' hk
          have : k = g1 := by simpa [Value.ownBlock] using e
          omega
    · rcases snoc_get hy with ⟨hb, hy'⟩ | ⟨hb, rfl⟩
      · refine Or.inr fun e => ?_
        have := low b y g1 hy' (by simpa [Value.ownBlock] using e.symm)
        omega
      · omega
theorem Rws.add {W W' : World} {base a i g1 c1 : Nat} {x : Value} {r : List Nat} {xs : List Value} {R : List (List Nat)} (h : Rws W base xs R) (hx : xs[a]? = some x) (hr : R[a]? = some r)
    (ho : W'.ownsRow base 3 1 (.slice (some ⟨g1, 0, none⟩) (r.length + 1) c1) (r.length + 1) (natV r ++ [.int .i64 (i : Int)])) (hg : W.grownBy W' x.ownBlock) (hat : x.ownBlock = some g1 ∨ W.heap.size ≤ g1) :
    Rws W' base (xs.set a (.slice (some ⟨g1, 0, none⟩) (r.length + 1) c1)) (R.set a (r ++ [i])) := by
  obtain ⟨h1, h3, h4⟩ := h
  have ha : a < R.length := by rw [← h1]; exact (List.getElem?_eq_some_iff.1 hx).1
  refine ⟨by simp [h1], fun b y q hy hq => ?_, fun b c y z hy hz hbc => ?_⟩
  · by_cases hb : b = a
    · subst hb
      rw [List.getElem?_set_self (by omega)] at hy hq
      obtain rfl := Option.some.inj hy
      obtain rfl := Option.some.inj hq
      rw [natV_snoc] at ho
      simpa using ho
    · rw [List.getElem?_set_ne (fun e => hb e.symm)] at hy hq
      exact (h3 b y q hy hq).kept hg (h4 b a y x hy hx hb)
  · have new : ∀ (d : Nat) u, xs[d]? = some u → d ≠ a → u.ownBlock = none ∨ u.ownBlock ≠ some g1 := fun d u hu hd => by
      cases hb : u.ownBlock with
      | none => exact Or.inl rfl
      | some k =>
        refine Or.inr fun he => ?_
        obtain rfl := Option.some.inj he
        rcases hat with h | h
        · rcases h4 d a u x hu hx hd with h' | h'
          · rw [hb] at h'; cases h'
          · rw [hb, h] at h'; exact h' rfl
        · have hdl : d < R.length := by rw [← h1]; exact (List.getElem?_eq_some_iff.1 hu).1
          have := ((h3 d u _ hu (List.getElem?_eq_getElem hdl)).lt k hb).2
          omega
    by_cases hb : b = a
    · subst hb
      rw [List.getElem?_set_self (by omega)] at hy
      obtain rfl := Option.some.inj hy
      rw [List.getElem?_set_ne hbc] at hz
      refine Or.inr ?_
      rcases new c z hz (fun e => hbc e.symm) with h | h
      · rw [h]; simp [Value.ownBlock]
      · exact fun e => h e.symm
    · rw [List.getElem?_set_ne (fun e => hb e.symm)] at hy
      by_cases hc : c = a
      · subst hc
        rw [List.getElem?_set_self (by omega)] at hz
        obtain rfl := Option.some.inj hz
        exact new b y hy hb
      · rw [List.getElem?_set_ne (fun e => hc e.symm)] at hz
        exact h4 b c y z hy hz hbc

section
variable (C : Nat → Pt) (n : Nat)
/-- The rows of the cells behind k points, in the order in which the cells came. -/
def rowC (k : Nat) : List (List Nat) := (List.range (rnk C k)).map (fun a => grpL C k (C (nthF C n a)))
end
section
variable {C : Nat → Pt} {n : Nat}
theorem rowC_len (k : Nat) : (rowC C n k).length = rnk C k := by simp [rowC]
theorem rowC_get {k a : Nat} (h : a < rnk C k) : (rowC C n k)[a]? = some (grpL C k (C (nthF C n a))) := by
  simp [rowC, h]
theorem nth_ne {k a : Nat} (hk : k < n) (hf : fstB C k = true) (ha : a < rnk C k) : C k ≠ C (nthF C n a) := by
  have h0 : rnk C k ≤ rnk C n := rnk_mono (by omega)
  obtain ⟨h1, h2, h3⟩ := nth_spec (C := C) n a (by omega)
  intro e
  have := fst_uniq h2 hf e.symm
  rw [this] at h3
  omega
theorem rowC_new {k : Nat} (hk : k < n) (hf : fstB C k = true) : rowC C n (k + 1) = rowC C n k ++ [[k]] := by
  unfold rowC
  rw [rnk_fst hf, List.range_succ, List.map_append]
  congr 1
  · refine List.map_congr_left fun a ha => ?_
    have ha' : a < rnk C k := List.mem_range.1 ha
    exact grp_other (nth_ne hk hf ha')
  · simp only [List.map_cons, List.map_nil, nth_of hf n hk]
    rw [grp_same rfl, grp_none (fun i hi => fstB_iff.1 hf i hi)]
    rfl
theorem rowC_old {k j : Nat} (hk : k < n) (hf : fstB C k = false) (hj : fstB C j = true) (hjk : j < k) (e : C j = C k) :
    rowC C n (k + 1) = (rowC C n k).set (rnk C j) (grpL C k (C k) ++ [k]) := by
  apply List.ext_getElem?
  intro a
  have hr := rnk_not hf
  rw [List.getElem?_set, rowC_len]
  by_cases ha : a < rnk C k
  · rw [rowC_get (by omega), rowC_get ha]
    by_cases he : rnk C j = a
    · subst he
      rw [if_pos rfl, if_pos ha, nth_of hj n (by omega), e, grp_same rfl]
    · rw [if_neg he, grp_other]
      have h0 : rnk C k ≤ rnk C n := rnk_mono (by omega)
      obtain ⟨h1, h2, h3⟩ := nth_spec (C := C) n a (by omega)
      intro e2
      have := fst_uniq hj h2 (e.trans e2)
      rw [← this] at h3
      exact he h3
  · have hlt := rnk_lt hj hjk
    rw [if_neg (by omega), List.getElem?_eq_none (by rw [rowC_len]; omega), List.getElem?_eq_none (by rw [rowC_len]; omega)]
end

theorem grown_setBlock {W : World} {b : Nat} (o : Obj) : W.grownBy (Go.ChangeMaps.setBlock W b o) (some b) := by
  refine ⟨rfl, rfl, rfl, by simp [Go.ChangeMaps.setBlock], fun i hi hne => ?_⟩
  unfold Go.ChangeMaps.setBlock
  rw [Array.getElem?_setIfInBounds_ne (fun e => hne (by rw [e]))]
end Go.Proofs.Ytaehfildhmljeaa
