/- PROVED HERE: for every slice of numbers (nil or not, of any length) and every number, CloudCovers returns true, and its arguments read behind the call as before.
   Conditions: none beyond the given row's own. The file holds the mathematics first (hulls of the same points, of a hull's corners, what lies inside, areas), then the walk, then the law. -/
import Derived.Test.YtaehfildhmljeaaHulF
import Derived.Test.YtaehfildhmljeaaRIn
import Derived.Test.YtaehfildhmljeaaCor
import Derived.Test.YtaehfildhmljeaaShfA
import Derived.Test.YtaehfildhmljeaaHlG
import Derived.Test.YtaehfildhmljeaaAwk
import Derived.Test.YtaehfildhmljeaaKCl
import Derived.Test.YtaehfildhmljeaaOpn
namespace Go.Proofs.Ytaehfildhmljeaa

theorem celL_same {C C' : Nat → Pt} {n n' : Nat} (h : ∀ x, (∃ i, i < n ∧ C i = x) ↔ (∃ i, i < n' ∧ C' i = x)) : celL C n = celL C' n' :=
  srt_uniq (srt_celL _) (srt_celL _) (fun x => mem_celL.trans ((h x).trans mem_celL.symm))
theorem edge_uniq {Q Q' : List Pt} {a b b' : Pt} (h : Edge Q a b) (h' : Edge Q' a b') (hb : b ∈ Q') (hb' : b' ∈ Q) : b = b' := by
  obtain ⟨g1, g2⟩ := h.2 b' hb'
  obtain ⟨g3, g4⟩ := h'.2 b hb
  have e := crs_swap a b b'
  have z : crs a b b' = 0 := by omega
  have z' : crs a b' b = 0 := by omega
  rcases g2 z with e1 | e1
  · exact e1.symm
  · rcases g4 z' with e2 | e2
    · exact e2
    · omega
theorem cyc_same {S S' F F' : List Pt} (hF : CycE S F) (hF' : CycE S' F') (h0 : F[0]? = F'[0]?) (hm : ∀ x ∈ F, x ∈ S') (hm' : ∀ x ∈ F', x ∈ S) : ∀ i, i < F.length → i < F'.length → F[i]? = F'[i]? := by
  intro i
  induction i with
  | zero => intro _ _; exact h0
  | succ i ih =>
    intro h1 h2
    have e := ih (by omega) (by omega)
    have a1 : F[i]? = some (F[i]'(by omega)) := List.getElem?_eq_getElem _
    have b1 : F[i + 1]? = some (F[i + 1]'h1) := List.getElem?_eq_getElem _
    have b2 : F'[i + 1]? = some (F'[i + 1]'h2) := List.getElem?_eq_getElem _
    have g1 := hF i _ _ a1 b1
    have g2 := hF' i _ _ (e.symm.trans a1) b2
    have := edge_uniq g1 g2 (hm _ (List.getElem_mem _)) (hm' _ (List.getElem_mem _))
    rw [b1, b2, this]
/-- The hull of the corners of a hull. -/
theorem hull_idem {S S' : List Pt} (hs : SrtL S) (hs' : SrtL S') (h2 : 2 ≤ S.length) (hmem : ∀ x, x ∈ S' ↔ x ∈ hulP S) : hulP S' = hulP S := by
  obtain ⟨lo, hlo⟩ : ∃ lo, S[0]? = some lo := ⟨S[0]'(by omega), List.getElem?_eq_getElem _⟩
  obtain ⟨F, c1, c2, c3, c4, c5, c6, c7, c8⟩ := hull_facts hs h2 hlo
  have hH0 : (hulP S)[0]? = some lo := by rw [← c3 0 (by omega)]; exact c4
  have hsub : ∀ x ∈ hulP S, x ∈ S := fun x hx => by
    obtain ⟨i, hi⟩ := List.getElem?_of_mem hx
    have hil := (List.getElem?_eq_some_iff.1 hi).1
    rw [← c3 i hil] at hi
    exact c8 x (List.mem_of_getElem? hi)
  have hloS' : lo ∈ S' := (hmem lo).2 (List.mem_of_getElem? hH0)
  have hlow : ∀ q ∈ S, q = lo ∨ befB lo q = true := fun q hq => by
    obtain ⟨i, hi⟩ := List.getElem?_of_mem hq
    cases i with
    | zero => rw [hlo] at hi; exact .inl (Option.some.inj hi).symm
    | succ i =>
      have hil := (List.getElem?_eq_some_iff.1 hi).1
      have h := List.pairwise_iff_getElem.1 hs 0 (i + 1) (by omega) hil (by omega)
      rw [List.getElem?_eq_getElem (by omega)] at hlo
      rw [List.getElem?_eq_getElem hil] at hi
      rw [Option.some.inj hlo, Option.some.inj hi] at h
      exact .inr h
  -- a second corner
  have hH1 : ∃ y, y ∈ hulP S ∧ y ≠ lo := by
    have hy : (hulP S)[1]? = some ((hulP S)[1]'(by omega)) := List.getElem?_eq_getElem _
    refine ⟨_, List.mem_of_getElem? hy, fun e => ?_⟩
    rw [e, ← c3 1 (by omega)] at hy
    exact c6 1 (by omega) (by omega) hy
  have h2' : 2 ≤ S'.length := by
    obtain ⟨y, hy, hne⟩ := hH1
    have hyS := (hmem y).2 hy
    match S', hloS', hyS with
    | [], h, _ => cases h
    | [x], h, h' =>
      rw [List.mem_singleton] at h h'
      exact absurd (h'.trans h.symm) hne
    | _ :: _ :: _, _, _ => simp
  have hlo' : S'[0]? = some lo := by
    have e : S'[0]? = some (S'[0]'(by omega)) := List.getElem?_eq_getElem _
    rw [e]
    rcases hlow _ (hsub _ ((hmem _).1 (List.getElem_mem (l := S') (n := 0) (by omega)))) with h | h
    · rw [h]
    · obtain ⟨i, hi⟩ := List.getElem?_of_mem hloS'
      cases i with
      | zero => rw [e] at hi; exact hi
      | succ i =>
        have hil := (List.getElem?_eq_some_iff.1 hi).1
        have h3 := List.pairwise_iff_getElem.1 hs' 0 (i + 1) (by omega) hil (by omega)
        rw [List.getElem?_eq_getElem hil] at hi
        rw [Option.some.inj hi] at h3
        exact absurd (bef_asym h h3) id
  obtain ⟨F', d1, d2, d3, d4, d5, d6, d7, d8⟩ := hull_facts hs' h2' hlo'
  have hmF : ∀ x ∈ F, x ∈ S' := fun x hx => by
    obtain ⟨i, hi⟩ := List.getElem?_of_mem hx
    have hil := (List.getElem?_eq_some_iff.1 hi).1
    rw [c2] at hil
    rcases Nat.lt_or_ge i (hulP S).length with h | h
    · rw [c3 i h] at hi
      exact (hmem x).2 (List.mem_of_getElem? hi)
    · obtain rfl : i = (hulP S).length := by omega
      rw [c5] at hi
      rw [← Option.some.inj hi]
      exact hloS'
  have hmF' : ∀ x ∈ F', x ∈ S := fun x hx => hsub x ((hmem x).1 (d8 x hx))
  have hsame := cyc_same c1 d1 (c4.trans d4.symm) hmF hmF'
  have hlen : (hulP S').length = (hulP S).length := by
    rcases Nat.lt_trichotomy (hulP S').length (hulP S).length with h | h | h
    · exact absurd ((hsame _ (by omega) (by omega)).trans d5) (c6 _ (by omega) h)
    · exact h
    · exact absurd ((hsame _ (by omega) (by omega)).symm.trans c5) (d6 _ (by omega) h)
  refine List.ext_getElem? fun i => ?_
  rcases Nat.lt_or_ge i (hulP S).length with h | h
  · rw [← c3 i h, ← d3 i (by omega)]
    exact (hsame i (by omega) (by omega)).symm
  · rw [List.getElem?_eq_none (by omega), List.getElem?_eq_none h]
end Go.Proofs.Ytaehfildhmljeaa

namespace Go.Proofs.Ytaehfildhmljeaa
open Go.RowKit Go.Shelf

theorem lXYc {L : List Pt} {i : Nat} (h : i < L.length) : L[i]? = some (lX L i, lY L i) := by
  unfold lX lY
  rw [List.getElem?_eq_getElem h]
  simp [List.getD, List.getElem?_eq_getElem h]
/-- Each corner and the next one are an edge. -/
theorem hull_next {S : List Pt} (hs : SrtL S) (h2 : 2 ≤ S.length) {i : Nat} (hi : i < (hulP S).length) :
    Edge S (lX (hulP S) i, lY (hulP S) i) (lX (hulP S) (nx (hulP S).length i), lY (hulP S) (nx (hulP S).length i)) := by
  obtain ⟨lo, hlo⟩ : ∃ lo, S[0]? = some lo := ⟨S[0]'(by omega), List.getElem?_eq_getElem _⟩
  obtain ⟨F, c1, c2, c3, c4, c5, c6, c7, c8⟩ := hull_facts hs h2 hlo
  have a1 := (c3 i hi).trans (lXYc hi)
  rcases Nat.lt_or_ge (i + 1) (hulP S).length with h | h
  · have e : nx (hulP S).length i = i + 1 := Nat.mod_eq_of_lt h
    rw [e]
    exact c1 i _ _ a1 ((c3 _ h).trans (lXYc h))
  · have e : nx (hulP S).length i = 0 := by
      unfold nx
      rw [show i + 1 = (hulP S).length by omega, Nat.mod_self]
    rw [e]
    refine c1 i _ _ a1 ?_
    rw [show i + 1 = (hulP S).length by omega, c5, ← c4, c3 0 (by omega)]
    exact lXYc (by omega)
theorem sgn_nonneg {x : Int} (h : 0 ≤ x) : 0 ≤ sgn x := by unfold sgn; split; omega; split <;> omega
theorem inside_hull {S : List Pt} (hs : SrtL S) (h2 : 2 ≤ S.length) {p : Pt} (hp : p ∈ S) (hc : corF (hulP S).length (lX (hulP S)) (lY (hulP S)) = true) (hv : vp p = true) (h3 : ¬ (hulP S).length ≤ 2) :
    insF (hulP S).length (lX (hulP S)) (lY (hulP S)) p.1 p.2 = true := by
  rw [insF_many hc hv h3]
  refine allB_of fun i hi => ?_
  have h := (hull_next hs h2 hi).2 p hp
  unfold sdB
  rw [decide_eq_true_eq]
  unfold sideF
  split
  · exact sgn_nonneg h.1
  · exact Int.le_refl _

theorem seg_box {a b p : Pt} (hne : a ≠ b) (hz : crs a b p = 0) (h1 : dsq a p ≤ dsq a b) (h2 : dsq b p ≤ dsq a b) :
    (min a.1 b.1 ≤ p.1 ∧ p.1 ≤ max a.1 b.1) ∧ (min a.2 b.2 ≤ p.2 ∧ p.2 ≤ max a.2 b.2) := by
  obtain ⟨a1, a2⟩ := a
  obtain ⟨b1, b2⟩ := b
  obtain ⟨p1, p2⟩ := p
  unfold crs at hz
  unfold dsq at h1 h2
  simp only at hz h1 h2 ⊢
  have hD : 0 < (b1 - a1) * (b1 - a1) + (b2 - a2) * (b2 - a2) := by
    by_cases h : b1 - a1 = 0
    · have h' : b2 - a2 ≠ 0 := fun e => hne (Prod.ext (by show a1 = b1; omega) (by show a2 = b2; omega))
      have := sq_pos h'
      rw [h]
      omega
    · have := sq_pos h
      have := sq_nonneg' (b2 - a2)
      omega
  have t1 := sq_nonneg' (p1 - a1)
  have t2 := sq_nonneg' (p2 - a2)
  have t3 := sq_nonneg' (p1 - b1)
  have t4 := sq_nonneg' (p2 - b2)
  obtain ⟨E, hE⟩ : ∃ E, E = (b1 - a1) * (p1 - a1) + (b2 - a2) * (p2 - a2) := ⟨_, rfl⟩
  obtain ⟨D, hDe⟩ : ∃ D, D = (b1 - a1) * (b1 - a1) + (b2 - a2) * (b2 - a2) := ⟨_, rfl⟩
  have e1 : (p1 - b1) * (p1 - b1) + (p2 - b2) * (p2 - b2) = D - 2 * E + ((p1 - a1) * (p1 - a1) + (p2 - a2) * (p2 - a2)) := by rw [hDe, hE]; grind
  have hE0 : 0 ≤ E := by omega
  have hE1 : E ≤ D := by omega
  have x1 : (D - E + E) * p1 = (D - E) * a1 + E * b1 := by rw [hDe, hE]; grind
  have x2 : (D - E + E) * p2 = (D - E) * a2 + E * b2 := by rw [hDe, hE]; grind
  exact ⟨comb (by omega) hE0 (by omega) x1, comb (by omega) hE0 (by omega) x2⟩

theorem blk_on {a b p : Pt} (ha : vp a = true) (hb : vp b = true) (hp : vp p = true) (hz : crs a b p = 0) (hx : min a.1 b.1 ≤ p.1 ∧ p.1 ≤ max a.1 b.1) (hy : min a.2 b.2 ≤ p.2 ∧ p.2 ≤ max a.2 b.2) : blkF a b p p = true := by
  have s1 : sideF a b p = 0 := by unfold sideF; rw [ha, hb, hp, hz]; rfl
  have s2 : sideF p p a = 0 := by
    unfold sideF; rw [ha, hp]
    have : crs p p a = 0 := by unfold crs; grind
    rw [this]; rfl
  unfold blkF
  rw [s1, s2, ha, hb, hp]
  unfold ovlF
  simp
  omega
theorem crs_ba (a b p : Pt) : crs b a p = - crs a b p := by unfold crs; grind
theorem dsq_ba (a b : Pt) : dsq b a = dsq a b := by unfold dsq; grind
theorem inside_two {S : List Pt} (hs : SrtL S) (h2 : 2 ≤ S.length) {p : Pt} (hp : p ∈ S) (hc : corF (hulP S).length (lX (hulP S)) (lY (hulP S)) = true) (hv : vp p = true) (h3 : (hulP S).length = 2) :
    insF (hulP S).length (lX (hulP S)) (lY (hulP S)) p.1 p.2 = true := by
  have e0 := hull_next hs h2 (i := 0) (by omega)
  have e1 := hull_next hs h2 (i := 1) (by omega)
  rw [insF_two (by omega) hc hv (by omega)]
  have hcor := fun i (hi : i < (hulP S).length) => (vp_iff (lX (hulP S) i, lY (hulP S) i)).2 (by
    unfold corF at hc
    rw [Bool.and_eq_true] at hc
    exact (vldB_iff _ _).1 (allB_true hc.2 i hi))
  rw [h3] at e0 e1 hcor ⊢
  have n0 : nx 2 0 = 1 := rfl
  have n1 : nx 2 1 = 0 := rfl
  rw [n0] at e0 ⊢
  rw [n1] at e1
  have va := hcor 0 (by omega)
  have vb := hcor 1 (by omega)
  obtain ⟨a, hae⟩ : ∃ a, a = (lX (hulP S) 0, lY (hulP S) 0) := ⟨_, rfl⟩
  obtain ⟨b, hbe⟩ : ∃ b, b = (lX (hulP S) 1, lY (hulP S) 1) := ⟨_, rfl⟩
  rw [← hae, ← hbe] at e0 e1 ⊢
  rw [← hae] at va
  rw [← hbe] at vb
  obtain ⟨g1, g2⟩ := e0.2 p hp
  obtain ⟨g3, g4⟩ := e1.2 p hp
  rw [crs_ba] at g3 g4
  have z : crs a b p = 0 := by omega
  have q1 : dsq a p ≤ dsq a b := by
    rcases g2 z with h | h
    · rw [h]; exact Int.le_refl _
    · omega
  have q2 : dsq b p ≤ dsq a b := by
    rcases g4 (by omega) with h | h
    · rw [h, dsq_ba]; exact Int.le_refl _
    · rw [dsq_ba a b] at h; omega
  obtain ⟨bx, by'⟩ := seg_box e0.1 z q1 q2
  exact blk_on va vb hv z bx by'
/-- Every point of a cloud lies inside its hull. -/
theorem inside_cel {C : Nat → Pt} {n i : Nat} (hi : i < n) (hc : corF (hulL (celL C n)).length (lX (hulL (celL C n))) (lY (hulL (celL C n))) = true) (hv : vp (C i) = true) :
    insF (hulL (celL C n)).length (lX (hulL (celL C n))) (lY (hulL (celL C n))) (C i).1 (C i).2 = true := by
  have hm : C i ∈ celL C n := mem_celL.2 ⟨i, hi, rfl⟩
  have hs := srt_celL (C := C) n
  by_cases h1 : (celL C n).length = 1
  · have e : hulL (celL C n) = celL C n := by unfold hulL; rw [if_pos h1]
    rw [e] at hc ⊢
    obtain ⟨x, hx⟩ : ∃ x, celL C n = [x] := List.length_eq_one_iff.1 h1
    rw [hx] at hm hc ⊢
    have hxp : C i = x := List.mem_singleton.1 hm
    rw [hxp] at hv ⊢
    rw [insF_two (by simp) hc hv (by simp)]
    have n0 : nx [x].length 0 = 0 := by unfold nx; simp
    rw [n0]
    exact blk_on (a := x) (b := x) hv hv hv (by unfold crs; grind) (by omega) (by omega)
  · have h2 : 2 ≤ (celL C n).length := by
      have := List.length_pos_of_mem hm
      omega
    have e : hulL (celL C n) = hulP (celL C n) := by unfold hulL; rw [if_neg h1]
    rw [e] at hc ⊢
    by_cases h3 : (hulP (celL C n)).length ≤ 2
    · obtain ⟨lo, hlo⟩ : ∃ lo, (celL C n)[0]? = some lo := ⟨(celL C n)[0]'(by omega), List.getElem?_eq_getElem _⟩
      obtain ⟨_, _, _, _, _, _, _, c7, _⟩ := hull_facts hs h2 hlo
      exact inside_two hs h2 hm hc hv (by omega)
    · exact inside_hull hs h2 hm hc hv h3
end Go.Proofs.Ytaehfildhmljeaa

namespace Go.Proofs.Ytaehfildhmljeaa
open Go.RowKit Go.Shelf

/-- Twice the triangles from the first corner. -/
def fan (X Y : Nat → Int) : Nat → Int
  | 0 => 0
  | k + 1 => fan X Y k + crs (X 0, Y 0) (X k, Y k) (X (k + 1), Y (k + 1))
theorem arS_fan (X Y : Nat → Int) (n : Nat) : ∀ k, k < n → arS X Y n k = fan X Y k + (X 0 * Y k - Y 0 * X k) := by
  intro k
  induction k with
  | zero => intro _; show (0 : Int) = 0 + (X 0 * Y 0 - Y 0 * X 0); grind
  | succ k ih =>
    intro hk
    show arS X Y n k + crK X Y n k = fan X Y k + crs (X 0, Y 0) (X k, Y k) (X (k + 1), Y (k + 1)) + (X 0 * Y (k + 1) - Y 0 * X (k + 1))
    rw [ih (by omega)]
    unfold crK crs
    have e : nx n k = k + 1 := Nat.mod_eq_of_lt hk
    rw [e]
    simp only
    grind
theorem arS_all (X Y : Nat → Int) (m : Nat) : arS X Y (m + 1) (m + 1) = fan X Y m := by
  show arS X Y (m + 1) m + crK X Y (m + 1) m = _
  rw [arS_fan X Y (m + 1) m (by omega)]
  unfold crK
  have e : nx (m + 1) m = 0 := by unfold nx; rw [Nat.mod_self]
  rw [e]
  grind
theorem fan_nonneg {X Y : Nat → Int} : ∀ k, (∀ i, i < k → 0 ≤ crs (X 0, Y 0) (X i, Y i) (X (i + 1), Y (i + 1))) → 0 ≤ fan X Y k := by
  intro k
  induction k with
  | zero => intro _; exact Int.le_refl _
  | succ k ih =>
    intro h
    have h1 := ih (fun i hi => h i (by omega))
    have h2 := h k (by omega)
    show 0 ≤ fan X Y k + _
    omega
theorem fan_pos {X Y : Nat → Int} {j : Nat} : ∀ k, j < k → (∀ i, i < k → 0 ≤ crs (X 0, Y 0) (X i, Y i) (X (i + 1), Y (i + 1))) → 0 < crs (X 0, Y 0) (X j, Y j) (X (j + 1), Y (j + 1)) → 0 < fan X Y k := by
  intro k
  induction k with
  | zero => intro h; omega
  | succ k ih =>
    intro hj h hp
    have h2 := h k (by omega)
    show 0 < fan X Y k + _
    rcases Nat.lt_or_ge j k with h3 | h3
    · have h1 := ih h3 (fun i hi => h i (by omega)) hp
      omega
    · obtain rfl : j = k := by omega
      have h1 := fan_nonneg (X := X) (Y := Y) j (fun i hi => h i (by omega))
      omega
theorem crs_cyc (a b c : Pt) : crs a b c = crs b c a := by unfold crs; grind
/-- A corner of a hull does not lie on the line of its neighbours, at the first corner. -/
theorem corner_strict {S : List Pt} {lo b c : Pt} (h1 : Edge S lo b) (h2 : Edge S b c) (hl : lo ∈ S) (hc : c ∈ S) (hb' : befB lo b = true) (hc' : befB lo c = true) (hne : c ≠ lo) : 0 < crs lo b c := by
  obtain ⟨g1, g2⟩ := h1.2 c hc
  obtain ⟨g3, g4⟩ := h2.2 lo hl
  rcases Int.lt_or_le 0 (crs lo b c) with h | h
  · exact h
  · have z : crs lo b c = 0 := by omega
    have z2 : crs b c lo = 0 := by rw [← crs_cyc]; exact z
    exfalso
    rcases g4 z2 with e | e
    · exact hne e.symm
    · rcases g2 z with e2 | e2
      · exact h2.1 e2.symm
      · by_cases ho : befB b c = true
        · have h5 := seg_lt (a := lo) (b := c) (q := b) hb' ho (by rw [crs_swap, z]; rfl)
          omega
        · have ho2 : befB c b = true := bef_tri (by simpa using ho) h2.1
          have h5 := seg_lt (a := ng b) (b := ng lo) (q := ng c) (by rw [bef_ng]; exact ho2) (by rw [bef_ng]; exact hc') (by
            rw [crs_ng, crs_cyc, crs_swap, z]; rfl)
          rw [dsq_ng, dsq_ng] at h5
          omega
/-- The area of a hull. -/
theorem area_pos {S : List Pt} (hs : SrtL S) (h2 : 2 ≤ S.length) (h3 : 3 ≤ (hulP S).length) : 0 < arS (lX (hulP S)) (lY (hulP S)) (hulP S).length (hulP S).length := by
  obtain ⟨lo, hlo⟩ : ∃ lo, S[0]? = some lo := ⟨S[0]'(by omega), List.getElem?_eq_getElem _⟩
  obtain ⟨F, c1, c2, c3, c4, c5, c6, c7, c8⟩ := hull_facts hs h2 hlo
  have hlow : ∀ q ∈ S, q = lo ∨ befB lo q = true := fun q hq => by
    obtain ⟨i, hi⟩ := List.getElem?_of_mem hq
    cases i with
    | zero => rw [hlo] at hi; exact .inl (Option.some.inj hi).symm
    | succ i =>
      have hil := (List.getElem?_eq_some_iff.1 hi).1
      have h := List.pairwise_iff_getElem.1 hs 0 (i + 1) (by omega) hil (by omega)
      rw [List.getElem?_eq_getElem (by omega)] at hlo
      rw [List.getElem?_eq_getElem hil] at hi
      rw [Option.some.inj hlo, Option.some.inj hi] at h
      exact .inr h
  have hin : ∀ i, i < (hulP S).length → (lX (hulP S) i, lY (hulP S) i) ∈ S := fun i hi => c8 _ (List.mem_of_getElem? ((c3 i hi).trans (lXYc hi)))
  have h0 : (lX (hulP S) 0, lY (hulP S) 0) = lo := by
    have := (c3 0 (by omega)).trans (lXYc (by omega))
    rw [c4] at this
    exact (Option.some.inj this).symm
  have hne : ∀ i, 0 < i → i < (hulP S).length → (lX (hulP S) i, lY (hulP S) i) ≠ lo := fun i hi hi' e => c6 i hi hi' ((c3 i hi').trans ((lXYc hi').trans (by rw [e])))
  obtain ⟨m, hm⟩ : ∃ m, (hulP S).length = m + 1 := ⟨(hulP S).length - 1, by omega⟩
  have hnx : ∀ i, i < m → nx (hulP S).length i = i + 1 := fun i hi => Nat.mod_eq_of_lt (by omega)
  have hge : ∀ i, i < m → 0 ≤ crs (lX (hulP S) 0, lY (hulP S) 0) (lX (hulP S) i, lY (hulP S) i) (lX (hulP S) (i + 1), lY (hulP S) (i + 1)) := fun i hi => by
    have h := (hull_next hs h2 (i := i) (by omega)).2 _ (hin 0 (by omega))
    rw [hnx i hi] at h
    rw [crs_cyc]
    exact h.1
  have e1 := hull_next hs h2 (i := 0) (by omega)
  have e2 := hull_next hs h2 (i := 1) (by omega)
  rw [hnx 0 (by omega), h0] at e1
  rw [hnx 1 (by omega)] at e2
  have hp := corner_strict e1 e2 (by rw [← h0]; exact hin 0 (by omega)) (hin 2 (by omega)) ((hlow _ (hin 1 (by omega))).resolve_left (hne 1 (by omega) (by omega))) ((hlow _ (hin 2 (by omega))).resolve_left (hne 2 (by omega) (by omega))) (hne 2 (by omega) (by omega))
  rw [hm, arS_all]
  refine fan_pos (j := 1) m (by omega) hge ?_
  rw [h0]
  exact hp
end Go.Proofs.Ytaehfildhmljeaa

namespace Go.Proofs.Ytaehfildhmljeaa
open Go.RowKit Go.Shelf

theorem pop_sub {p x : Pt} : ∀ {st : List Pt}, x ∈ popS p st → x ∈ st := by
  intro st
  induction st with
  | nil => intro h; exact h
  | cons b r ih =>
    cases r with
    | nil => intro h; exact h
    | cons a r =>
      rw [popS]
      split
      · exact fun h => h
      · exact fun h => List.mem_cons_of_mem _ (ih h)
theorem chS_sub {x : Pt} : ∀ {l st : List Pt}, x ∈ chS st l → x ∈ st ∨ x ∈ l := by
  intro l
  induction l with
  | nil => intro st h; exact .inl h
  | cons p r ih =>
    intro st h
    rw [chS] at h
    rcases ih h with h | h
    · rcases List.mem_cons.1 h with rfl | h
      · exact .inr (List.mem_cons_self ..)
      · exact .inl (pop_sub h)
    · exact .inr (List.mem_cons_of_mem _ h)
theorem hulL_sub {S : List Pt} {x : Pt} (h : x ∈ hulL S) : x ∈ S := by
  unfold hulL at h
  split at h
  · exact h
  · unfold hulP at h
    rcases List.mem_append.1 h with h | h
    · have h1 := List.mem_reverse.1 ((List.dropLast_sublist _).subset h)
      rcases chS_sub h1 with h | h
      · cases h
      · exact h
    · have h1 := List.mem_reverse.1 ((List.dropLast_sublist _).subset h)
      rcases chS_sub h1 with h | h
      · cases h
      · exact List.mem_reverse.1 h
theorem lXY2 {L : List Pt} {i : Nat} (h : i < L.length) : L[i]? = some (lX L i, lY L i) := by
  unfold lX lY
  rw [List.getElem?_eq_getElem h]
  simp [List.getD, List.getElem?_eq_getElem h]
theorem hull_at {C : Nat → Pt} {n i : Nat} (h : i < (hulL (celL C n)).length) : ∃ k, k < n ∧ C k = (lX (hulL (celL C n)) i, lY (hulL (celL C n)) i) :=
  mem_celL.1 (hulL_sub (List.mem_of_getElem? (lXY2 h)))
theorem hul_spots2 {W : World} {base : Nat} {v : Value} {L : List Pt} (h : W.ownsRow base 24 2 v L.length (ptV L)) : ∃ A c, v = .slice A L.length c ∧ Spots W A L.length (lX L) (lY L) := by
  rcases h.2 with ⟨hv, hn⟩ | ⟨g, c, cur, hv, _⟩
  · rw [hv]
    refine ⟨none, 0, ?_, fun h0 => ?_⟩
    · rw [hn]
    · omega
  · refine ⟨some ⟨g, 0, none⟩, c, hv, fun _ => ⟨g, 0, rfl, fun i hi => ?_⟩⟩
    obtain ⟨a, b⟩ := ptV_get L i _ (lXY2 hi)
    have h1 := h.cells (g := g) (by rw [hv]; rfl) _ _ a
    have h2 := h.cells (g := g) (by rw [hv]; rfl) _ _ b
    rw [add_plain] at h1 h2
    exact ⟨h1, by rw [Nat.add_assoc]; exact h2⟩
end Go.Proofs.Ytaehfildhmljeaa

namespace Go.Proofs.Ytaehfildhmljeaa
open Go.RowKit Go.Shelf

/-- Whether one of the first k meets p. -/
def hasC (p : Nat → Bool) : Nat → Bool
  | 0 => false
  | k + 1 => hasC p k || p k
theorem hasC_hit {p : Nat → Bool} {i n : Nat} (hi : i < n) (h : p i = true) : hasC p n = true := by
  induction n with
  | zero => omega
  | succ n ih =>
    unfold hasC
    by_cases he : i = n
    · subst he; rw [h]; simp
    · rw [ih (by omega)]; rfl
theorem back_cel (X Y : Nat → Int) (n : Nat) : celL (spF (fun i => X (n - 1 - i)) (fun i => Y (n - 1 - i))) n = celL (spF X Y) n :=
  celL_same fun x => ⟨fun ⟨i, hi, e⟩ => ⟨n - 1 - i, by omega, e⟩, fun ⟨i, hi, e⟩ => ⟨n - 1 - i, by omega, by
    show spF X Y (n - 1 - (n - 1 - i)) = x
    rw [show n - 1 - (n - 1 - i) = i by omega]
    exact e⟩⟩
theorem back_ok {n : Nat} {X Y V : Nat → Int} (h : chkF n X Y V = 0) : chkF n (fun i => X (n - 1 - i)) (fun i => Y (n - 1 - i)) (fun i => V (n - 1 - i)) = 0 := by
  have hn := chkF_le h
  unfold chkF
  rw [if_neg (by omega), if_pos]
  refine allB_of fun i hi => ?_
  obtain ⟨a, b, c, d⟩ := ok_at (k := n - 1 - i) h (by omega)
  unfold okP
  rw [Bool.and_eq_true, vldB_iff, Bool.and_eq_true, decide_eq_true_eq, decide_eq_true_eq]
  exact ⟨⟨a, b⟩, c, d⟩
theorem cor_ok {n : Nat} {X Y : Nat → Int} (h : corF n X Y = true) : chkF n X Y (fun _ => 0) = 0 := by
  obtain ⟨hn, hh⟩ := corF_at h
  unfold chkF
  rw [if_neg (by omega), if_pos]
  refine allB_of fun i hi => ?_
  unfold okP
  rw [Bool.and_eq_true, vldB_iff]
  exact ⟨hh i hi, by simp⟩
theorem mem_row (H : List Pt) (x : Pt) : (∃ i, i < H.length ∧ spF (lX H) (lY H) i = x) ↔ x ∈ H := by
  constructor
  · rintro ⟨i, hi, rfl⟩
    exact List.mem_of_getElem? (lXY2 hi)
  · intro h
    obtain ⟨i, hi⟩ := List.getElem?_of_mem h
    have hl := (List.getElem?_eq_some_iff.1 hi).1
    rw [lXY2 hl] at hi
    exact ⟨i, hl, Option.some.inj hi⟩
theorem hulL_none {S : List Pt} (h : S.length = 0) : hulL S = [] := by
  obtain rfl := List.eq_nil_of_length_eq_zero h
  rfl
theorem hulL_two {S : List Pt} (h : 2 ≤ S.length) : hulL S = hulP S := by
  unfold hulL
  rw [if_neg (by omega)]
theorem cor_hull {C : Nat → Pt} {n : Nat} {H : List Pt} (hH : H = hulL (celL C n)) : hulL (celL (spF (lX H) (lY H)) H.length) = H := by
  have hs := srt_celL (C := C) n
  generalize celL C n = S at *
  have hs' := srt_celL (C := spF (lX H) (lY H)) H.length
  have hm : ∀ x, x ∈ celL (spF (lX H) (lY H)) H.length ↔ x ∈ H := fun x => mem_celL.trans (mem_row H x)
  have hl' := celL_len (C := spF (lX H) (lY H)) H.length
  generalize celL (spF (lX H) (lY H)) H.length = S' at *
  by_cases h0 : S.length = 0
  · rw [hulL_none h0] at hH
    rw [hH] at hl' ⊢
    exact hulL_none (by simpa using hl')
  · by_cases h1 : S.length = 1
    · have e : H = S := by rw [hH]; unfold hulL; rw [if_pos h1]
      have e2 : S' = S := srt_uniq hs' hs (fun x => by rw [hm, e])
      rw [e2, ← hH]
    · have h2 : 2 ≤ S.length := by omega
      rw [hulL_two h2] at hH
      have hi := hull_idem hs hs' h2 (fun x => by rw [hm, hH])
      obtain ⟨F, _, _, _, _, _, _, c7, _⟩ := hull_facts hs h2 (lo := S[0]'(by omega)) (List.getElem?_eq_getElem _)
      by_cases h3 : S'.length = 1
      · obtain ⟨p, rfl⟩ := List.length_eq_one_iff.1 h3
        rw [← hi] at c7
        have : hulP [p] = [] := rfl
        rw [this] at c7
        simp at c7
      · unfold hulL
        rw [if_neg h3, hi, hH]
theorem hull_pos {C : Nat → Pt} {n : Nat} {H : List Pt} (hH : H = hulL (celL C n)) : 0 < H.length ↔ 0 < n := by
  constructor
  · intro h
    by_cases h0 : n = 0
    · rw [h0] at hH
      rw [hH, hulL_none (by rfl)] at h
      simp at h
    · omega
  · intro h
    obtain ⟨F, _, _, _, h1, _⟩ := round_list (C := C) h
    rw [hH]
    omega
theorem hull_areaS {C : Nat → Pt} {n : Nat} {H : List Pt} (hH : H = hulL (celL C n)) (hc : corF H.length (lX H) (lY H) = true) (h3 : 3 ≤ H.length) : 0 < areaF H.length (lX H) (lY H) := by
  rw [areaF_yes hc h3]
  have hs := srt_celL (C := C) n
  generalize celL C n = S at *
  have h2 : 2 ≤ S.length := by
    have : ¬ S.length = 0 := fun h => by rw [hulL_none h] at hH; rw [hH] at h3; simp at h3
    have : ¬ S.length = 1 := fun h => by unfold hulL at hH; rw [if_pos h] at hH; rw [hH] at h3; omega
    omega
  rw [hulL_two h2] at hH
  subst hH
  exact area_pos hs h2 h3
end Go.Proofs.Ytaehfildhmljeaa

namespace Go.Proofs.Ytaehfildhmljeaa
open Go.RowKit Go.Shelf

set_option maxRecDepth 100000 in
set_option maxHeartbeats 16000000 in
theorem ccovers_walk (A : Option Addr) (q1 cap1 : Nat) (S : Nat → Int) (sn : Int) (w : World) (hs : Nums w A q1 S) :
    Calls Try.prog 12 #[.slice A q1 cap1, .int .i64 sn] w fun e w' => e = .returned (.bool true) ∧ Below w.heap.size w w' := by
  obtain ⟨t, ht⟩ : ∃ t, t = sn % 3000 := ⟨_, rfl⟩
  have HM1 := Lib.hid (fun W => mod64_any sn 3000 W (by omega) (by omega))
  rw [← ht] at HM1
  have ht' : 0 ≤ t ∧ t ≤ 2999 := by omega
  clear ht
  have wt : IntKind.i64.wrap (1 + t) = 1 + t := IntWalk.i64_in _ (by omega)
  obtain ⟨n, hn⟩ : ∃ n, n = min q1 40 := ⟨_, rfl⟩
  have hn40 : n ≤ 40 := by omega
  have HKn := Lib.hid (fun W (h : Nums W A q1 S) => kcloud_any A q1 cap1 S (1 + t) (by omega) (by omega) W h)
  have hok := kcl_ok (span := 1 + t) (by omega) (by omega) S (n := n) (by omega)
  rw [← hn] at HKn
  have hbX : ∀ i, -3000 ≤ (fun i => kX (1 + t) (S i)) i ∧ (fun i => kX (1 + t) (S i)) i ≤ 3000 := fun i => by have := kX_bd (span := 1 + t) (by omega) (S i); simp only; omega
  have hbY : ∀ i, -3000 ≤ (fun i => kY (1 + t) (S i)) i ∧ (fun i => kY (1 + t) (S i)) i ≤ 3000 := fun i => by have := kY_bd (span := 1 + t) (by omega) (S i); simp only; omega
  generalize (fun i => kX (1 + t) (S i)) = X at *
  generalize (fun i => kY (1 + t) (S i)) = Y at *
  generalize (fun i => kV (S i)) = V at *
  clear hn
  have HSn := Lib.hid hs
  clear hs
  have HH1 := Lib.hid (fun B c W (h : Cloud W B n X Y V) => hull_any B n c X Y V W h)
  unfold HulAll at HH1
  rw [if_pos hok] at HH1
  have hln : (hulL (celL (spF X Y) n)).length ≤ 1000 := by
    have h2 := hulL_len (celL (spF X Y) n)
    have h3 := celL_len (C := spF X Y) n
    omega
  have hcor : corF (hulL (celL (spF X Y) n)).length (lX (hulL (celL (spF X Y) n))) (lY (hulL (celL (spF X Y) n))) = true := by
    unfold corF
    rw [decide_eq_true hln, Bool.true_and]
    refine allB_of fun i hi => ?_
    obtain ⟨k, _, hk⟩ := hull_at hi
    have e1 : X k = lX (hulL (celL (spF X Y) n)) i := congrArg Prod.fst hk
    have e2 : Y k = lY (hulL (celL (spF X Y) n)) i := congrArg Prod.snd hk
    have := hbX k
    have := hbY k
    exact (vldB_iff _ _).2 ⟨by unfold okc; omega, by unfold okc; omega⟩
  have HIn : Hid (∀ i, i < n → insF (hulL (celL (spF X Y) n)).length (lX (hulL (celL (spF X Y) n))) (lY (hulL (celL (spF X Y) n))) (X i) (Y i) = true) := Lib.hid (fun i hi =>
    inside_cel (C := spF X Y) hi hcor ((vp_iff _).2 ⟨by have := hbX i; unfold okc spF; simp only; omega, by have := hbY i; unfold okc spF; simp only; omega⟩))
  have HCor := Lib.hid hcor
  obtain ⟨H, hH⟩ : ∃ H, H = hulL (celL (spF X Y) n) := ⟨_, rfl⟩
  rw [← hH] at HH1 hln HIn HCor
  have HHe := Lib.hid hH
  clear hH hcor
  have HIs := Lib.hid (fun i (hi : i < n) B c W (h : Spots W B H.length (lX H) (lY H)) => inside_any B H.length c (lX H) (lY H) (X i) (Y i) true W h (by omega) (Lib.hid (HIn.out i hi)))
  have hB := Below.refl w.heap.size w
  obtain ⟨i0_, hi0, hz0, hz1, hz2⟩ := info_parts Try.info69
  have hI0 := Lib.hid hi0
  have hZ0 := Lib.hid hz0
  have hZ1 := Lib.hid hz1
  have hZ2 := Lib.hid hz2
  clear hi0 hz0 hz1 hz2
  have wn : IntKind.i64.wrap ((n : Int) - 1) = (n : Int) - 1 := IntWalk.i64_in _ (by omega)
  go_enter Try.func12, Try.ntmps12
  go_upto_region 4 with (first
    | (go_at_call 55; (with_reducible refine (HM1.out _).mono ?_); rintro e w1 ⟨rfl, rfl⟩)
    | (go_at_call 54; (with_reducible refine (HKn.out _ HSn.out).mono ?_); rintro e w2 ⟨B1, c1, rfl, hle1, hC1, hb2⟩; replace hB := below_step hB hb2; have L2 := Lib.hid hC1; clear hC1 hle1)
    | (go_at_call 42; (with_reducible refine (HH1.out B1 c1 _ L2.out).mono ?_); rintro e w3 ⟨v3, ba3, rfl, ho3, hb3⟩; obtain ⟨A3, k3, rfl, hS3⟩ := hul_spots2 ho3; replace hB := below_step hB hb3; have L3 := Lib.hid (L2.out.below hb3); have S3 := Lib.hid hS3; clear ho3 hS3))
  have K3 := Lib.hid hB
  clear hB hb2 hb3 L2 HM1 HKn HSn HH1 wt
  go_wp2
  go_loopw [7, 9] (fun o i wr => ∃ (j : Nat) (v : Value), j ≤ n ∧ o = v ∧ i = .int .i64 ((n : Int) - 1 - (j : Int)) ∧ Hid (wr.ownsRow w3.heap.size 69 3 v j (cellsP (fun i => X (n - 1 - i)) (fun i => Y (n - 1 - i)) (fun i => V (n - 1 - i)) j)) ∧ Hid (Below w3.heap.size w3 wr)) (fun _ i _ => (intOf i + 1).toNat)
  case atStart => exact ⟨0, .slice none 0 0, Nat.zero_le _, rfl, by simp, Lib.hid (World.ownsRow_nil _ _ _ _), Lib.hid (Below.refl _ _)⟩
  case round =>
    obtain ⟨j, v, hj, rfl, rfl, HO, HB⟩ := hrel
    by_cases hlt : j < n
    · obtain ⟨k, hk⟩ : ∃ k, k = n - 1 - j := ⟨_, rfl⟩
      have hkn : k < n := by omega
      have e : (n : Int) - 1 - (j : Int) = (k : Int) := by omega
      have e' : (n : Int) - 1 - ((j + 1 : Nat) : Int) = (k : Int) - 1 := by omega
      have HE' := Lib.hid e'
      rw [e]
      have hst : Hid (cellsP (fun i => X (n - 1 - i)) (fun i => Y (n - 1 - i)) (fun i => V (n - 1 - i)) (j + 1) = cellsP (fun i => X (n - 1 - i)) (fun i => Y (n - 1 - i)) (fun i => V (n - 1 - i)) j ++ [.int .i64 (X k), .int .i64 (Y k), .int .i64 (V k)]) := Lib.hid (by rw [hk]; rfl)
      have i0 : (0 : Int) ≤ (k : Int) := Int.natCast_nonneg _
      have i1 : (k : Int) < (n : Int) := by omega
      have wk : IntKind.i64.wrap ((k : Int) - 1) = (k : Int) - 1 := IntWalk.i64_in _ (by omega)
      obtain ⟨b, off, e2, hp⟩ := L3.out (by omega)
      subst e2
      have HP := Lib.hid hp
      have hbl := hp.lt (by omega)
      obtain ⟨c0, c1', c2⟩ := (hp.below HB.out hbl) k hkn
      have l0 : b < wr.heap.size := Nat.lt_of_lt_of_le hbl HB.out.size
      obtain ⟨Av, cv, hv⟩ := own_form HO.out
      subst hv
      obtain ⟨cs, hcs⟩ : ∃ cs, cs = cellsP (fun i => X (n - 1 - i)) (fun i => Y (n - 1 - i)) (fun i => V (n - 1 - i)) j := ⟨_, rfl⟩
      rw [← hcs] at HO hst
      have hsz := HB.out.size
      clear e e' hk hp hcs
      go_wp2_with (first
        | (at_builtin; refine wpList_append_lies _ rfl _ _ 22 rfl w3.heap.size 69 i0_ _ 3 24 Try.underlying22 hI0.out hZ0.out hZ1.out hZ2.out rfl (by decide) (.slice Av j cv) j cs rfl (HO.out.alloc _) ⟨wr.heap.size, 0, none⟩ 1 1 [.int .i64 (X k), .int .i64 (Y k), .int .i64 (V k)] rfl rfl (World.news_of_block (cs := #[.int .i64 (X k), .int .i64 (Y k), .int .i64 (V k)]) (t := 69) (fr := (0, 0)) (heap_alloc_new wr _)) (by simp [Value.oneCell']) (by decide) (by unfold maxLen; omega) (by omega) (by simp; omega) _ rfl ?_; intro gg cap1 w7 hown7 hgrow hat hlt7; have HB7 : Hid (Below w3.heap.size w3 w7) := Lib.hid ((HB.out.alloc hsz (.cells #[.int .i64 (X k), .int .i64 (Y k), .int .i64 (V k)] 69)).grown hgrow (by simp; omega) (fun g e => by have := (HO.out.lt _ e).1; omega)); obtain ⟨k0, k1, k2⟩ := (HP.out.below HB7.out hbl) k hkn; have l7 : b < w7.heap.size := Nat.lt_of_lt_of_le hbl HB7.out.size; have HO7 := Lib.hid hown7; have S7 := Lib.hid (S3.out.below HB7.out); clear hown7 hat hgrow)
        | (go_at_call 57; (with_reducible refine (lspot_any _ _ _ _).mono ?_); rintro e w8 ⟨rfl, hb8⟩)
        | (go_at_call 47; (with_reducible refine (HIs.out k hkn A3 k3 _ (S7.out.below hb8)).mono ?_); rintro e w9 ⟨rfl, hb9⟩))
      go_roundw
      case rel => exact ⟨j + 1, _, by omega, rfl, by rw [HE'.out], Lib.hid (by rw [hst.out]; exact HO7.out.kept (grown_of_below (below_step hb8 hb9)) (Classical.em _)), Lib.hid (HB7.out.trans ((below_step hb8 hb9).mono HB7.out.size))⟩
      case measure => first | (simp [intOf]; done) | (simp [intOf]; omega)
    · obtain rfl : j = n := by omega
      have e : (j : Int) - 1 - (j : Int) = -1 := by omega
      rw [e]
      have RB := Lib.hid (own_form HO.out)
      obtain ⟨A7, c7, hv7⟩ := own_form HO.out
      subst hv7
      have LB := Lib.hid (own_cloud HO.out)
      clear e
      obtain ⟨wa, rfl⟩ : ∃ x : World, x = wr := ⟨_, rfl⟩
      have KA := Lib.hid (K3.out.trans (HB.out.mono K3.out.size))
      have LA := Lib.hid (L3.out.below HB.out)
      have SA := Lib.hid (S3.out.below HB.out)
      clear K3 L3 S3 HB RB
      go_wp2
      go_loopw [8, 10] (fun o iv wr => ∃ (i : Nat) (v : Value), i ≤ H.length ∧ o = v ∧ iv = .int .i64 (i : Int) ∧ Hid (wr.ownsRow wa.heap.size 69 3 v i (cellsP (lX H) (lY H) (fun _ => 0) i)) ∧ Hid (Below wa.heap.size wa wr)) (fun _ iv _ => H.length - (intOf iv).toNat)
      case atStart => exact ⟨0, .slice none 0 0, Nat.zero_le _, rfl, rfl, Lib.hid (World.ownsRow_nil _ _ _ _), Lib.hid (Below.refl _ _)⟩
      case round =>
        obtain ⟨i, v, hi, rfl, rfl, HO2, HBi⟩ := hrel
        have i0 : (0 : Int) ≤ (i : Int) := Int.natCast_nonneg _
        by_cases hlt2 : i < H.length
        · have i1 : (i : Int) < ((H.length : Nat) : Int) := by omega
          obtain ⟨b3, o3, e3, p3⟩ := SA.out (by omega)
          subst e3
          have g3 := p3.lt (by omega)
          obtain ⟨c0, c1'⟩ := (p3.below HBi.out g3) i hlt2
          have l3 : b3 < wr.heap.size := Nat.lt_of_lt_of_le g3 HBi.out.size
          have P3 := Lib.hid p3
          obtain ⟨Av, cv, hv⟩ := own_form HO2.out
          subst hv
          have hst : Hid (cellsP (lX H) (lY H) (fun _ => 0) (i + 1) = cellsP (lX H) (lY H) (fun _ => 0) i ++ [.int .i64 (lX H i), .int .i64 (lY H i), .int .i64 0]) := Lib.hid rfl
          obtain ⟨cs, hcs⟩ : ∃ cs, cs = cellsP (lX H) (lY H) (fun _ => 0) i := ⟨_, rfl⟩
          rw [← hcs] at HO2 hst
          obtain ⟨x, hx⟩ : ∃ x, x = lX H i := ⟨_, rfl⟩
          obtain ⟨y, hy⟩ : ∃ y, y = lY H i := ⟨_, rfl⟩
          rw [← hx] at c0 hst
          rw [← hy] at c1' hst
          have HXY : Hid (x = lX H i ∧ y = lY H i) := Lib.hid ⟨hx, hy⟩
          have hsz := HBi.out.size
          have HO3 : Hid (wr.drew.ownsRow wa.heap.size 69 3 (.slice Av i cv) i cs) := HO2
          have HKp : Hid (∀ W, Below wa.heap.size wa W → W.cell? ⟨b3, o3 + i * 2, none⟩ = some (.int .i64 x) ∧ W.cell? ⟨b3, o3 + i * 2 + 1, none⟩ = some (.int .i64 y)) := Lib.hid (fun W h => by
            rw [hx, hy]
            exact (p3.below h g3) i hlt2)
          clear hcs hx hy p3
          go_upto_region 13 with fail
          go_cut [8] from 48 to 61 (fun v w' => ∃ g c, v = .slice (some ⟨g, 0, none⟩) (i + 1) c ∧ Hid (w'.ownsRow wa.heap.size 69 3 v (i + 1) (cs ++ [.int .i64 x, .int .i64 y, .int .i64 0])) ∧ Hid (Below wa.heap.size wa w'))
          case first =>
            go_region_held3 (fun W => W.cell? ⟨b3, o3 + i * 2, none⟩ = some (.int .i64 x) ∧ W.cell? ⟨b3, o3 + i * 2 + 1, none⟩ = some (.int .i64 y)) (first | exact HKp.out _ HB7 | go_keep)
              ((refine step_append_lies _ (by rfl) _ _ 22 (by rfl) wa.heap.size 69 i0_ _ 3 24 Try.underlying22 hI0.out hZ0.out hZ1.out hZ2.out rfl (by decide) (.slice Av i cv) i cs (by rfl) (HO3.out.alloc _) ⟨wr.heap.size, 0, none⟩ 1 1 [.int .i64 x, .int .i64 y, .int .i64 0] (by rfl) (by rfl) (World.news_of_block (cs := #[.int .i64 x, .int .i64 y, .int .i64 0]) (t := 69) (fr := (0, 0)) (heap_alloc_new _ _)) (by simp [Value.oneCell']) (by decide) (by unfold maxLen; omega) (by omega) (by simp; omega) _ rfl ?_; intro gg cap1 w7 hown7 hgrow hat hlt7; have HB7 : Below wa.heap.size wa w7 := ((HBi.out.alloc hsz _).drew.grown hgrow (by simp; omega) (fun b e => by have := (HO2.out.lt b e).1; omega))))
            all_goals go_wp2
            all_goals go_meet
            all_goals exact ⟨gg, cap1, rfl, Lib.hid hown7, Lib.hid HB7⟩
          case rest =>
            obtain ⟨wb, rfl⟩ : ∃ x : World, x = wc := ⟨_, rfl⟩
            obtain ⟨g, c, rfl, HO4, HB4⟩ := hcut
            clear HO3 HO2 HBi
            go_wp2
            go_loopw [11, 12] (fun fv kv wr => ∃ (k : Nat) (bf : Bool), k ≤ j ∧ fv = .bool bf ∧ kv = .int .i64 (k : Int) ∧ Hid (hasC (fun k => decide (X k = x) && decide (Y k = y)) k = bf) ∧ Hid (Below wb.heap.size wb wr)) (fun _ kv _ => j - (intOf kv).toNat)
            case atStart => exact ⟨0, false, Nat.zero_le _, rfl, rfl, Lib.hid rfl, Lib.hid (Below.refl _ _)⟩
            case round =>
              obtain ⟨k, bf, hk, rfl, rfl, HF, HBk⟩ := hrel
              have q0 : (0 : Int) ≤ (k : Int) := Int.natCast_nonneg _
              by_cases hlt3 : k < j
              · have q1 : (k : Int) < (j : Int) := by omega
                have HBw := Lib.hid (HB4.out.trans (HBk.out.mono HB4.out.size))
                obtain ⟨b, off, e2, hp⟩ := LA.out (by omega)
                subst e2
                have hbl := hp.lt (by omega)
                obtain ⟨d0, d1, d2⟩ := (hp.below HBw.out hbl) k hlt3
                obtain ⟨d3, d4⟩ := HKp.out _ HBw.out
                have l0 : b < wr.heap.size := Nat.lt_of_lt_of_le hbl HBw.out.size
                have l4 : b3 < wr.heap.size := Nat.lt_of_lt_of_le g3 HBw.out.size
                obtain ⟨xk, hxk⟩ : ∃ z, z = X k := ⟨_, rfl⟩
                obtain ⟨yk, hyk⟩ : ∃ z, z = Y k := ⟨_, rfl⟩
                obtain ⟨vk, hvk⟩ : ∃ z, z = V k := ⟨_, rfl⟩
                have HF1 : Hid (hasC (fun k => decide (X k = x) && decide (Y k = y)) (k + 1) = (bf || (decide (xk = x) && decide (yk = y)))) := Lib.hid (by rw [hasC, HF.out, hxk, hyk])
                rw [← hxk] at d0
                rw [← hyk] at d1
                rw [← hvk] at d2
                clear hxk hyk hvk hp
                have f0 : ∀ n os, (grd wr n os).cell? ⟨b, off + k * 3, none⟩ = some (.int .i64 xk) := cell_grd d0
                have f1 : ∀ n os, (grd wr n os).cell? ⟨b, off + k * 3 + 1, none⟩ = some (.int .i64 yk) := cell_grd d1
                have f2 : ∀ n os, (grd wr n os).cell? ⟨b, off + k * 3 + 2, none⟩ = some (.int .i64 vk) := cell_grd d2
                have f3 : ∀ n os, (grd wr n os).cell? ⟨b3, o3 + i * 2, none⟩ = some (.int .i64 x) := cell_grd d3
                have f4 : ∀ n os, (grd wr n os).cell? ⟨b3, o3 + i * 2 + 1, none⟩ = some (.int .i64 y) := cell_grd d4
                clear d0 d1 d2 d3 d4 HF
                cases bf with
                | true =>
                  have HF2 : Hid (hasC (fun k => decide (X k = x) && decide (Y k = y)) (k + 1) = true) := Lib.hid (by rw [HF1.out]; rfl)
                  go_wp2_with fail
                  refine wp_region_quiet_grd (by kernel_rfl) (by kernel_rfl) ?_
                  repeat (go_big_quiet_step (first | (go_at_call 57; with_reducible exact Calls.grd_of (lspot_any _ _ _ _))))
                  refine wpQuiet_nil ?_
                  intro _ hw'
                  obtain ⟨⟨nq, osq⟩, rfl⟩ := hw'
                  have Hq := Lib.hid (below_grd wr nq osq)
                  generalize grd wr nq osq = wq at *
                  clear f0 f1 f2 f3 f4
                  go_wp2
                  go_roundw
                  case rel => exact ⟨k + 1, _, by omega, rfl, by go_num, HF2, Lib.hid (below_step HBk.out Hq.out)⟩
                  case measure => first | (simp [intOf]; done) | (simp [intOf]; omega)
                | false =>
                  by_cases ex : xk = x
                  · by_cases ey : yk = y
                    · have HF2 : Hid (hasC (fun k => decide (X k = x) && decide (Y k = y)) (k + 1) = true) := Lib.hid (by rw [HF1.out, decide_eq_true ex, decide_eq_true ey]; rfl)
                      have z1 : ((xk : Int) == x) = true := by simp [ex]
                      have z2 : ((yk : Int) == y) = true := by simp [ey]
                      clear ex ey HF1
                      go_wp2_with fail
                      refine wp_region_quiet_grd (by kernel_rfl) (by kernel_rfl) ?_
                      repeat (go_big_quiet_step (first | (go_at_call 57; with_reducible exact Calls.grd_of (lspot_any _ _ _ _))))
                      refine wpQuiet_nil ?_
                      intro _ hw'
                      obtain ⟨⟨nq, osq⟩, rfl⟩ := hw'
                      have Hq := Lib.hid (below_grd wr nq osq)
                      generalize grd wr nq osq = wq at *
                      clear f0 f1 f2 f3 f4
                      go_wp2
                      go_roundw
                      case rel => exact ⟨k + 1, _, by omega, rfl, by go_num, HF2, Lib.hid (below_step HBk.out Hq.out)⟩
                      case measure => first | (simp [intOf]; done) | (simp [intOf]; omega)
                    · have HF2 : Hid (hasC (fun k => decide (X k = x) && decide (Y k = y)) (k + 1) = false) := Lib.hid (by rw [HF1.out, decide_eq_false ey]; simp)
                      have z1 : ((xk : Int) == x) = true := by simp [ex]
                      have z2 : ((yk : Int) == y) = false := by simp [ey]
                      clear ex ey HF1
                      go_wp2_with fail
                      refine wp_region_quiet_grd (by kernel_rfl) (by kernel_rfl) ?_
                      repeat (go_big_quiet_step (first | (go_at_call 57; with_reducible exact Calls.grd_of (lspot_any _ _ _ _))))
                      refine wpQuiet_nil ?_
                      intro _ hw'
                      obtain ⟨⟨nq, osq⟩, rfl⟩ := hw'
                      have Hq := Lib.hid (below_grd wr nq osq)
                      generalize grd wr nq osq = wq at *
                      clear f0 f1 f2 f3 f4
                      go_wp2
                      go_roundw
                      case rel => exact ⟨k + 1, _, by omega, rfl, by go_num, HF2, Lib.hid (below_step HBk.out Hq.out)⟩
                      case measure => first | (simp [intOf]; done) | (simp [intOf]; omega)
                  · have HF2 : Hid (hasC (fun k => decide (X k = x) && decide (Y k = y)) (k + 1) = false) := Lib.hid (by rw [HF1.out, decide_eq_false ex]; rfl)
                    have z1 : ((xk : Int) == x) = false := by simp [ex]
                    clear ex HF1
                    go_wp2_with fail
                    refine wp_region_quiet_grd (by kernel_rfl) (by kernel_rfl) ?_
                    repeat (go_big_quiet_step (first | (go_at_call 57; with_reducible exact Calls.grd_of (lspot_any _ _ _ _))))
                    refine wpQuiet_nil ?_
                    intro _ hw'
                    obtain ⟨⟨nq, osq⟩, rfl⟩ := hw'
                    have Hq := Lib.hid (below_grd wr nq osq)
                    generalize grd wr nq osq = wq at *
                    clear f0 f1 f2 f3 f4
                    go_wp2
                    go_roundw
                    case rel => exact ⟨k + 1, _, by omega, rfl, by go_num, HF2, Lib.hid (below_step HBk.out Hq.out)⟩
                    case measure => first | (simp [intOf]; done) | (simp [intOf]; omega)
              · have ekj : k = j := by omega
                rw [ekj] at HF ⊢
                have q1 : ¬ (j : Int) < (j : Int) := by omega
                have hbf : bf = true := by
                  rw [← HF.out]
                  obtain ⟨m, hm, e⟩ := hull_at (C := spF X Y) (n := j) (i := i) (by rw [← HHe.out]; exact hlt2)
                  rw [← HHe.out] at e
                  have e1 : X m = lX H i := congrArg Prod.fst e
                  have e2 : Y m = lY H i := congrArg Prod.snd e
                  exact hasC_hit hm (by show (decide (X m = x) && decide (Y m = y)) = true; rw [HXY.out.1, HXY.out.2, e1, e2]; simp)
                rw [hbf]
                clear hbf HF ekj
                go_wp2
                go_roundw
                case rel => exact ⟨i + 1, _, by omega, rfl, by go_num, Lib.hid (by rw [hst.out]; exact HO4.out.kept (grown_of_below HBk.out) (Classical.em _)), Lib.hid (HB4.out.trans (HBk.out.mono HB4.out.size))⟩
                case measure => first | (simp [intOf]; done) | (simp [intOf]; omega)
        · obtain ⟨m, hm⟩ : ∃ m, m = H.length := ⟨_, rfl⟩
          obtain rfl : i = H.length := by omega
          obtain ⟨A8, c8, hv8⟩ := own_form HO2.out
          subst hv8
          have CB := Lib.hid (own_cloud HO2.out).2
          have BB := Lib.hid (LB.out.2.below HBi.out)
          have SB := Lib.hid (SA.out.below HBi.out)
          have KB := Lib.hid (KA.out.trans (HBi.out.mono KA.out.size))
          have HHb := Lib.hid (fun W (h : Cloud W A7 j (fun i => X (j - 1 - i)) (fun i => Y (j - 1 - i)) (fun i => V (j - 1 - i))) => hull_any A7 j c7 _ _ _ W h)
          unfold HulAll at HHb
          rw [if_pos (back_ok hok), back_cel, ← HHe.out] at HHb
          have HHc := Lib.hid (fun W (h : Cloud W A8 H.length (lX H) (lY H) (fun _ => 0)) => hull_any A8 H.length c8 _ _ _ W h)
          unfold HulAll at HHc
          rw [if_pos (cor_ok HCor.out), cor_hull HHe.out] at HHc
          have HSs := Lib.hid (fun W A c (h : Spots W A H.length (lX H) (lY H)) (h2 : Spots W A3 H.length (lX H) (lY H)) => same_spots A A3 H.length c k3 (lX H) (lY H) W (by omega) h h2)
          have HAr := Lib.hid (fun W (h2 : Spots W A3 H.length (lX H) (lY H)) => area_any A3 H.length k3 (lX H) (lY H) _ W h2 (by omega) (Lib.hid rfl))
          have hpos := hull_pos HHe.out
          have hps : 3 ≤ H.length → 0 < areaF H.length (lX H) (lY H) := fun h => hull_areaS HHe.out HCor.out h
          clear HO2 HBi KA LA SA LB HIs HHe HCor hm hi
          generalize areaF H.length (lX H) (lY H) = ar at *
          by_cases h0 : 0 < H.length
          · have j0 : (0 : Int) < (j : Int) := by omega
            have m0 : (0 : Int) < ((H.length : Nat) : Int) := by omega
            by_cases h3 : H.length < 3
            · have m3 : ((H.length : Nat) : Int) < 3 := by omega
              clear hpos hps hok hbX hbY h0 h3 HAr
              go_wp2_with (first
                | (go_at_call 42; (with_reducible refine (HHb.out _ BB.out).mono ?_); rintro e wx ⟨vx, bx, rfl, hox, hbx⟩; obtain ⟨Ax, cx, rfl, hSx⟩ := hul_spots2 hox; have SX := Lib.hid hSx; have SB1 := Lib.hid (SB.out.below hbx); have CB1 := Lib.hid (CB.out.below hbx); have KB1 := Lib.hid (below_step KB.out hbx); clear hox hSx hbx)
                | (go_at_call 44; (with_reducible refine (HSs.out _ Ax cx SX.out SB1.out).mono ?_); rintro e wy ⟨rfl, hby⟩; have SB2 := Lib.hid (SB1.out.below hby); have CB2 := Lib.hid (CB1.out.below hby); have KB2 := Lib.hid (below_step KB1.out hby); clear hby)
                | (go_at_call 42; (with_reducible refine (HHc.out _ CB2.out).mono ?_); rintro e wz ⟨vz, bz, rfl, hoz, hbz⟩; obtain ⟨Az, cz, rfl, hSz⟩ := hul_spots2 hoz; have SZ := Lib.hid hSz; have SB3 := Lib.hid (SB2.out.below hbz); have KB3 := Lib.hid (below_step KB2.out hbz); clear hoz hSz hbz)
                | (go_at_call 44; (with_reducible refine (HSs.out _ Az cz SZ.out SB3.out).mono ?_); rintro e wu ⟨rfl, hbu⟩; have SB4 := Lib.hid (SB3.out.below hbu); have KB4 := Lib.hid (below_step KB3.out hbu); clear hbu)
                | (go_at_call 16; (with_reducible refine (awake_any _).mono ?_); rintro e wt ⟨rfl, hbt⟩; have KB6 := Lib.hid (below_step KB4.out hbt); clear hbt))
              go_ret
              exact ⟨rfl, KB6.out⟩
            · have m3 : ¬ ((H.length : Nat) : Int) < 3 := by omega
              have a0 : 0 < ar := hps (by omega)
              clear hpos hps hok hbX hbY h0 h3
              go_wp2_with (first
                | (go_at_call 42; (with_reducible refine (HHb.out _ BB.out).mono ?_); rintro e wx ⟨vx, bx, rfl, hox, hbx⟩; obtain ⟨Ax, cx, rfl, hSx⟩ := hul_spots2 hox; have SX := Lib.hid hSx; have SB1 := Lib.hid (SB.out.below hbx); have CB1 := Lib.hid (CB.out.below hbx); have KB1 := Lib.hid (below_step KB.out hbx); clear hox hSx hbx)
                | (go_at_call 44; (with_reducible refine (HSs.out _ Ax cx SX.out SB1.out).mono ?_); rintro e wy ⟨rfl, hby⟩; have SB2 := Lib.hid (SB1.out.below hby); have CB2 := Lib.hid (CB1.out.below hby); have KB2 := Lib.hid (below_step KB1.out hby); clear hby)
                | (go_at_call 42; (with_reducible refine (HHc.out _ CB2.out).mono ?_); rintro e wz ⟨vz, bz, rfl, hoz, hbz⟩; obtain ⟨Az, cz, rfl, hSz⟩ := hul_spots2 hoz; have SZ := Lib.hid hSz; have SB3 := Lib.hid (SB2.out.below hbz); have KB3 := Lib.hid (below_step KB2.out hbz); clear hoz hSz hbz)
                | (go_at_call 44; (with_reducible refine (HSs.out _ Az cz SZ.out SB3.out).mono ?_); rintro e wu ⟨rfl, hbu⟩; have SB4 := Lib.hid (SB3.out.below hbu); have KB4 := Lib.hid (below_step KB3.out hbu); clear hbu)
                | (go_at_call 45; (with_reducible refine (HAr.out _ SB4.out).mono ?_); rintro e wv ⟨rfl, hbv⟩; have KB5 := Lib.hid (below_step KB4.out hbv); clear hbv)
                | (go_at_call 16; (with_reducible refine (awake_any _).mono ?_); rintro e wt ⟨rfl, hbt⟩; have KB6 := Lib.hid (below_step KB5.out hbt); clear hbt))
              go_ret
              exact ⟨rfl, KB6.out⟩
          · have j0 : ¬ (0 : Int) < (j : Int) := by omega
            have m0 : ¬ (0 : Int) < ((H.length : Nat) : Int) := by omega
            have m3 : ((H.length : Nat) : Int) < 3 := by omega
            clear hpos hps hok hbX hbY h0 HAr
            go_wp2_with (first
              | (go_at_call 42; (with_reducible refine (HHb.out _ BB.out).mono ?_); rintro e wx ⟨vx, bx, rfl, hox, hbx⟩; obtain ⟨Ax, cx, rfl, hSx⟩ := hul_spots2 hox; have SX := Lib.hid hSx; have SB1 := Lib.hid (SB.out.below hbx); have CB1 := Lib.hid (CB.out.below hbx); have KB1 := Lib.hid (below_step KB.out hbx); clear hox hSx hbx)
              | (go_at_call 44; (with_reducible refine (HSs.out _ Ax cx SX.out SB1.out).mono ?_); rintro e wy ⟨rfl, hby⟩; have SB2 := Lib.hid (SB1.out.below hby); have CB2 := Lib.hid (CB1.out.below hby); have KB2 := Lib.hid (below_step KB1.out hby); clear hby)
              | (go_at_call 42; (with_reducible refine (HHc.out _ CB2.out).mono ?_); rintro e wz ⟨vz, bz, rfl, hoz, hbz⟩; obtain ⟨Az, cz, rfl, hSz⟩ := hul_spots2 hoz; have SZ := Lib.hid hSz; have SB3 := Lib.hid (SB2.out.below hbz); have KB3 := Lib.hid (below_step KB2.out hbz); clear hoz hSz hbz)
              | (go_at_call 44; (with_reducible refine (HSs.out _ Az cz SZ.out SB3.out).mono ?_); rintro e wu ⟨rfl, hbu⟩; have SB4 := Lib.hid (SB3.out.below hbu); have KB4 := Lib.hid (below_step KB3.out hbu); clear hbu)
              | (go_at_call 16; (with_reducible refine (awake_any _).mono ?_); rintro e wt ⟨rfl, hbt⟩; have KB6 := Lib.hid (below_step KB4.out hbt); clear hbt))
            go_ret
            exact ⟨rfl, KB6.out⟩
end Go.Proofs.Ytaehfildhmljeaa

namespace Go.Proofs.Ytaehfildhmljeaa
open Go.ChangeShapes Go.WideShapes Go.ChangeAt Go.RowKit Go.Joins Go.Deep

set_option maxRecDepth 100000 in
theorem ccovers_lifted (os : Os) (started : os.Started) (H : Type) (enc : TypeId × Value → H) :
    ReturnsInHanded {} Try.checked os 12 .any (Rows.cloudCoversSpec.pre6 enc Try.prog Try.f12 Rows.cloudCoversRow.domain false) (Rows.cloudCoversSpec.post enc Try.prog Try.f12 false true false false) := by
  refine returnsInHanded_of_change (C := Try.checked) ownK started (by kernel_rfl) Try.func12
    (ChangeSpec.witness6 (enc := enc) (C := Try.checked) false ⟨#[], #[.slice none 0 0, .int .i64 0], []⟩ 8 (by kernel_rfl) (by kernel_rfl) (by kernel_rfl) (by kernel_rfl)) ?_
  intro W base args ds gs before hval0 hW hcnd _
  have hval : ∀ (j : Nat) t v, Try.f12.params[j]? = some t → args[j]? = some v → Value.okWide Try.prog W .any base t v := hval0
  have hW' := hW
  obtain ⟨p, q, hA0, hV, rfl, hfz, hnd⟩ := hW
  have hA : DataW.TrodAll enc Try.prog W 0 (fun _ => true) true Try.f12.params.toList args.toList ds p := hA0
  rw [Try.params12] at hA hval
  obtain ⟨v0, vs0, d0, ds0, p0, q0, hargs, rfl, rfl, h0, r0⟩ := trodAll_cons hA
  obtain ⟨v1, vs1, d1, ds1, p1, q1, rfl, rfl, rfl, h1, r1⟩ := trodAll_cons r0
  obtain ⟨rfl, rfl, rfl⟩ := trodAll_nil r1
  obtain rfl : args = #[v0, v1] := by cases args; simp_all
  obtain ⟨rfl, rfl⟩ := trodVars_none hV
  obtain ⟨A, n, cap, S, rfl, _, hS⟩ := open_nums (hval 0 70 v0 rfl rfl) h0
  obtain ⟨s, rfl, rfl, rfl, _⟩ := open_int Try.underlying2 (hval 1 2 v1 rfl rfl) h1
  refine (ccovers_walk A n cap S s W hS).mono fun e W' ⟨he, hn⟩ => ?_
  subst he
  exact ⟨_, rfl, law_post rfl rfl (by kernel_rfl) rfl rfl rfl hW' hn⟩

theorem ccovers_holds : Rows.CloudCoversSaid :=
  OpenClaim.holds_of_wide 12 Try.f12 rfl rfl rfl rfl rfl rfl rfl ⟨rfl, rfl, rfl, rfl, rfl⟩ rfl rfl rfl rfl rfl (by kernel_rfl) Try.func12 (by kernel_rfl)
    (of_decide_eq_true (by kernel_rfl)) (by unfold Func.isWrapper; first | (rw [if_pos (by decide +kernel)]; kernel_rfl) | (rw [if_neg (by decide +kernel)]; exact ⟨rfl, rfl⟩))
    (fun os started H enc _ => ccovers_lifted os started H enc)
#print axioms ccovers_holds
end Go.Proofs.Ytaehfildhmljeaa
