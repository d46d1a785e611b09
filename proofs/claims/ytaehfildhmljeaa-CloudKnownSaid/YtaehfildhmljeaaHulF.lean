/- Hulls: the chain along sorted points keeps all points on its left; going round by the rightmost point finds the same corners. Plain mathematics. The hull as a list: both chains; the next corner is what going round selects. Plain mathematics. The hull of sorted points: there along the lower side and back along the upper one. Plain mathematics. -/
import Derived.Test.YtaehfildhmljeaaIdxR
import Derived.Test.YtaehfildhmljeaaSide
namespace Go.Proofs.Ytaehfildhmljeaa

/-- A vector that goes up in order. -/
def lexp (x y : Int) : Prop := 0 < x ∨ (x = 0 ∧ 0 < y)
def xr (a b c d : Int) : Int := a * d - b * c
theorem bef_lexp (p q : Pt) : befB p q = true ↔ lexp (q.1 - p.1) (q.2 - p.2) := by
  rw [bef_iff]
  unfold lexp
  omega
theorem pos_cancel {c t : Int} (hc : 0 < c) (h : 0 < c * t) : 0 < t := by
  rcases Int.lt_or_le 0 t with h1 | h1
  · exact h1
  · have := Int.mul_le_mul_of_nonneg_left h1 (Int.le_of_lt hc)
    rw [Int.mul_zero] at this
    omega
theorem nonneg_cancel {c t : Int} (hc : 0 < c) (h : 0 ≤ c * t) : 0 ≤ t := by
  rcases Int.lt_or_le t 0 with h1 | h1
  · have := Int.mul_lt_mul_of_pos_left h1 hc
    rw [Int.mul_zero] at this
    omega
  · exact h1
theorem xr_id (fx fy mx my lx ly : Int) : mx * xr fx fy lx ly = fx * xr mx my lx ly + lx * xr fx fy mx my := by unfold xr; grind
theorem xr_weak {fx fy mx my lx ly : Int} (hf : lexp fx fy) (hm : lexp mx my) (hl : lexp lx ly) (h1 : 0 ≤ xr fx fy mx my) (h2 : 0 ≤ xr mx my lx ly) : 0 ≤ xr fx fy lx ly := by
  have hfx : 0 ≤ fx := by unfold lexp at hf; omega
  have hlx : 0 ≤ lx := by unfold lexp at hl; omega
  rcases hm with hm | ⟨hm, hmy⟩
  · refine nonneg_cancel hm ?_
    rw [xr_id fx fy mx my lx ly]
    have := Int.mul_nonneg hfx h2
    have := Int.mul_nonneg hlx h1
    omega
  · subst hm
    have e : xr 0 my lx ly = - (my * lx) := by unfold xr; grind
    rw [e] at h2
    have h3 : lx = 0 := by
      rcases Int.lt_or_le 0 lx with h | h
      · have := Int.mul_pos hmy h
        omega
      · omega
    subst h3
    have hly : 0 < ly := by unfold lexp at hl; omega
    have e2 : xr fx fy 0 ly = fx * ly := by unfold xr; grind
    rw [e2]
    exact Int.mul_nonneg hfx (Int.le_of_lt hly)
theorem xr_mixed {fx fy mx my lx ly : Int} (hf : lexp fx fy) (hm : lexp mx my) (hl : lexp lx ly) (h1 : 0 ≤ xr fx fy mx my) (h2 : 0 < xr mx my lx ly) : 0 < xr fx fy lx ly := by
  have hlx : 0 ≤ lx := by unfold lexp at hl; omega
  rcases hm with hm | ⟨hm, hmy⟩
  · rcases hf with hf | ⟨hf, hfy⟩
    · refine pos_cancel hm ?_
      rw [xr_id fx fy mx my lx ly]
      have := Int.mul_pos hf h2
      have := Int.mul_nonneg hlx h1
      omega
    · subst hf
      have e : xr 0 fy mx my = - (fy * mx) := by unfold xr; grind
      rw [e] at h1
      have := Int.mul_pos hfy hm
      omega
  · subst hm
    have e : xr 0 my lx ly = - (my * lx) := by unfold xr; grind
    rw [e] at h2
    have := Int.mul_nonneg (Int.le_of_lt hmy) hlx
    omega
theorem crs_xr (a b q : Pt) : crs a b q = xr (b.1 - a.1) (b.2 - a.2) (q.1 - a.1) (q.2 - a.2) := rfl
theorem crs_b (a b q : Pt) : crs a b q = xr (b.1 - a.1) (b.2 - a.2) (q.1 - b.1) (q.2 - b.2) := by unfold crs xr; grind
theorem crs_swap (a b q : Pt) : crs a q b = - crs a b q := by unfold crs; grind
theorem crs_aa (a b : Pt) : crs a b a = 0 := by unfold crs; grind
theorem crs_bb (a b : Pt) : crs a b b = 0 := by unfold crs; grind

/-- All of Q lie on the left of the edge from a up to b, or on it. -/
def Sup (Q : List Pt) (a b : Pt) : Prop := befB a b = true ∧ ∀ q ∈ Q, 0 ≤ crs a b q ∧ (crs a b q = 0 → (a = q ∨ befB a q = true) ∧ (q = b ∨ befB q b = true))
/-- .. of each edge of a chain, the last corner first. -/
def EdgS (Q : List Pt) : List Pt → Prop
  | b :: a :: r => Sup Q a b ∧ EdgS Q (a :: r)
  | _ => True
/-- The corners that stay ahead of p. -/
def popS (p : Pt) : List Pt → List Pt
  | b :: a :: r => if 0 < crs a b p then b :: a :: r else popS p (a :: r)
  | l => l
/-- The chain along some points, the last corner first. -/
def chS : List Pt → List Pt → List Pt
  | st, [] => st
  | st, p :: r => chS (p :: popS p st) r

theorem edg_all {Q : List Pt} {p : Pt} (hp : ∀ q ∈ Q, befB q p = true) : ∀ {r : List Pt} {a b : Pt}, EdgS Q (b :: a :: r) → (∀ x ∈ b :: a :: r, x ∈ Q) → 0 < crs a b p → EdgS (p :: Q) (b :: a :: r) := by
  intro r
  induction r with
  | nil =>
    intro a b h hm hc
    refine ⟨⟨h.1.1, fun q hq => ?_⟩, trivial⟩
    rcases List.mem_cons.1 hq with rfl | hq
    · exact ⟨Int.le_of_lt hc, fun e => by omega⟩
    · exact h.1.2 q hq
  | cons c r ih =>
    intro a b h hm hc
    have h2 : EdgS Q (a :: c :: r) := h.2
    have hs : Sup Q c a := h2.1
    have hbQ : b ∈ Q := hm b (by simp)
    have haQ : a ∈ Q := hm a (by simp)
    have h3 := hs.2 b hbQ
    have hab := h.1.1
    have h4 : 0 < crs c a b := by
      rcases Int.lt_or_le 0 (crs c a b) with h5 | h5
      · exact h5
      · rcases (h3.2 (by omega)).2 with e | e
        · rw [e, bef_irr] at hab; cases hab
        · exact (bef_asym hab e).elim
    have h5 : 0 < crs c a p := by
      rw [crs_b]
      refine xr_mixed (mx := b.1 - a.1) (my := b.2 - a.2) ((bef_lexp _ _).1 hs.1) ((bef_lexp _ _).1 hab) ((bef_lexp _ _).1 (hp a haQ)) ?_ ?_
      · rw [← crs_b]; exact Int.le_of_lt h4
      · rw [← crs_xr]; exact hc
    refine ⟨⟨h.1.1, fun q hq => ?_⟩, ih h2 (fun x hx => hm x (List.mem_cons_of_mem _ hx)) h5⟩
    rcases List.mem_cons.1 hq with rfl | hq
    · exact ⟨Int.le_of_lt hc, fun e => by omega⟩
    · exact h.1.2 q hq
theorem pop_spec {Q : List Pt} {p lo : Pt} (hp : ∀ q ∈ Q, befB q p = true) (hlo : ∀ q ∈ Q, q = lo ∨ befB lo q = true) : ∀ {r : List Pt} {b : Pt}, EdgS Q (b :: r) → (∀ x ∈ b :: r, x ∈ Q) → (b :: r).getLast? = some lo → (∀ q ∈ Q, befB b q = true → 0 ≤ crs b p q) →
    ∃ w r', popS p (b :: r) = w :: r' ∧ EdgS (p :: Q) (p :: w :: r') ∧ (∀ x ∈ w :: r', x ∈ Q) ∧ (w :: r').getLast? = some lo := by
  intro r
  induction r with
  | nil =>
    intro b _ hm hl hb
    refine ⟨b, [], rfl, ⟨⟨hp b (hm b (by simp)), fun q hq => ?_⟩, trivial⟩, hm, hl⟩
    obtain rfl : b = lo := by simpa using hl
    rcases List.mem_cons.1 hq with rfl | hq
    · rw [crs_bb]
      exact ⟨Int.le_refl _, fun _ => ⟨Or.inr (hp b (hm b (by simp))), Or.inl rfl⟩⟩
    · rcases hlo q hq with rfl | h
      · rw [crs_aa]
        exact ⟨Int.le_refl _, fun _ => ⟨Or.inl rfl, Or.inr (hp q hq)⟩⟩
      · exact ⟨hb q hq h, fun _ => ⟨Or.inr h, Or.inr (hp q hq)⟩⟩
  | cons a r ih =>
    intro b h hm hl hb
    have hs : Sup Q a b := h.1
    have haQ : a ∈ Q := hm a (by simp)
    have hbQ : b ∈ Q := hm b (by simp)
    rw [popS]
    by_cases hc : 0 < crs a b p
    · rw [if_pos hc]
      refine ⟨b, a :: r, rfl, ⟨⟨hp b hbQ, fun q hq => ?_⟩, edg_all hp h hm hc⟩, hm, hl⟩
      rcases List.mem_cons.1 hq with rfl | hq
      · rw [crs_bb]
        exact ⟨Int.le_refl _, fun _ => ⟨Or.inr (hp b hbQ), Or.inl rfl⟩⟩
      · by_cases e : q = b
        · subst e
          rw [crs_aa]
          exact ⟨Int.le_refl _, fun _ => ⟨Or.inl rfl, Or.inr (hp q hq)⟩⟩
        · by_cases h1 : befB b q = true
          · exact ⟨hb q hq h1, fun _ => ⟨Or.inr h1, Or.inr (hp q hq)⟩⟩
          · have h2 : befB q b = true := bef_tri (by simpa using h1) (fun e2 => e e2.symm)
            have h3 : 0 < crs b p q := by
              have h4 : 0 < xr (b.1 - q.1) (b.2 - q.2) (p.1 - b.1) (p.2 - b.2) := by
                refine xr_mixed (mx := b.1 - a.1) (my := b.2 - a.2) ((bef_lexp _ _).1 h2) ((bef_lexp _ _).1 hs.1) ((bef_lexp _ _).1 (hp b hbQ)) ?_ ?_
                · have h5 := (hs.2 q hq).1
                  have e5 : xr (b.1 - q.1) (b.2 - q.2) (b.1 - a.1) (b.2 - a.2) = crs a b q := by unfold crs xr; grind
                  rw [e5]; exact h5
                · rw [← crs_b]; exact hc
              have e6 : crs b p q = xr (b.1 - q.1) (b.2 - q.2) (p.1 - b.1) (p.2 - b.2) := by unfold crs xr; grind
              rw [e6]; exact h4
            exact ⟨Int.le_of_lt h3, fun e => by omega⟩
    · rw [if_neg hc]
      refine ih h.2 (fun x hx => hm x (List.mem_cons_of_mem _ hx)) (by simpa using hl) (fun q hq h1 => ?_)
      rw [crs_xr]
      refine xr_weak (mx := b.1 - a.1) (my := b.2 - a.2) ((bef_lexp _ _).1 (hp a haQ)) ((bef_lexp _ _).1 hs.1) ((bef_lexp _ _).1 h1) ?_ ?_
      · have e : xr (p.1 - a.1) (p.2 - a.2) (b.1 - a.1) (b.2 - a.2) = - crs a b p := by unfold crs xr; grind
        rw [e]; omega
      · rw [← crs_xr]; exact (hs.2 q hq).1

theorem edg_perm {Q Q' : List Pt} (h : ∀ x, x ∈ Q' → x ∈ Q) : ∀ {l : List Pt}, EdgS Q l → EdgS Q' l := by
  intro l
  induction l with
  | nil => exact fun _ => trivial
  | cons b r ih =>
    cases r with
    | nil => exact fun _ => trivial
    | cons a r => exact fun hh => ⟨⟨hh.1.1, fun q hq => hh.1.2 q (h q hq)⟩, ih hh.2⟩
/-- What the chain is, behind some points. -/
def ChI (Q : List Pt) (lo : Pt) (st : List Pt) : Prop := EdgS Q st ∧ (∀ x ∈ st, x ∈ Q) ∧ st.getLast? = some lo
theorem ch_step {Q : List Pt} {lo p b : Pt} {r : List Pt} (h : ChI Q lo (b :: r)) (hb : ∀ q ∈ Q, q = b ∨ befB q b = true) (hp : ∀ q ∈ Q, befB q p = true) (hlo : ∀ q ∈ Q, q = lo ∨ befB lo q = true) : ChI (p :: Q) lo (p :: popS p (b :: r)) := by
  obtain ⟨h1, h2, h3⟩ := h
  obtain ⟨w, r', e, g1, g2, g3⟩ := pop_spec hp hlo h1 h2 h3 (fun q hq hbq => by
    rcases hb q hq with rfl | h
    · rw [bef_irr] at hbq; cases hbq
    · exact (bef_asym h hbq).elim)
  rw [e]
  refine ⟨g1, fun x hx => ?_, by rw [List.getLast?_cons_cons]; exact g3⟩
  rcases List.mem_cons.1 hx with rfl | hx
  · simp
  · exact List.mem_cons_of_mem _ (g2 x hx)
theorem ch_run {lo : Pt} : ∀ {l : List Pt} {Q : List Pt} {b : Pt} {r : List Pt}, ChI Q lo (b :: r) → (∀ q ∈ Q, q = b ∨ befB q b = true) → (∀ q ∈ Q, q = lo ∨ befB lo q = true) → b ∈ Q → SrtL (b :: l) →
    ∃ w r', chS (b :: r) l = w :: r' ∧ ChI (l.reverse ++ Q) lo (w :: r') ∧ (b :: l).getLast? = some w := by
  intro l
  induction l with
  | nil => intro Q b r h _ _ _ _; exact ⟨b, r, rfl, by simpa using h, rfl⟩
  | cons p l ih =>
    intro Q b r h hb hlo hbQ hs
    obtain ⟨s1, s2⟩ := List.pairwise_cons.1 hs
    have hbp : befB b p = true := s1 p (by simp)
    have hp : ∀ q ∈ Q, befB q p = true := fun q hq => by
      rcases hb q hq with rfl | h
      · exact hbp
      · exact bef_trans h hbp
    have h2 := ch_step h hb hp hlo
    obtain ⟨w, r', e, g1, g2⟩ := ih (Q := p :: Q) (b := p) (r := popS p (b :: r)) h2 (fun q hq => by
      rcases List.mem_cons.1 hq with rfl | hq
      · exact Or.inl rfl
      · exact Or.inr (hp q hq)) (fun q hq => by
      rcases List.mem_cons.1 hq with rfl | hq
      · rcases hlo b hbQ with e | e
        · rw [← e]; exact Or.inr hbp
        · exact Or.inr (bef_trans e hbp)
      · exact hlo q hq) (by simp) s2
    refine ⟨w, r', e, ?_, by rw [List.getLast?_cons_cons]; exact g2⟩
    simpa using g1
/-- The chain along points in order. -/
theorem chain_spec {lo : Pt} {l : List Pt} (hs : SrtL (lo :: l)) : ∃ w r, chS [] (lo :: l) = w :: r ∧ EdgS (lo :: l) (w :: r) ∧ (∀ x ∈ w :: r, x ∈ lo :: l) ∧ (w :: r).getLast? = some lo ∧ (lo :: l).getLast? = some w := by
  obtain ⟨w, r, e, ⟨g1, g2, g3⟩, g4⟩ := ch_run (lo := lo) (l := l) (Q := [lo]) (b := lo) (r := []) ⟨trivial, fun x hx => hx, rfl⟩ (fun q hq => Or.inl (by simpa using hq)) (fun q hq => Or.inl (by simpa using hq)) (by simp) hs
  have hmem : ∀ x, x ∈ lo :: l ↔ x ∈ l.reverse ++ [lo] := fun x => by simp; exact Or.comm
  exact ⟨w, r, e, edg_perm (fun x hx => (hmem x).1 hx) g1, fun x hx => (hmem x).2 (g2 x hx), g3, g4⟩
end Go.Proofs.Ytaehfildhmljeaa

namespace Go.Proofs.Ytaehfildhmljeaa

/-- An edge of the hull of Q, against the clock. -/
def Edge (Q : List Pt) (a b : Pt) : Prop := a ≠ b ∧ ∀ q ∈ Q, 0 ≤ crs a b q ∧ (crs a b q = 0 → q = b ∨ dsq a q < dsq a b)
theorem bef_ne {a b : Pt} (h : befB a b = true) : a ≠ b := fun e => by rw [e, bef_irr] at h; cases h
theorem sq_nonneg' (x : Int) : 0 ≤ x * x := by
  rcases Int.lt_or_le x 0 with h | h
  · have := Int.mul_nonneg (show 0 ≤ -x by omega) (show 0 ≤ -x by omega)
    rw [Int.neg_mul_neg] at this
    exact this
  · exact Int.mul_nonneg h h
theorem dsq_pos {a b : Pt} (h : befB a b = true) : 0 < dsq a b := by
  have h1 := (bef_lexp _ _).1 h
  unfold dsq
  have p := sq_nonneg' (b.1 - a.1)
  have q := sq_nonneg' (b.2 - a.2)
  rcases h1 with h | ⟨_, h⟩
  · have := Int.mul_pos h h
    omega
  · have := Int.mul_pos h h
    omega
theorem dsq_aa (a : Pt) : dsq a a = 0 := by unfold dsq; simp
theorem seg_lt {a b q : Pt} (h1 : befB a q = true) (h2 : befB q b = true) (hc : crs a b q = 0) : dsq a q < dsq a b := by
  have e1 := (bef_lexp _ _).1 h1
  have e2 := (bef_lexp _ _).1 h2
  obtain ⟨cx, hcx⟩ : ∃ x, x = q.1 - a.1 := ⟨_, rfl⟩
  obtain ⟨cy, hcy⟩ : ∃ x, x = q.2 - a.2 := ⟨_, rfl⟩
  obtain ⟨ex, hex⟩ : ∃ x, x = b.1 - q.1 := ⟨_, rfl⟩
  obtain ⟨ey, hey⟩ : ∃ x, x = b.2 - q.2 := ⟨_, rfl⟩
  rw [← hcx, ← hcy] at e1
  rw [← hex, ← hey] at e2
  have hb1 : b.1 - a.1 = cx + ex := by omega
  have hb2 : b.2 - a.2 = cy + ey := by omega
  have hcr : ex * cy - ey * cx = 0 := by
    have : crs a b q = ex * cy - ey * cx := by
      unfold crs
      rw [hb1, hb2, ← hcx, ← hcy]
      grind
    omega
  have hd : dsq a b = dsq a q + (2 * (cx * ex + cy * ey) + (ex * ex + ey * ey)) := by
    unfold dsq
    rw [hb1, hb2, ← hcx, ← hcy]
    grind
  have hee : 0 < ex * ex + ey * ey := by
    have p := sq_nonneg' ex
    have r := sq_nonneg' ey
    rcases e2 with h | ⟨_, h⟩
    · have := Int.mul_pos h h
      omega
    · have := Int.mul_pos h h
      omega
  have hex0 : 0 ≤ ex := by unfold lexp at e2; omega
  have hdot : 0 ≤ cx * ex + cy * ey := by
    rcases e1 with h | ⟨h, hy⟩
    · refine nonneg_cancel h ?_
      have e : cx * (cx * ex + cy * ey) = (cx * cx + cy * cy) * ex := by grind
      rw [e]
      have p := sq_nonneg' cx
      have r := sq_nonneg' cy
      exact Int.mul_nonneg (by omega) hex0
    · subst h
      have h0 : ex = 0 := by
        rcases Int.lt_or_le 0 ex with h3 | h3
        · have := Int.mul_pos h3 hy
          have e : ey * 0 = 0 := Int.mul_zero _
          omega
        · omega
      subst h0
      have hy2 : 0 < ey := by unfold lexp at e2; omega
      have := Int.mul_pos hy hy2
      omega
  omega
theorem sup_edge {Q : List Pt} {a b : Pt} (h : Sup Q a b) : Edge Q a b := by
  refine ⟨bef_ne h.1, fun q hq => ⟨(h.2 q hq).1, fun e => ?_⟩⟩
  obtain ⟨h1, h2⟩ := (h.2 q hq).2 e
  rcases h2 with h2 | h2
  · exact Or.inl h2
  · rcases h1 with h1 | h1
    · subst h1
      right
      rw [dsq_aa]
      exact dsq_pos h.1
    · exact Or.inr (seg_lt h1 h2 e)
/-- The point on the other side of the middle. -/
def ng (p : Pt) : Pt := (-p.1, -p.2)
theorem ng_ng (p : Pt) : ng (ng p) = p := by unfold ng; simp
theorem ng_inj {p q : Pt} (h : ng p = ng q) : p = q := by rw [← ng_ng p, h, ng_ng]
theorem crs_ng (a b q : Pt) : crs (ng a) (ng b) (ng q) = crs a b q := by unfold crs ng; grind
theorem dsq_ng (a b : Pt) : dsq (ng a) (ng b) = dsq a b := by unfold dsq ng; grind
theorem bef_ng (a b : Pt) : befB (ng a) (ng b) = befB b a := by
  rw [Bool.eq_iff_iff, bef_iff, bef_iff]
  unfold ng
  simp only
  omega
theorem pop_ng (p : Pt) : ∀ st : List Pt, popS (ng p) (st.map ng) = (popS p st).map ng := by
  intro st
  induction st with
  | nil => rfl
  | cons b r ih =>
    cases r with
    | nil => rfl
    | cons a r =>
      rw [List.map_cons, List.map_cons, popS, popS, crs_ng]
      split
      · rfl
      · exact ih
theorem chS_ng : ∀ (l st : List Pt), chS (st.map ng) (l.map ng) = (chS st l).map ng := by
  intro l
  induction l with
  | nil => intro st; rfl
  | cons p l ih =>
    intro st
    rw [List.map_cons, chS, chS, pop_ng]
    exact ih (p :: popS p st)
/-- Each edge of a chain is one of the hull, the last corner first. -/
def EdgE (Q : List Pt) : List Pt → Prop
  | b :: a :: r => Edge Q a b ∧ EdgE Q (a :: r)
  | _ => True
theorem edgE_of {Q : List Pt} : ∀ {l : List Pt}, EdgS Q l → EdgE Q l := by
  intro l
  induction l with
  | nil => exact fun _ => trivial
  | cons b r ih =>
    cases r with
    | nil => exact fun _ => trivial
    | cons a r => exact fun h => ⟨sup_edge h.1, ih h.2⟩
theorem edge_ng {Q : List Pt} {a b : Pt} (h : Edge (Q.map ng) (ng a) (ng b)) : Edge Q a b := by
  refine ⟨fun e => h.1 (by rw [e]), fun q hq => ?_⟩
  have h1 := h.2 (ng q) (List.mem_map_of_mem hq)
  rw [crs_ng, dsq_ng, dsq_ng] at h1
  exact ⟨h1.1, fun e => (h1.2 e).imp ng_inj id⟩
theorem edgE_ng {Q : List Pt} : ∀ {l : List Pt}, EdgE (Q.map ng) (l.map ng) → EdgE Q l := by
  intro l
  induction l with
  | nil => exact fun _ => trivial
  | cons b r ih =>
    cases r with
    | nil => exact fun _ => trivial
    | cons a r => exact fun h => ⟨edge_ng h.1, ih h.2⟩
/-- Each two neighbours are an edge. -/
def CycE (Q F : List Pt) : Prop := ∀ (i : Nat) a b, F[i]? = some a → F[i + 1]? = some b → Edge Q a b
theorem edgE_idx {Q : List Pt} : ∀ {l : List Pt}, EdgE Q l → CycE Q l.reverse := by
  intro l
  induction l with
  | nil => intro _ i a b h; simp at h
  | cons b r ih =>
    cases r with
    | nil => intro _ i x y h1 h2; simp at h2
    | cons a r =>
      intro h i x y h1 h2
      have e : (b :: a :: r).reverse = (a :: r).reverse ++ [b] := by simp
      have hl : (a :: r).reverse.length = r.length + 1 := by simp
      rw [e] at h1 h2
      by_cases h3 : i + 1 < (a :: r).reverse.length
      · rw [List.getElem?_append_left (by omega)] at h1
        rw [List.getElem?_append_left h3] at h2
        exact ih h.2 i x y h1 h2
      · by_cases h4 : i + 1 = (a :: r).reverse.length
        · rw [List.getElem?_append_left (by omega)] at h1
          rw [List.getElem?_append_right (by omega), h4, Nat.sub_self] at h2
          obtain rfl : b = y := by simpa using h2
          have h5 : i = r.length := by omega
          rw [h5, List.reverse_cons, List.getElem?_append_right (by simp)] at h1
          obtain rfl : a = x := by simpa using h1
          exact h.1
        · rw [List.getElem?_append_right (by omega), List.getElem?_eq_none (by simp; omega)] at h2
          cases h2
theorem edgS_low {Q : List Pt} : ∀ {r : List Pt} {b : Pt}, EdgS Q (b :: r) → ∀ x ∈ r, befB x b = true := by
  intro r
  induction r with
  | nil => intro b _ x hx; cases hx
  | cons a r ih =>
    intro b h x hx
    rcases List.mem_cons.1 hx with rfl | hx
    · exact h.1.1
    · exact bef_trans (ih h.2 x hx) h.1.1
theorem edgS_tail {Q : List Pt} {b : Pt} {r : List Pt} (h : EdgS Q (b :: r)) : EdgS Q r := by
  cases r with
  | nil => trivial
  | cons a r => exact h.2
theorem edgS_srt {Q : List Pt} : ∀ {l : List Pt}, EdgS Q l → SrtL l.reverse := by
  intro l
  induction l with
  | nil => intro _; simp
  | cons b r ih =>
    intro h
    rw [List.reverse_cons]
    refine List.pairwise_append.2 ⟨ih (edgS_tail h), by simp, fun x hx y hy => ?_⟩
    obtain rfl : y = b := by simpa using hy
    exact edgS_low h x (by simpa using hx)

/-- The next one of two, as seen from a: the one on the right; of two on one line the farther one. -/
def selS (a c q : Pt) : Pt := if q = a ∨ (c ≠ a ∧ (0 < crs a c q ∨ (crs a c q = 0 ∧ dsq a q ≤ dsq a c))) then c else q
def wrapK (C : Nat → Pt) (a : Pt) : Nat → Pt
  | 0 => a
  | k + 1 => selS a (wrapK C a k) (C k)
theorem wrap_edge {C : Nat → Pt} {Q : List Pt} {a b : Pt} (h : Edge Q a b) : ∀ k, (∀ i, i < k → C i ∈ Q) → ((∃ i, i < k ∧ C i = b) → wrapK C a k = b) ∧ (wrapK C a k = a ∨ wrapK C a k ∈ Q) := by
  intro k
  induction k with
  | zero => intro _; exact ⟨fun ⟨i, hi, _⟩ => absurd hi (by omega), Or.inl rfl⟩
  | succ k ih =>
    intro hC
    obtain ⟨h1, h2⟩ := ih (fun i hi => hC i (by omega))
    have hq := hC k (by omega)
    have hk : wrapK C a (k + 1) = selS a (wrapK C a k) (C k) := rfl
    refine ⟨?_, ?_⟩
    · rintro ⟨i, hi, e⟩
      rw [hk]
      by_cases hb : wrapK C a k = b
      · rw [hb]
        unfold selS
        by_cases e2 : C k = b
        · rw [e2]
          split <;> rfl
        · obtain ⟨g1, g2⟩ := h.2 (C k) hq
          rw [if_pos]
          right
          refine ⟨fun e3 => h.1 e3.symm, ?_⟩
          by_cases g3 : 0 < crs a b (C k)
          · exact Or.inl g3
          · have g4 : crs a b (C k) = 0 := by omega
            rcases g2 g4 with g5 | g5
            · exact absurd g5 e2
            · exact Or.inr ⟨g4, Int.le_of_lt g5⟩
      · have hki : i = k := by
          refine Classical.byContradiction fun hn => ?_
          exact hb (h1 ⟨i, by omega, e⟩)
        subst hki
        rw [e]
        unfold selS
        rw [if_neg]
        rintro (g | ⟨g1, g2⟩)
        · exact h.1 g.symm
        · have hin : wrapK C a i ∈ Q := h2.resolve_left g1
          obtain ⟨g3, g4⟩ := h.2 _ hin
          rw [crs_swap] at g2
          rcases g2 with g2 | ⟨g2, g5⟩
          · omega
          · rcases g4 (by omega) with g6 | g6
            · exact hb g6
            · omega
    · rw [hk]
      unfold selS
      split
      · exact h2
      · exact Or.inr hq
theorem wrap_same {C : Nat → Pt} {a : Pt} : ∀ k, (∀ i, i < k → C i = a) → wrapK C a k = a := by
  intro k
  induction k with
  | zero => intro _; rfl
  | succ k ih =>
    intro h
    show selS a (wrapK C a k) (C k) = a
    rw [ih (fun i hi => h i (by omega)), h k (by omega)]
    unfold selS
    rw [if_pos (Or.inl rfl)]
end Go.Proofs.Ytaehfildhmljeaa

namespace Go.Proofs.Ytaehfildhmljeaa

def lowL (S : List Pt) : List Pt := (chS [] S).reverse
def uppL (S : List Pt) : List Pt := (chS [] S.reverse).reverse
def hulP (S : List Pt) : List Pt := (lowL S).dropLast ++ (uppL S).dropLast
/-- The corners of the hull of sorted points. -/
def hulL (S : List Pt) : List Pt := if S.length = 1 then S else hulP S

theorem pop_len (p : Pt) : ∀ st : List Pt, (popS p st).length ≤ st.length := by
  intro st
  induction st with
  | nil => exact Nat.le_refl _
  | cons b r ih =>
    cases r with
    | nil => exact Nat.le_refl _
    | cons a r =>
      rw [popS]
      split
      · exact Nat.le_refl _
      · exact Nat.le_trans ih (by simp)
theorem chS_len : ∀ (l st : List Pt), (chS st l).length ≤ st.length + l.length := by
  intro l
  induction l with
  | nil => intro st; exact Nat.le_refl _
  | cons p l ih =>
    intro st
    have h1 := ih (p :: popS p st)
    have h2 := pop_len p st
    rw [chS]
    simp only [List.length_cons] at *
    omega
theorem hulL_len (S : List Pt) : (hulL S).length ≤ 2 * S.length := by
  unfold hulL
  split
  · omega
  · unfold hulP lowL uppL
    have h1 := chS_len S []
    have h2 := chS_len S.reverse []
    simp at *
    omega
theorem cyc_join {Q A B : List Pt} (hA : CycE Q A) (hB : CycE Q B) (hm : 0 < A.length) (hj : A[A.length - 1]? = B[0]?) : CycE Q (A.dropLast ++ B) := by
  have hl : A.dropLast.length = A.length - 1 := List.length_dropLast ..
  have low : ∀ i, i ≤ A.length - 1 → (A.dropLast ++ B)[i]? = A[i]? := fun i hi => by
    by_cases h : i < A.length - 1
    · rw [List.getElem?_append_left (by omega), List.getElem?_dropLast, if_pos h]
    · obtain rfl : i = A.length - 1 := by omega
      rw [List.getElem?_append_right (by omega), hl, Nat.sub_self, hj]
  have up : ∀ i, A.length - 1 ≤ i → (A.dropLast ++ B)[i]? = B[i - (A.length - 1)]? := fun i hi => by
    rw [List.getElem?_append_right (by omega), hl]
  intro i a b h1 h2
  by_cases h : i + 1 ≤ A.length - 1
  · rw [low _ (by omega)] at h1
    rw [low _ h] at h2
    exact hA i a b h1 h2
  · rw [up _ (by omega)] at h1
    rw [up _ (by omega)] at h2
    exact hB (i - (A.length - 1)) a b h1 (by rw [← h2]; congr 1; omega)
theorem srt_ne {L : List Pt} (h : SrtL L) {i j : Nat} {x : Pt} (hi : L[i]? = some x) (hj : L[j]? = some x) : i = j := by
  obtain ⟨hi1, hi2⟩ := List.getElem?_eq_some_iff.1 hi
  obtain ⟨hj1, hj2⟩ := List.getElem?_eq_some_iff.1 hj
  rcases Nat.lt_trichotomy i j with g | g | g
  · have := (List.pairwise_iff_getElem.1 h) i j hi1 hj1 g
    rw [hi2, hj2, bef_irr] at this
    cases this
  · exact g
  · have := (List.pairwise_iff_getElem.1 h) j i hj1 hi1 g
    rw [hi2, hj2, bef_irr] at this
    cases this
theorem srt_rev {S : List Pt} (h : SrtL S) : SrtL (S.reverse.map ng) := by
  rw [SrtL, List.pairwise_map, List.pairwise_reverse]
  exact h.imp (fun {a b} h => by rw [bef_ng]; exact h)
theorem cyc_mem {l S : List Pt} (h : ∀ x ∈ l, x ∈ S) : ∀ x ∈ l.reverse, x ∈ S := fun x hx => h x (by simpa using hx)
theorem hull_facts {S : List Pt} (hs : SrtL S) (h2 : 2 ≤ S.length) {lo : Pt} (hlo : S[0]? = some lo) :
    ∃ F : List Pt, CycE S F ∧ F.length = (hulP S).length + 1 ∧ (∀ i, i < (hulP S).length → F[i]? = (hulP S)[i]?) ∧ F[0]? = some lo ∧ F[(hulP S).length]? = some lo ∧
      (∀ i, 0 < i → i < (hulP S).length → F[i]? ≠ some lo) ∧ 2 ≤ (hulP S).length ∧ ∀ x ∈ F, x ∈ S := by
  obtain ⟨l, rfl⟩ : ∃ l, S = lo :: l := by
    cases S with
    | nil => simp at hlo
    | cons a l =>
      obtain rfl : a = lo := by simpa using hlo
      exact ⟨l, rfl⟩
  obtain ⟨w, r, e1, g1, g2, g3, g4⟩ := chain_spec hs
  obtain ⟨hi, hhi⟩ : ∃ hi, (lo :: l).getLast? = some hi := ⟨_, List.getLast?_eq_some_getLast (by simp)⟩
  obtain rfl : hi = w := by rw [hhi] at g4; exact Option.some.inj g4
  have hne : lo ≠ hi := by
    intro e
    have a0 : (lo :: l)[0]? = some lo := rfl
    have a1 : (lo :: l)[(lo :: l).length - 1]? = some lo := by rw [← List.getLast?_eq_getElem?, hhi, e]
    have := srt_ne hs a0 a1
    omega
  -- the other side
  have hrs := srt_rev hs
  have hrev : (lo :: l).reverse.map ng = ng hi :: ((lo :: l).reverse.tail.map ng) := by
    have h5 : (lo :: l).reverse.head? = some hi := by rw [List.head?_reverse]; exact hhi
    cases hr : (lo :: l).reverse with
    | nil => rw [hr] at h5; cases h5
    | cons a t =>
      rw [hr] at h5
      obtain rfl : a = hi := by simpa using h5
      rfl
  rw [hrev] at hrs
  obtain ⟨w', r', e2, k1, k2, k3, k4⟩ := chain_spec hrs
  rw [← hrev] at e2 k1 k2 k4
  have e3 : (chS [] (lo :: l).reverse).map ng = w' :: r' := by rw [← e2, ← chS_ng]; rfl
  obtain rfl : ng lo = w' := by
    rw [List.getLast?_map, List.getLast?_reverse] at k4
    simpa using k4
  obtain ⟨st, hst⟩ : ∃ st, st = chS [] (lo :: l).reverse := ⟨_, rfl⟩
  rw [← hst] at e3
  have hst0 : st = lo :: r'.map ng := by
    have h5 : (st.map ng).map ng = (ng lo :: r').map ng := by rw [e3]
    rw [List.map_map] at h5
    have h6 : ng ∘ ng = id := by funext p; exact ng_ng p
    rw [h6, List.map_id, List.map_cons, ng_ng] at h5
    exact h5
  have hUe : EdgE (lo :: l) st := edgE_ng (by
    rw [e3]
    refine edgE_of (edg_perm (fun x hx => ?_) k1)
    rw [List.map_reverse]
    exact List.mem_reverse.2 hx)
  have hUs : SrtL ((st.map ng).reverse) := by rw [e3]; exact edgS_srt k1
  have hUl : st.getLast? = some hi := by
    rw [← e3, List.getLast?_map] at k3
    cases hx : st.getLast? with
    | none => rw [hx] at k3; cases k3
    | some x =>
      rw [hx] at k3
      rw [ng_inj (Option.some.inj k3)]
  have hUm : ∀ x ∈ st, x ∈ lo :: l := fun x hx => by
    have h5 : ng x ∈ ng lo :: r' := by rw [← e3]; exact List.mem_map_of_mem hx
    have h6 := k2 _ h5
    obtain ⟨y, hy, e⟩ := List.mem_map.1 h6
    rw [← ng_inj e]
    exact List.mem_reverse.1 hy
  have hA : lowL (lo :: l) = (hi :: r).reverse := by unfold lowL; rw [e1]
  have hB : uppL (lo :: l) = st.reverse := by unfold uppL; rw [hst]
  have hAl : 2 ≤ (lowL (lo :: l)).length := by
    rw [hA]
    cases r with
    | nil => exact absurd (by simpa using g3 : hi = lo).symm hne
    | cons a r => simp
  have hBl : 2 ≤ (uppL (lo :: l)).length := by
    rw [hB, hst0]
    cases r' with
    | nil => rw [hst0] at hUl; exact absurd (by simpa using hUl) hne
    | cons a r => simp
  have hA0 : (lowL (lo :: l))[0]? = some lo := by rw [hA, ← List.head?_eq_getElem?, List.head?_reverse]; exact g3
  have hAn : (lowL (lo :: l))[(lowL (lo :: l)).length - 1]? = some hi := by rw [hA, ← List.getLast?_eq_getElem?, List.getLast?_reverse]; rfl
  have hB0 : (uppL (lo :: l))[0]? = some hi := by rw [hB, ← List.head?_eq_getElem?, List.head?_reverse]; exact hUl
  have hBn : (uppL (lo :: l))[(uppL (lo :: l)).length - 1]? = some lo := by rw [hB, ← List.getLast?_eq_getElem?, List.getLast?_reverse, hst0]; rfl
  have hAE : CycE (lo :: l) (lowL (lo :: l)) := by rw [hA]; exact edgE_idx (edgE_of g1)
  have hBE : CycE (lo :: l) (uppL (lo :: l)) := by rw [hB]; exact edgE_idx hUe
  have hAS : SrtL (lowL (lo :: l)) := by rw [hA]; exact edgS_srt g1
  have hBS : ∀ i j : Nat, (uppL (lo :: l))[i]? = some lo → (uppL (lo :: l))[j]? = some lo → i = j := fun i j h5 h6 => by
    have hm : (uppL (lo :: l)).map ng = (st.map ng).reverse := by rw [hB, List.map_reverse]
    rw [← hm] at hUs
    exact srt_ne hUs (x := ng lo) (by rw [List.getElem?_map, h5]; rfl) (by rw [List.getElem?_map, h6]; rfl)
  have hAm : ∀ x ∈ lowL (lo :: l), x ∈ lo :: l := by rw [hA]; exact cyc_mem g2
  have hBm : ∀ x ∈ uppL (lo :: l), x ∈ lo :: l := by rw [hB]; exact cyc_mem hUm
  unfold hulP
  generalize lowL (lo :: l) = A at *
  generalize uppL (lo :: l) = B at *
  have hdA : A.dropLast.length = A.length - 1 := List.length_dropLast ..
  have hdB : B.dropLast.length = B.length - 1 := List.length_dropLast ..
  refine ⟨A.dropLast ++ B, cyc_join hAE hBE (by omega) (by rw [hAn, hB0]), ?_, fun i hi => ?_, ?_, ?_, fun i h0 hi e => ?_, ?_, fun x hx => ?_⟩
  · rw [List.length_append, List.length_append, hdB]; omega
  · rw [List.length_append, hdA, hdB] at hi
    by_cases h : i < A.length - 1
    · rw [List.getElem?_append_left (by omega), List.getElem?_append_left (by omega)]
    · rw [List.getElem?_append_right (by omega), List.getElem?_append_right (by omega), List.getElem?_dropLast, if_pos (by omega)]
  · rw [List.getElem?_append_left (by omega), List.getElem?_dropLast, if_pos (by omega)]
    exact hA0
  · rw [List.length_append, hdA, hdB, List.getElem?_append_right (by omega), hdA, ← hBn]
    congr 1
    omega
  · rw [List.length_append, hdA, hdB] at hi
    by_cases h : i < A.length - 1
    · rw [List.getElem?_append_left (by omega), List.getElem?_dropLast, if_pos h] at e
      have := srt_ne hAS e hA0
      omega
    · rw [List.getElem?_append_right (by omega), hdA] at e
      have := hBS _ _ e hBn
      omega
  · rw [List.length_append, hdA, hdB]; omega
  · rcases List.mem_append.1 hx with h | h
    · exact hAm x (List.dropLast_subset _ h)
    · exact hBm x h
end Go.Proofs.Ytaehfildhmljeaa
