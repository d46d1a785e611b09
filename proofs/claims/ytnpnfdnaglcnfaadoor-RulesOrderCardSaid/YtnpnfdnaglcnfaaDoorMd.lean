/- Formulas as lists of nodes and as trees; no program. -/
namespace Go.Proofs.YtnpnfdnaglcnfaaDoor

/-- A node. -/
structure Nd where
  op : Int
  l : Int
  r : Int
  k : Int
  lo : Int
  hi : Int

/-- How many parts follow. -/
def prt (op : Int) : Nat := if op = 3 ∨ op = 6 ∨ op = 7 then 1 else if op = 4 ∨ op = 5 ∨ op = 8 then 2 else 0
theorem prt_le (op : Int) : prt op ≤ 2 := by
  unfold prt
  repeat' split
  all_goals omega

/-- Why a node is not valid. -/
def ndE (w : Int) (n : Nd) : Int :=
  if n.op = 1 ∨ n.op = 3 ∨ n.op = 4 ∨ n.op = 5 then (if n.l = 0 ∧ n.r = 0 ∧ n.k = 0 ∧ n.lo = 0 ∧ n.hi = 0 then 0 else 3)
  else if n.op = 2 then (if n.lo = 0 ∧ n.hi = 0 then (if 0 ≤ n.l ∧ n.l ≤ w - 1 ∧ -1 ≤ n.r ∧ n.r ≤ w - 1 ∧ -2199023255552 ≤ n.k ∧ n.k ≤ 2199023255552 then 0 else 2) else 3)
  else if n.op = 6 ∨ n.op = 7 ∨ n.op = 8 then (if n.l = 0 ∧ n.r = 0 ∧ n.k = 0 then (if 0 ≤ n.lo ∧ n.lo ≤ n.hi ∧ n.hi ≤ 20 then 0 else 2) else 3)
  else 4

/-- The first error of a list. -/
def feL {α : Type} (g : α → Int) : List α → Int
  | [] => 0
  | n :: l => if g n ≠ 0 then g n else feL g l
theorem feL_zero {α : Type} {g : α → Int} : ∀ {l : List α}, feL g l = 0 → ∀ n ∈ l, g n = 0
  | [], _, _, h => by cases h
  | m :: l, h, n, hn => by
    unfold feL at h
    split at h
    · rename_i h1; exact absurd h h1
    · rename_i h1
      rcases List.mem_cons.1 hn with rfl | hn
      · exact Classical.not_not.1 h1
      · exact feL_zero h n hn

/-- Why nodes are not just so many formulas. -/
def one : Nat → List Nd → Int
  | 0, [] => 0
  | _ + 1, [] => 6
  | 0, _ :: _ => 5
  | m + 1, n :: l => one (m + prt n.op) l

/-- How many nodes so many formulas have. -/
def beh : Nat → List Nd → Option Nat
  | 0, _ => some 0
  | _ + 1, [] => none
  | m + 1, n :: l => (beh (m + prt n.op) l).map (· + 1)

theorem beh_one : ∀ (l : List Nd) (m : Nat), one m l = (match beh m l with | none => 6 | some c => if c < l.length then 5 else 0)
  | [], 0 => by simp [one, beh]
  | [], _ + 1 => by simp [one, beh]
  | _ :: _, 0 => by simp [one, beh]
  | n :: l, m + 1 => by
    rw [one, beh, beh_one l (m + prt n.op)]
    cases beh (m + prt n.op) l with
    | none => rfl
    | some c => simp

/-- Trees. -/
inductive Fm where
  | lf (n : Nd)
  | un (n : Nd) (a : Fm)
  | bi (n : Nd) (a b : Fm)
def Fm.flat : Fm → List Nd
  | .lf n => [n]
  | .un n a => n :: a.flat
  | .bi n a b => n :: (a.flat ++ b.flat)
def Fm.wf : Fm → Prop
  | .lf n => prt n.op = 0
  | .un n a => prt n.op = 1 ∧ a.wf
  | .bi n a b => prt n.op = 2 ∧ a.wf ∧ b.wf

theorem trees : ∀ (l : List Nd) (m : Nat), one m l = 0 → ∃ ts : List Fm, ts.length = m ∧ (∀ t ∈ ts, t.wf) ∧ ts.flatMap Fm.flat = l
  | [], 0, _ => ⟨[], rfl, (fun _ h => by cases h), rfl⟩
  | [], _ + 1, h => by simp [one] at h
  | _ :: _, 0, h => by simp [one] at h
  | n :: l, m + 1, h => by
    rw [one] at h
    obtain ⟨ts, hl, hw, hf⟩ := trees l _ h
    have hp := prt_le n.op
    match hq : prt n.op, hp with
    | 0, _ =>
      refine ⟨.lf n :: ts, by simp [hl, hq], fun t ht => ?_, by simp [hf, Fm.flat]⟩
      rcases List.mem_cons.1 ht with rfl | ht
      · exact hq
      · exact hw t ht
    | 1, _ =>
      match ts, hl with
      | [], hl => simp [hq] at hl
      | a :: r, hl =>
        refine ⟨.un n a :: r, by simpa [hq] using hl, fun t ht => ?_, by simpa [Fm.flat] using hf⟩
        rcases List.mem_cons.1 ht with rfl | ht
        · exact ⟨hq, hw a (by simp)⟩
        · exact hw t (by simp [ht])
    | 2, _ =>
      match ts, hl with
      | [], hl => simp [hq] at hl
      | [a], hl => simp [hq] at hl
      | a :: b :: r, hl =>
        refine ⟨.bi n a b :: r, by simp [hq] at hl ⊢; omega, fun t ht => ?_, by simpa [Fm.flat] using hf⟩
        rcases List.mem_cons.1 ht with rfl | ht
        · exact ⟨hq, hw a (by simp), hw b (by simp)⟩
        · exact hw t (by simp [ht])

section
variable {V : Type} (v : Nd → V → V → V) (z : V)
/-- One step of a fold: the values of formulas that wait, the first one of the text first. -/
def stp (n : Nd) (st : List V) : List V := v n (if 1 ≤ prt n.op then st.getD 0 z else z) (if 2 ≤ prt n.op then st.getD 1 z else z) :: st.drop (prt n.op)
def stk (l : List Nd) : List V := l.foldr (stp v z) []
def Fm.ev : Fm → V
  | .lf n => v n z z
  | .un n a => v n a.ev z
  | .bi n a b => v n a.ev b.ev
theorem stk_flat : ∀ (t : Fm), t.wf → ∀ rest : List V, t.flat.foldr (stp v z) rest = t.ev v z :: rest
  | .lf n, h, rest => by
    have h : prt n.op = 0 := h
    simp [Fm.flat, Fm.ev, stp, h]
  | .un n a, h, rest => by
    have h1 : prt n.op = 1 := h.1
    simp [Fm.flat, Fm.ev, stk_flat a h.2 rest, stp, h1]
  | .bi n a b, h, rest => by
    have h1 : prt n.op = 2 := h.1
    simp [Fm.flat, Fm.ev, List.foldr_append, stk_flat b h.2.2 rest, stk_flat a h.2.1, stp, h1]
theorem stk_trees : ∀ (ts : List Fm), (∀ t ∈ ts, t.wf) → stk v z (ts.flatMap Fm.flat) = ts.map (Fm.ev v z)
  | [], _ => rfl
  | t :: ts, h => by
    have ih := stk_trees ts fun t ht => h t (by simp [ht])
    unfold stk at ih ⊢
    rw [List.flatMap_cons, List.foldr_append, ih, stk_flat v z t (h t (by simp)), List.map_cons]
theorem stk_len {l : List Nd} {m : Nat} (h : one m l = 0) : (stk v z l).length = m := by
  obtain ⟨ts, hl, hw, hf⟩ := trees l m h
  rw [← hf, stk_trees v z ts hw, List.length_map, hl]
theorem one_drop : ∀ {l : List Nd} {m : Nat}, one m l = 0 → ∀ k, k ≤ l.length → ∃ m', one m' (l.drop k) = 0
  | l, m, h, 0, _ => ⟨m, by simpa using h⟩
  | [], m, h, k + 1, hk => by simp at hk
  | n :: l, 0, h, _ + 1, _ => by simp [one] at h
  | n :: l, m + 1, h, k + 1, hk => by
    rw [one] at h
    obtain ⟨m', h'⟩ := one_drop h k (by simpa using hk)
    exact ⟨m', by simpa using h'⟩
theorem one_prt {n : Nd} {l : List Nd} {m : Nat} (h : one m (n :: l) = 0) : ∃ r, one (r + prt n.op) l = 0 ∧ m = r + 1 := by
  cases m with
  | zero => simp [one] at h
  | succ r => exact ⟨r, by rw [one] at h; exact h, rfl⟩
end

/-- The horizon. -/
def hv (n : Nd) (a b : Int) : Int :=
  if n.op = 3 ∨ n.op = 4 ∨ n.op = 5 then max a b
  else if n.op = 6 ∨ n.op = 7 then n.hi + a
  else if n.op = 8 then (if n.hi = 0 then b else max (n.hi + b) (n.hi - 1 + a))
  else 0
def horL (l : List Nd) : Int := (stk hv 0 l).getD 0 0
/-- Why a formula is not valid, but for its horizon. -/
def shpE (l : List Nd) (w : Int) : Int :=
  if ¬ (1 ≤ w ∧ w ≤ 12) then 2 else if 40 < l.length then 5 else if feL (ndE w) l ≠ 0 then feL (ndE w) l else one 1 l
def chkE (l : List Nd) (w : Int) : Int := if shpE l w ≠ 0 then shpE l w else if 60 < horL l then 8 else 0
def hrzF (l : List Nd) : Int := if shpE l 12 = 0 then horL l else 0
theorem hv_bound {w : Int} {n : Nd} {a b : Int} {t : Nat} (hn : ndE w n = 0) (ha : 0 ≤ a ∧ a ≤ 20 * t) (hb : 0 ≤ b ∧ b ≤ 20 * t) : 0 ≤ hv n a b ∧ hv n a b ≤ 20 * (t + 1 : Nat) := by
  unfold ndE at hn
  unfold hv
  repeat' split at hn
  all_goals (repeat' split)
  all_goals omega
theorem stk_bound {w : Int} : ∀ {l : List Nd}, (∀ n ∈ l, ndE w n = 0) → ∀ x ∈ stk hv 0 l, 0 ≤ x ∧ x ≤ 20 * (l.length : Int)
  | [], _, x, h => by simp [stk] at h
  | n :: l, hn, x, h => by
    have ih := stk_bound (w := w) (l := l) fun n hn' => hn n (by simp [hn'])
    have hg : ∀ i, 0 ≤ (stk hv 0 l).getD i 0 ∧ (stk hv 0 l).getD i 0 ≤ 20 * (l.length : Int) := fun i => by
      rw [List.getD_eq_getElem?_getD]
      cases h : (stk hv 0 l)[i]? with
      | none => simp; omega
      | some y => exact ih y (List.mem_of_getElem? h)
    have hz : (0 : Int) ≤ 0 ∧ (0 : Int) ≤ 20 * (l.length : Int) := by omega
    have e : stk hv 0 (n :: l) = stp hv 0 n (stk hv 0 l) := rfl
    rw [e, stp] at h
    rcases List.mem_cons.1 h with rfl | h
    · have := hv_bound (t := l.length) (hn n (by simp)) (a := if 1 ≤ prt n.op then (stk hv 0 l).getD 0 0 else 0) (b := if 2 ≤ prt n.op then (stk hv 0 l).getD 1 0 else 0) (by split; exact hg 0; exact hz) (by split; exact hg 1; exact hz)
      simpa using this
    · have := ih x (List.mem_of_mem_drop h)
      simp only [List.length_cons]
      omega

/-- Why a row, or a trace, is not valid. -/
def vlE (x : Int) : Int := if -1099511627776 ≤ x ∧ x ≤ 1099511627776 then 0 else 2
def rwE (w : Int) (r : List Int) : Int := if (r.length : Int) ≠ w then 3 else feL vlE r
def trE (t : List (List Int)) (w : Int) : Int := if ¬ (1 ≤ w ∧ w ≤ 12) then 2 else if 400 < t.length then 8 else feL (rwE w) t

def negV (v : Int) : Int := if v = 1 then 0 else if v = 0 then 1 else 2
/-- What 'worst' has after one verdict more: d decides, so is what it had. -/
def wst1 (d so v : Int) : Int := if v = d ∨ (v = 2 ∧ so ≠ d) then v else so
def wst (d so : Int) (l : List Int) : Int := l.foldl (wst1 d) so
def desV (op : Int) : Int := if op = 4 ∨ op = 6 then 0 else 1
/-- A line at a position: T is how many rows there are. -/
def atL (T : Nat) (a : Nat → Int) (i : Nat) : Int := a (min i T)
def betL (T : Nat) (a : Nat → Int) (lo hi : Nat) : List Int := (List.range (min hi T + 1 - min lo T)).map fun j => a (min lo T + j)
/-- A comparison. -/
def cmpV (n : Nd) (t : List (List Int)) (i : Nat) : Int :=
  match t[i]? with
  | none => 2
  | some row => if row.getD n.l.toNat 0 - (if 0 ≤ n.r then row.getD n.r.toNat 0 else 0) ≤ n.k then 1 else 0
/-- What the two closures of 'until' have after so many k: some, all. -/
def untS (lo : Nat) (T : Nat) (a b : Nat → Int) (i : Nat) : Nat → Int × Int
  | 0 => (0, 1)
  | k + 1 =>
    let s := untS lo T a b i k
    (if lo ≤ k then wst1 1 s.1 (wst 0 1 [s.2, atL T b (i + k)]) else s.1, wst1 0 s.2 (atL T a (i + k)))
def untV (n : Nd) (T : Nat) (a b : Nat → Int) (i : Nat) : Int := (untS n.lo.toNat T a b i (n.hi.toNat + 1)).1
/-- The verdict of a node. -/
def vdV (t : List (List Int)) (n : Nd) (a b : Nat → Int) (i : Nat) : Int :=
  if n.op = 2 then cmpV n t i
  else if n.op = 3 then negV (atL t.length a i)
  else if n.op = 4 ∨ n.op = 5 then wst (desV n.op) (negV (desV n.op)) [atL t.length a i, atL t.length b i]
  else if n.op = 6 ∨ n.op = 7 then wst (desV n.op) (negV (desV n.op)) (betL t.length a (i + n.lo.toNat) (i + n.hi.toNat))
  else if n.op = 8 then untV n t.length a b i
  else 1
/-- The lines of a fold. -/
def lnS (t : List (List Int)) (l : List Nd) : List (Nat → Int) := stk (vdV t) (fun _ => 0) l
def vdsF (t : List (List Int)) (l : List Nd) : Nat → Int := (lnS t l).getD 0 fun _ => 0
def evE (l : List Nd) (w : Int) (t : List (List Int)) (i : Int) : Int := if chkE l w ≠ 0 then chkE l w else if trE t w ≠ 0 then trE t w else if i < 0 then 2 else 0
def evV (l : List Nd) (w : Int) (t : List (List Int)) (i : Int) : Int := if evE l w t i ≠ 0 then 0 else vdsF t l (min i.toNat t.length)
/-- Verdicts are 0, 1, 2. -/
def isV (v : Int) : Prop := v = 0 ∨ v = 1 ∨ v = 2
theorem isV_neg (v : Int) : isV (negV v) := by unfold negV isV; repeat' split; all_goals omega
theorem isV_wst1 {d so v : Int} (h1 : isV so) (h2 : isV v) : isV (wst1 d so v) := by unfold wst1; split <;> assumption
theorem isV_wst (d : Int) : ∀ (l : List Int) (so : Int), isV so → (∀ x ∈ l, isV x) → isV (wst d so l)
  | [], _, h, _ => h
  | x :: l, so, h, hl => isV_wst d l _ (isV_wst1 h (hl x (by simp))) fun y hy => hl y (by simp [hy])

theorem wst_append (d so : Int) (l m : List Int) : wst d so (l ++ m) = wst d (wst d so l) m := by unfold wst; rw [List.foldl_append]
theorem wst1_idem (d so v : Int) : wst1 d (wst1 d so v) v = wst1 d so v := by
  unfold wst1
  repeat' split
  all_goals (first | rfl | omega)
theorem wst_rep (d so v : Int) : ∀ k, wst d so (v :: List.replicate k v) = wst1 d so v
  | 0 => rfl
  | k + 1 => by
    have ih := wst_rep d (wst1 d so v) v k
    rw [wst1_idem] at ih
    rw [← ih]
    rfl
/-- The window of positions, each for itself. -/
def winL (T : Nat) (a : Nat → Int) (lo m : Nat) : List Int := (List.range m).map fun j => atL T a (lo + j)
theorem winL_succ (T : Nat) (a : Nat → Int) (lo m : Nat) : winL T a lo (m + 1) = winL T a lo m ++ [atL T a (lo + m)] := by
  unfold winL; rw [List.range_succ, List.map_append]; rfl
theorem wst_win (d so : Int) (T : Nat) (a : Nat → Int) (lo m : Nat) (hm : 0 < m) : wst d so ((List.range (min (lo + m - 1) T + 1 - min lo T)).map fun j => a (min lo T + j)) = wst d so (winL T a lo m) := by
  induction m with
  | zero => omega
  | succ m ih =>
    by_cases h0 : m = 0
    · subst h0
      have e : min (lo + (0 + 1) - 1) T + 1 - min lo T = 1 := by omega
      rw [e]
      rfl
    · have ih := ih (by omega)
      rw [winL_succ, wst_append, ← ih]
      by_cases h : lo + m ≤ T
      · have e : min (lo + (m + 1) - 1) T + 1 - min lo T = (min (lo + m - 1) T + 1 - min lo T) + 1 := by omega
        rw [e, List.range_succ, List.map_append, wst_append]
        have e2 : a (min lo T + (min (lo + m - 1) T + 1 - min lo T)) = atL T a (lo + m) := by unfold atL; congr 1; omega
        simp only [List.map_cons, List.map_nil]
        rw [e2]
      · have e : min (lo + (m + 1) - 1) T + 1 - min lo T = (min (lo + m - 1) T - min lo T) + 1 := by omega
        have e3 : min (lo + m - 1) T + 1 - min lo T = (min (lo + m - 1) T - min lo T) + 1 := by omega
        rw [e, e3, List.range_succ, List.map_append, wst_append]
        have e2 : a (min lo T + (min (lo + m - 1) T - min lo T)) = atL T a (lo + m) := by unfold atL; congr 1; omega
        simp only [List.map_cons, List.map_nil]
        rw [e2]
        exact (wst1_idem _ _ _).symm
theorem bet_win (d so : Int) (T : Nat) (a : Nat → Int) (lo hi : Nat) (h : lo ≤ hi) : wst d so (betL T a lo hi) = wst d so (winL T a lo (hi + 1 - lo)) := by
  have := wst_win d so T a lo (hi + 1 - lo) (by omega)
  have e : lo + (hi + 1 - lo) - 1 = hi := by omega
  rw [e] at this
  exact this
/-- What 'worst' says of a list. -/
theorem wst_d {d : Int} : ∀ (l : List Int) (so : Int), wst d so l = d ↔ so = d ∨ d ∈ l
  | [], so => by simp [wst]
  | v :: l, so => by
    have e : wst d so (v :: l) = wst d (wst1 d so v) l := rfl
    rw [e, wst_d l]
    unfold wst1
    rw [List.mem_cons]
    by_cases h1 : v = d
    · simp [h1]
    · by_cases h2 : v = 2 ∧ so ≠ d
      · rw [if_pos (Or.inr h2)]
        have : d ≠ v := fun h => h1 h.symm
        simp [h1, h2.2, this]
      · rw [if_neg (by simp [h1]; omega)]
        have : d ≠ v := fun h => h1 h.symm
        simp [this]
theorem wst_open {d : Int} (hd : d = 0 ∨ d = 1) : ∀ (l : List Int) (so : Int), wst d so l = 2 ↔ so ≠ d ∧ d ∉ l ∧ (so = 2 ∨ 2 ∈ l)
  | [], so => by simp [wst]; omega
  | v :: l, so => by
    have e : wst d so (v :: l) = wst d (wst1 d so v) l := rfl
    rw [e, wst_open hd l, List.mem_cons, List.mem_cons]
    unfold wst1
    by_cases h1 : v = d
    · simp [h1]
    · have h1' : ¬ d = v := fun h => h1 h.symm
      by_cases h2 : v = 2
      · by_cases h3 : so = d
        · rw [if_neg (by simp [h1, h3])]
          simp [h3]
        · rw [if_pos (Or.inr ⟨h2, h3⟩)]
          simp [h2, h3]
          omega
      · have h2' : ¬ 2 = v := fun h => h2 h.symm
        rw [if_neg (by simp [h1, h2])]
        simp [h1', h2']
/-- Less is known. -/
def lek (v w : Int) : Prop := v = 2 ∨ w = v
theorem lek_refl (v : Int) : lek v v := .inr rfl
theorem lek_neg {v w : Int} (h : lek v w) : lek (negV v) (negV w) := by
  rcases h with rfl | rfl
  · left; rfl
  · exact lek_refl _
theorem lek_wst1 {d so so' v v' : Int} (h1 : lek so so') (h2 : lek v v') (hv : isV v') (hs : isV so') : lek (wst1 d so v) (wst1 d so' v') := by
  unfold lek wst1 isV at *
  repeat' split
  all_goals omega
theorem lek_wst {d : Int} {f g : Nat → Int} : ∀ (m : Nat) (so so' : Int), lek so so' → isV so' → (∀ j, j < m → lek (f j) (g j) ∧ isV (g j)) → lek (wst d so ((List.range m).map f)) (wst d so' ((List.range m).map g))
  | 0, so, so', h, _, _ => h
  | m + 1, so, so', h, hs, hf => by
    rw [List.range_succ, List.map_append, List.map_append, wst_append, wst_append]
    exact lek_wst1 (lek_wst m so so' h hs fun j hj => hf j (by omega)) (hf m (by omega)).1 (hf m (by omega)).2 (isV_wst d _ _ hs fun x hx => by
      obtain ⟨j, hj, rfl⟩ := List.mem_map.1 hx
      exact (hf j (by have := List.mem_range.1 hj; omega)).2)
theorem desV_or (op : Int) : desV op = 0 ∨ desV op = 1 := by unfold desV; split <;> omega
theorem isV_cmp (n : Nd) (t : List (List Int)) (i : Nat) : isV (cmpV n t i) := by
  unfold cmpV isV
  split
  · omega
  · split <;> omega
theorem isV_unt (lo T : Nat) (a b : Nat → Int) (i : Nat) (ha : ∀ j, isV (a j)) (hb : ∀ j, isV (b j)) : ∀ k, isV (untS lo T a b i k).1 ∧ isV (untS lo T a b i k).2
  | 0 => ⟨.inl rfl, .inr (.inl rfl)⟩
  | k + 1 => by
    have ih := isV_unt lo T a b i ha hb k
    refine ⟨?_, isV_wst1 ih.2 (ha _)⟩
    unfold untS
    dsimp only
    split
    · refine isV_wst1 ih.1 (isV_wst _ _ _ (.inr (.inl rfl)) ?_)
      intro x hx
      simp only [List.mem_cons, List.not_mem_nil, or_false] at hx
      rcases hx with rfl | rfl
      · exact ih.2
      · exact hb _
    · exact ih.1
theorem isV_vd (t : List (List Int)) (n : Nd) (a b : Nat → Int) (ha : ∀ j, isV (a j)) (hb : ∀ j, isV (b j)) (i : Nat) : isV (vdV t n a b i) := by
  unfold vdV
  split
  · exact isV_cmp n t i
  split
  · exact isV_neg _
  split
  · refine isV_wst _ _ _ (isV_neg _) ?_
    intro x hx
    simp only [List.mem_cons, List.not_mem_nil, or_false] at hx
    rcases hx with rfl | rfl
    · exact ha _
    · exact hb _
  split
  · refine isV_wst _ _ _ (isV_neg _) ?_
    intro x hx
    unfold betL at hx
    obtain ⟨j, _, rfl⟩ := List.mem_map.1 hx
    exact ha _
  split
  · exact (isV_unt _ _ a b i ha hb _).1
  · exact .inr (.inl rfl)
/-- The line of a tree. -/
def evT (t : List (List Int)) (x : Fm) : Nat → Int := x.ev (vdV t) fun _ => 0
theorem isV_ev (t : List (List Int)) : ∀ (x : Fm) (i : Nat), isV (evT t x i)
  | .lf n, i => isV_vd t n _ _ (fun _ => .inl rfl) (fun _ => .inl rfl) i
  | .un n a, i => isV_vd t n _ _ (isV_ev t a) (fun _ => .inl rfl) i
  | .bi n a b, i => isV_vd t n _ _ (isV_ev t a) (isV_ev t b) i

theorem atL_atL (T : Nat) (a : Nat → Int) (i j : Nat) : atL T a (min i T + j) = atL T a (i + j) := by unfold atL; congr 1; omega
theorem unt_sat (lo T : Nat) (a b : Nat → Int) (i : Nat) : ∀ k, untS lo T a b (min i T) k = untS lo T a b i k
  | 0 => rfl
  | k + 1 => by
    unfold untS
    rw [unt_sat lo T a b i k, atL_atL, atL_atL]
theorem vd_sat (t : List (List Int)) (n : Nd) (a b : Nat → Int) (i : Nat) : vdV t n a b (min i t.length) = vdV t n a b i := by
  unfold vdV
  have e0 : ∀ c : Nat → Int, atL t.length c (min i t.length) = atL t.length c i := fun c => by unfold atL; congr 1; omega
  rw [e0, e0]
  have e1 : cmpV n t (min i t.length) = cmpV n t i := by
    by_cases h : i < t.length
    · rw [Nat.min_eq_left (by omega)]
    · unfold cmpV
      rw [List.getElem?_eq_none (by omega), List.getElem?_eq_none (by omega)]
  have e2 : betL t.length a (min i t.length + n.lo.toNat) (min i t.length + n.hi.toNat) = betL t.length a (i + n.lo.toNat) (i + n.hi.toNat) := by
    unfold betL
    have h1 : min (min i t.length + n.hi.toNat) t.length = min (i + n.hi.toNat) t.length := by omega
    have h2 : min (min i t.length + n.lo.toNat) t.length = min (i + n.lo.toNat) t.length := by omega
    rw [h1, h2]
  have e3 : untV n t.length a b (min i t.length) = untV n t.length a b i := by unfold untV; rw [unt_sat]
  rw [e1, e2, e3]
theorem ev_sat (t : List (List Int)) (x : Fm) (i : Nat) : evT t x (min i t.length) = evT t x i := by
  cases x <;> exact vd_sat t _ _ _ i
theorem ev_atL (t : List (List Int)) (x : Fm) (i : Nat) : atL t.length (evT t x) i = evT t x i := ev_sat t x i
theorem lek_unt {lo T T' : Nat} {a b a' b' : Nat → Int} {i : Nat} (ha : ∀ j, lek (atL T a j) (atL T' a' j)) (hb : ∀ j, lek (atL T b j) (atL T' b' j)) (va : ∀ j, isV (a' j)) (vb : ∀ j, isV (b' j)) :
    ∀ k, lek (untS lo T a b i k).1 (untS lo T' a' b' i k).1 ∧ lek (untS lo T a b i k).2 (untS lo T' a' b' i k).2
  | 0 => ⟨lek_refl _, lek_refl _⟩
  | k + 1 => by
    obtain ⟨h1, h2⟩ := lek_unt (lo := lo) (i := i) ha hb va vb k
    have hv := isV_unt lo T' a' b' i va vb k
    refine ⟨?_, lek_wst1 h2 (ha _) (va _) hv.2⟩
    unfold untS
    dsimp only
    split
    · have h3 : isV (wst1 0 1 (untS lo T' a' b' i k).2) := isV_wst1 (.inr (.inl rfl)) hv.2
      exact lek_wst1 h1 (lek_wst1 (lek_wst1 (lek_refl 1) h2 hv.2 (.inr (.inl rfl))) (hb _) (vb _) h3) (isV_wst1 h3 (vb _)) hv.1
    · exact h1
theorem getD_pre (t u : List (List Int)) (i : Nat) (h : i < t.length) : (t ++ u)[i]? = t[i]? := List.getElem?_append_left h
/-- A node's verdict stays. -/
theorem lek_vd {t u : List (List Int)} {n : Nd} {a b a' b' : Nat → Int} (hlo : n.lo.toNat ≤ n.hi.toNat) (ha : ∀ j, lek (atL t.length a j) (atL (t ++ u).length a' j)) (hb : ∀ j, lek (atL t.length b j) (atL (t ++ u).length b' j)) (va : ∀ j, isV (a' j)) (vb : ∀ j, isV (b' j)) (i : Nat) :
    lek (vdV t n a b i) (vdV (t ++ u) n a' b' i) := by
  unfold vdV
  split
  · by_cases h : i < t.length
    · unfold cmpV; rw [getD_pre t u i h]; exact lek_refl _
    · left; unfold cmpV; rw [List.getElem?_eq_none (by omega)]
  split
  · exact lek_neg (ha i)
  split
  · have h0 := isV_neg (desV n.op)
    exact lek_wst1 (lek_wst1 (lek_refl _) (ha i) (va _) h0) (hb i) (vb _) (isV_wst1 h0 (va _))
  split
  · have e : i + n.lo.toNat ≤ i + n.hi.toNat := by omega
    rw [bet_win _ _ _ _ _ _ e, bet_win _ _ _ _ _ _ e]
    exact lek_wst _ _ _ (lek_refl _) (isV_neg _) fun j _ => ⟨ha _, va _⟩
  split
  · exact (lek_unt ha hb va vb _).1
  · exact lek_refl _
theorem lo_le {w : Int} {n : Nd} (h : ndE w n = 0) : n.lo.toNat ≤ n.hi.toNat := by
  unfold ndE at h
  repeat' split at h
  all_goals omega
def Fm.ok (w : Int) (x : Fm) : Prop := ∀ n ∈ x.flat, ndE w n = 0
/-- P6.9: what is decided stays. -/
theorem stays {w : Int} (t u : List (List Int)) : ∀ (x : Fm), x.ok w → ∀ i, lek (evT t x i) (evT (t ++ u) x i)
  | .lf n, h, i => lek_vd (lo_le (h n (by simp [Fm.flat]))) (fun _ => lek_refl _) (fun _ => lek_refl _) (fun _ => .inl rfl) (fun _ => .inl rfl) i
  | .un n a, h, i => lek_vd (lo_le (h n (by simp [Fm.flat]))) (fun j => by have := stays t u a (fun m hm => h m (by simp [Fm.flat, hm])) j; rw [← ev_atL t, ← ev_atL (t ++ u)] at this; exact this) (fun _ => lek_refl _) (isV_ev _ a) (fun _ => .inl rfl) i
  | .bi n a b, h, i => lek_vd (lo_le (h n (by simp [Fm.flat]))) (fun j => by have := stays t u a (fun m hm => h m (by simp [Fm.flat, hm])) j; rw [← ev_atL t, ← ev_atL (t ++ u)] at this; exact this) (fun j => by have := stays t u b (fun m hm => h m (by simp [Fm.flat, hm])) j; rw [← ev_atL t, ← ev_atL (t ++ u)] at this; exact this) (isV_ev _ a) (isV_ev _ b) i
/-- Decided parts decide. -/
theorem unt_dec {lo T : Nat} {a b : Nat → Int} {i hi : Nat} (ha : ∀ k, k < hi → atL T a (i + k) ≠ 2) (hb : ∀ k, k ≤ hi → atL T b (i + k) ≠ 2) : ∀ k, k ≤ hi → (untS lo T a b i k).1 ≠ 2 ∧ (untS lo T a b i k).2 ≠ 2
  | 0, _ => ⟨(show (0 : Int) ≠ 2 by decide), (show (1 : Int) ≠ 2 by decide)⟩
  | k + 1, hk => by
    obtain ⟨h1, h2⟩ := unt_dec (lo := lo) ha hb k (by omega)
    have h3 := ha k (by omega)
    have h4 := hb k (by omega)
    unfold untS
    dsimp only
    refine ⟨?_, ?_⟩
    · split
      · unfold wst1
        split
        · have : wst 0 1 [(untS lo T a b i k).2, atL T b (i + k)] ≠ 2 := fun h => by
            have := ((wst_open (.inl rfl) _ _).1 h).2.2
            simp only [List.mem_cons, List.not_mem_nil, or_false] at this
            omega
          exact this
        · exact h1
      · exact h1
    · unfold wst1
      split
      · exact h3
      · exact h2
theorem unt_fin {n : Nd} {T : Nat} {a b : Nat → Int} {i : Nat} (ha : ∀ k, k < n.hi.toNat → atL T a (i + k) ≠ 2) (hb : ∀ k, k ≤ n.hi.toNat → atL T b (i + k) ≠ 2) : untV n T a b i ≠ 2 := by
  obtain ⟨h1, h2⟩ := unt_dec (lo := n.lo.toNat) ha hb _ (Nat.le_refl _)
  have h4 := hb _ (Nat.le_refl _)
  unfold untV untS
  dsimp only
  split
  · unfold wst1
    split
    · intro h
      have := ((wst_open (.inl rfl) _ _).1 h).2.2
      simp only [List.mem_cons, List.not_mem_nil, or_false] at this
      omega
    · exact h1
  · exact h1
def Fm.hor (x : Fm) : Int := x.ev hv 0
theorem prt_op0 {n : Nd} (h : prt n.op = 0) : n.op ≠ 3 ∧ n.op ≠ 4 ∧ n.op ≠ 5 ∧ n.op ≠ 6 ∧ n.op ≠ 7 ∧ n.op ≠ 8 := by
  unfold prt at h
  repeat' split at h
  all_goals omega
theorem prt_op1 {n : Nd} (h : prt n.op = 1) : n.op = 3 ∨ n.op = 6 ∨ n.op = 7 := by
  unfold prt at h
  repeat' split at h
  all_goals omega
theorem prt_op2 {n : Nd} (h : prt n.op = 2) : n.op = 4 ∨ n.op = 5 ∨ n.op = 8 := by
  unfold prt at h
  repeat' split at h
  all_goals omega
theorem ok_hi {w : Int} {n : Nd} (h : ndE w n = 0) : 0 ≤ n.lo ∧ n.lo ≤ n.hi ∧ n.hi ≤ 20 := by
  unfold ndE at h
  repeat' split at h
  all_goals omega
theorem hor_nn {w : Int} : ∀ (x : Fm), x.ok w → x.wf → 0 ≤ x.hor
  | .lf n, h, hw => by
    have := prt_op0 hw
    show 0 ≤ hv n 0 0
    unfold hv
    repeat' split
    all_goals omega
  | .un n a, h, hw => by
    have ha := hor_nn a (fun m hm => h m (by simp [Fm.flat, hm])) hw.2
    have := ok_hi (h n (by simp [Fm.flat]))
    show 0 ≤ hv n a.hor 0
    unfold hv
    repeat' split
    all_goals omega
  | .bi n a b, h, hw => by
    have ha := hor_nn a (fun m hm => h m (by simp [Fm.flat, hm])) hw.2.1
    have hb := hor_nn b (fun m hm => h m (by simp [Fm.flat, hm])) hw.2.2
    have := ok_hi (h n (by simp [Fm.flat]))
    show 0 ≤ hv n a.hor b.hor
    unfold hv
    repeat' split
    all_goals omega
/-- P6.10: the horizon decides. -/
theorem decides {w : Int} (t : List (List Int)) : ∀ (x : Fm), x.ok w → x.wf → ∀ i : Nat, (i : Int) + x.hor < t.length → evT t x i ≠ 2
  | .lf n, h, hw, i, hi => by
    have hp := prt_op0 hw
    have e : (Fm.lf n).hor = hv n 0 0 := rfl
    have e0 : hv n 0 0 = 0 := by unfold hv; rw [if_neg (by omega), if_neg (by omega), if_neg (by omega)]
    show vdV t n _ _ i ≠ 2
    unfold vdV
    split
    · unfold cmpV
      rw [List.getElem?_eq_getElem (show i < t.length by omega)]
      dsimp only
      repeat' split
      all_goals omega
    rw [if_neg (by omega), if_neg (by omega), if_neg (by omega), if_neg (by omega)]
    decide
  | .un n a, h, hw, i, hi => by
    have hp := prt_op1 hw.1
    have hb := ok_hi (h n (by simp [Fm.flat]))
    have ih := decides t a (fun m hm => h m (by simp [Fm.flat, hm])) hw.2
    have e : (Fm.un n a).hor = hv n a.hor 0 := rfl
    have h0 := hor_nn a (fun m hm => h m (by simp [Fm.flat, hm])) hw.2
    rw [e] at hi
    unfold hv at hi
    show vdV t n (evT t a) _ i ≠ 2
    unfold vdV
    rw [if_neg (by omega)]
    by_cases h3 : n.op = 3
    · rw [if_pos h3, ev_atL]
      rw [if_pos (by omega)] at hi
      have := ih i (by omega)
      have hv := isV_ev t a i
      unfold negV
      unfold isV at hv
      repeat' split
      all_goals omega
    · rw [if_neg h3, if_neg (by omega), if_pos (by omega)]
      rw [if_neg (by omega), if_pos (by omega)] at hi
      rw [bet_win _ _ _ _ _ _ (by omega)]
      intro hc
      have hc := (wst_open (desV_or _) _ _).1 hc
      have h2 : negV (desV n.op) ≠ 2 := by rcases desV_or n.op with h | h <;> rw [h] <;> decide
      rcases hc.2.2 with h | h
      · exact h2 h
      · obtain ⟨j, hj, hj2⟩ := List.mem_map.1 h
        have hj := List.mem_range.1 hj
        rw [ev_atL] at hj2
        exact ih _ (by omega) hj2
  | .bi n a b, h, hw, i, hi => by
    have hp := prt_op2 hw.1
    have hb := ok_hi (h n (by simp [Fm.flat]))
    have iha := decides t a (fun m hm => h m (by simp [Fm.flat, hm])) hw.2.1
    have ihb := decides t b (fun m hm => h m (by simp [Fm.flat, hm])) hw.2.2
    have h0 := hor_nn a (fun m hm => h m (by simp [Fm.flat, hm])) hw.2.1
    have h1 := hor_nn b (fun m hm => h m (by simp [Fm.flat, hm])) hw.2.2
    have e : (Fm.bi n a b).hor = hv n a.hor b.hor := rfl
    rw [e] at hi
    unfold hv at hi
    show vdV t n (evT t a) (evT t b) i ≠ 2
    unfold vdV
    rw [if_neg (by omega), if_neg (by omega)]
    by_cases h8 : n.op = 8
    · rw [if_neg (by omega), if_neg (by omega), if_pos h8]
      rw [if_neg (by omega), if_neg (by omega), if_pos h8] at hi
      refine unt_fin (fun k hk => ?_) (fun k hk => ?_)
      · rw [ev_atL]
        exact iha _ (by split at hi <;> omega)
      · rw [ev_atL]
        exact ihb _ (by split at hi <;> omega)
    · rw [if_pos (by omega)]
      rw [if_pos (by omega)] at hi
      intro hc
      have hc := (wst_open (desV_or _) _ _).1 hc
      have h2 : negV (desV n.op) ≠ 2 := by rcases desV_or n.op with h | h <;> rw [h] <;> decide
      rcases hc.2.2 with h | h
      · exact h2 h
      · simp only [List.mem_cons, List.not_mem_nil, or_false] at h
        rw [ev_atL, ev_atL] at h
        rcases h with h | h
        · exact iha i (by omega) h.symm
        · exact ihb i (by omega) h.symm
end Go.Proofs.YtnpnfdnaglcnfaaDoor
