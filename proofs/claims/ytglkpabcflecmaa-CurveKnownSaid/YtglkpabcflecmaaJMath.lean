/- Plain mathematics of curves that are moved, and of two that are joined. -/
import Derived.Test.YtglkpabcflecmaaKMod
import Derived.Test.YtglkpabcflecmaaRLen
import Derived.Test.YtglkpabcflecmaaLngW
namespace Go.Proofs.Ytglkpabcflecmaa

/-- A curve moved by a vector. -/
def mv (c : Crv) (p q : Int) : Crv := ⟨c.n, fun i => c.X i + p, fun i => c.Y i + q⟩
theorem mv_wx (c : Crv) (p q : Int) (i : Nat) : (mv c p q).wx i = c.wx i := by show c.X (i + 1) + p - (c.X i + p) = c.X (i + 1) - c.X i; omega
theorem mv_wy (c : Crv) (p q : Int) (i : Nat) : (mv c p q).wy i = c.wy i := by show c.Y (i + 1) + q - (c.Y i + q) = c.Y (i + 1) - c.Y i; omega
theorem mv_d2 (c : Crv) (p q : Int) (i : Nat) : (mv c p q).d2 i = c.d2 i := by unfold Crv.d2; rw [mv_wx, mv_wy]
theorem mv_len (c : Crv) (p q : Int) (i : Nat) : (mv c p q).len i = c.len i := by unfold Crv.len; rw [mv_d2]
theorem mv_st (c : Crv) (p q : Int) (i : Nat) : (mv c p q).st i = c.st i := by
  induction i with
  | zero => rfl
  | succ i ih => show (mv c p q).st i + (mv c p q).len i = c.st i + c.len i; rw [ih, mv_len]
theorem mv_ferr (c : Crv) (p q : Int) (i : Nat) : (mv c p q).ferr i = c.ferr i := by
  unfold Crv.ferr Crv.perr Crv.turn
  rw [mv_len, mv_d2, mv_wx, mv_wx, mv_wy, mv_wy]
theorem mv_good {c : Crv} (h : Good c) (p q : Int) (hb : ∀ i, i < c.n → okc (c.X i + p) ∧ okc (c.Y i + q)) : Good (mv c p q) :=
  ⟨h.lo, h.hi, hb, fun i hi => by rw [mv_ferr]; exact h.fe i hi⟩

/-- Two curves, the second one of which begins where the first one ends. -/
def jn (a b : Crv) : Crv := ⟨a.n + b.n - 1, fun i => if i < a.n then a.X i else b.X (i - (a.n - 1)), fun i => if i < a.n then a.Y i else b.Y (i - (a.n - 1))⟩
section
variable {a b : Crv} (hx : a.X (a.n - 1) = b.X 0) (hy : a.Y (a.n - 1) = b.Y 0) (ha : 2 ≤ a.n) (hb : 2 ≤ b.n)
include hx ha in
theorem jn_X2 (k : Nat) : (jn a b).X (a.n - 1 + k) = b.X k := by
  show (if a.n - 1 + k < a.n then a.X (a.n - 1 + k) else b.X (a.n - 1 + k - (a.n - 1))) = b.X k
  rcases Nat.eq_zero_or_pos k with h | h
  · subst h; rw [if_pos (by omega)]; exact hx
  · rw [if_neg (by omega), show a.n - 1 + k - (a.n - 1) = k by omega]
include hy ha in
theorem jn_Y2 (k : Nat) : (jn a b).Y (a.n - 1 + k) = b.Y k := by
  show (if a.n - 1 + k < a.n then a.Y (a.n - 1 + k) else b.Y (a.n - 1 + k - (a.n - 1))) = b.Y k
  rcases Nat.eq_zero_or_pos k with h | h
  · subst h; rw [if_pos (by omega)]; exact hy
  · rw [if_neg (by omega), show a.n - 1 + k - (a.n - 1) = k by omega]
theorem jn_X1 {i : Nat} (hi : i < a.n) : (jn a b).X i = a.X i := if_pos hi
theorem jn_Y1 {i : Nat} (hi : i < a.n) : (jn a b).Y i = a.Y i := if_pos hi
theorem jn_w1 {i : Nat} (hi : i + 1 < a.n) : (jn a b).wx i = a.wx i ∧ (jn a b).wy i = a.wy i := by
  unfold Crv.wx Crv.wy
  rw [jn_X1 hi, jn_X1 (by omega), jn_Y1 hi, jn_Y1 (by omega)]
  exact ⟨rfl, rfl⟩
include hx hy ha in
theorem jn_w2 (k : Nat) : (jn a b).wx (a.n - 1 + k) = b.wx k ∧ (jn a b).wy (a.n - 1 + k) = b.wy k := by
  have h1 := jn_X2 hx ha k
  have h2 := jn_X2 hx ha (k + 1)
  have h3 := jn_Y2 hy ha k
  have h4 := jn_Y2 hy ha (k + 1)
  exact ⟨by show (jn a b).X (a.n - 1 + k + 1) - (jn a b).X (a.n - 1 + k) = _; rw [h1, show a.n - 1 + k + 1 = a.n - 1 + (k + 1) by omega, h2]; rfl,
    by show (jn a b).Y (a.n - 1 + k + 1) - (jn a b).Y (a.n - 1 + k) = _; rw [h3, show a.n - 1 + k + 1 = a.n - 1 + (k + 1) by omega, h4]; rfl⟩
theorem jn_d1 {i : Nat} (hi : i + 1 < a.n) : (jn a b).d2 i = a.d2 i ∧ (jn a b).len i = a.len i := by
  obtain ⟨h1, h2⟩ := jn_w1 (b := b) hi
  have h3 : (jn a b).d2 i = a.d2 i := by unfold Crv.d2; rw [h1, h2]
  exact ⟨h3, by unfold Crv.len; rw [h3]⟩
include hx hy ha in
theorem jn_d2 (k : Nat) : (jn a b).d2 (a.n - 1 + k) = b.d2 k ∧ (jn a b).len (a.n - 1 + k) = b.len k := by
  obtain ⟨h1, h2⟩ := jn_w2 hx hy ha k
  have h3 : (jn a b).d2 (a.n - 1 + k) = b.d2 k := by unfold Crv.d2; rw [h1, h2]
  exact ⟨h3, by unfold Crv.len; rw [h3]⟩
theorem jn_st1 {i : Nat} (hi : i < a.n) : (jn a b).st i = a.st i := by
  induction i with
  | zero => rfl
  | succ i ih => show (jn a b).st i + (jn a b).len i = a.st i + a.len i; rw [ih (by omega), (jn_d1 (b := b) hi).2]
include hx hy ha in
theorem jn_st2 (k : Nat) : (jn a b).st (a.n - 1 + k) = a.st (a.n - 1) + b.st k := by
  induction k with
  | zero => rw [Nat.add_zero, jn_st1 (by omega)]; show _ = _ + 0; omega
  | succ k ih => show (jn a b).st (a.n - 1 + k) + (jn a b).len (a.n - 1 + k) = a.st (a.n - 1) + (b.st k + b.len k); rw [ih, (jn_d2 hx hy ha k).2]; omega
include hx hy ha hb in
theorem jn_len : (jn a b).st ((jn a b).n - 1) = a.st (a.n - 1) + b.st (b.n - 1) := by
  have h : (jn a b).n - 1 = a.n - 1 + (b.n - 1) := by show a.n + b.n - 1 - 1 = _; omega
  rw [h, jn_st2 hx hy ha]
theorem jn_fe1 {i : Nat} (hi : i + 1 < a.n) : (jn a b).ferr i = a.ferr i := by
  obtain ⟨h1, h2⟩ := jn_d1 (b := b) hi
  obtain ⟨h3, h4⟩ := jn_w1 (b := b) hi
  obtain ⟨h5, h6⟩ := jn_w1 (a := a) (b := b) (i := i - 1) (by omega)
  unfold Crv.ferr Crv.perr Crv.turn
  rw [h1, h2, h3, h4, h5, h6]
include hx hy ha in
theorem jn_fe2 {k : Nat} (hk : 0 < k) : (jn a b).ferr (a.n - 1 + k) = b.ferr k := by
  obtain ⟨h1, h2⟩ := jn_d2 hx hy ha k
  obtain ⟨h3, h4⟩ := jn_w2 hx hy ha k
  obtain ⟨h5, h6⟩ := jn_w2 hx hy ha (k - 1)
  rw [show a.n - 1 + (k - 1) = a.n - 1 + k - 1 by omega] at h5 h6
  unfold Crv.ferr Crv.perr Crv.turn
  rw [h1, h2, h3, h4, h5, h6]
  have e : (0 < a.n - 1 + k) = (0 < k) := propext ⟨fun _ => hk, fun _ => by omega⟩
  simp only [e]
include hx hy ha in
theorem jn_fe0 (hg : b.perr 0 = 0) : (jn a b).ferr (a.n - 1) = 0 ∨ (jn a b).ferr (a.n - 1) = 12 := by
  obtain ⟨h1, h2⟩ := jn_d2 hx hy ha 0
  rw [Nat.add_zero] at h1 h2
  have hp : (jn a b).perr (a.n - 1) = 0 := by unfold Crv.perr at hg ⊢; rw [h1, h2]; exact hg
  unfold Crv.ferr
  rw [if_neg (by simp [hp])]
  split
  · exact .inr rfl
  · exact .inl rfl
include hx hy in
theorem jn_chk (ga : Good a) (gb : Good b) (hn : a.n + b.n - 1 ≤ 16) : chkF (jn a b) = 0 ∨ chkF (jn a b) = 12 := by
  have ha := ga.lo
  have hb := gb.lo
  have hok : (jn a b).AllOk := fun i hi => by
    have hi' : i < a.n + b.n - 1 := hi
    rcases Nat.lt_or_ge i a.n with h | h
    · rw [jn_X1 h, jn_Y1 h]; exact ga.ok i h
    · have e : i = a.n - 1 + (i - (a.n - 1)) := by omega
      rw [e, jn_X2 hx ha, jn_Y2 hy ha]; exact gb.ok _ (by omega)
  have hp0 : b.perr 0 = 0 := by
    have := gb.fe 0 (by omega)
    unfold Crv.ferr at this
    by_cases h : b.perr 0 = 0
    · exact h
    · rw [if_pos h] at this; exact this
  have hnn : (jn a b).n = a.n + b.n - 1 := rfl
  unfold chkF
  rw [if_neg (by omega), if_neg (by omega), if_pos hok]
  have h1 : ∀ j, j < a.n - 1 → (jn a b).ferr j = 0 := fun j hj => by rw [jn_fe1 (b := b) (by omega)]; exact ga.fe j (by omega)
  rcases jn_fe0 hx hy ha hp0 with h0 | h0
  · left
    refine firstE_zero (fun j hj => ?_)
    rcases Nat.lt_or_ge j (a.n - 1) with h | h
    · exact h1 j h
    · rcases Nat.eq_or_lt_of_le h with h2 | h2
      · rw [← h2]; exact h0
      · have e : j = a.n - 1 + (j - (a.n - 1)) := by omega
        rw [e, jn_fe2 hx hy ha (by omega)]; exact gb.fe _ (by omega)
  · right
    rw [firstE_at (k := a.n - 1) (by omega) h1 (by rw [h0]; decide), h0]
include ha hb in
theorem jn_at1 {s : Int} {j : Nat} (hj : InPiece a s j) (hs : s < a.st (a.n - 1)) : InPiece (jn a b) s j ∧ atX (jn a b) s j = atX a s j ∧ atY (jn a b) s j = atY a s j := by
  have hl := hj.lt
  obtain ⟨w1, w2⟩ := jn_w1 (b := b) (i := j) (show j + 1 < a.n by omega)
  have hd := (jn_d1 (b := b) (i := j) (show j + 1 < a.n by omega)).2
  have hs1 := jn_st1 (b := b) (i := j) (show j < a.n by omega)
  have hnn : (jn a b).n = a.n + b.n - 1 := rfl
  refine ⟨⟨by omega, fun h => by rw [hs1]; exact hj.ge h, fun h => ?_⟩, ?_, ?_⟩
  · rw [jn_st1 (b := b) (i := j + 1) (by omega)]
    by_cases h2 : j + 1 < a.n - 1
    · exact hj.up h2
    · have : j + 1 = a.n - 1 := by omega
      rw [this]; exact hs
  · unfold atX; rw [hs1, hd, w1, jn_X1 (by omega)]
  · unfold atY; rw [hs1, hd, w2, jn_Y1 (by omega)]
include hx hy ha hb in
theorem jn_at2 {s : Int} {j : Nat} (hj : InPiece b (s - a.st (a.n - 1)) j) (hs : a.st (a.n - 1) ≤ s) :
    InPiece (jn a b) s (a.n - 1 + j) ∧ atX (jn a b) s (a.n - 1 + j) = atX b (s - a.st (a.n - 1)) j ∧ atY (jn a b) s (a.n - 1 + j) = atY b (s - a.st (a.n - 1)) j := by
  have hl := hj.lt
  obtain ⟨w1, w2⟩ := jn_w2 hx hy ha j
  have hd := (jn_d2 hx hy ha j).2
  have hs1 := jn_st2 hx hy ha j
  have hnn : (jn a b).n = a.n + b.n - 1 := rfl
  have hct : clampT s (a.st (a.n - 1) + b.st j) (b.len j) = clampT (s - a.st (a.n - 1)) (b.st j) (b.len j) := by
    unfold clampT; rw [show s - (a.st (a.n - 1) + b.st j) = s - a.st (a.n - 1) - b.st j by omega]
  refine ⟨⟨by omega, fun _ => ?_, fun h => ?_⟩, ?_, ?_⟩
  · rw [hs1]
    rcases Nat.eq_zero_or_pos j with h2 | h2
    · subst h2; show _ + (0 : Int) ≤ s; omega
    · have := hj.ge h2; omega
  · have := hj.up (by omega)
    rw [show a.n - 1 + j + 1 = a.n - 1 + (j + 1) by omega, jn_st2 hx hy ha]; omega
  · unfold atX; rw [hs1, hd, w1, jn_X2 hx ha, hct]
  · unfold atY; rw [hs1, hd, w2, jn_Y2 hy ha, hct]
end
end Go.Proofs.Ytglkpabcflecmaa
