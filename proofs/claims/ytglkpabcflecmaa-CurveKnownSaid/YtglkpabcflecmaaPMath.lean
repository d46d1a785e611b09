/- Plain mathematics of places: the piece of an offset, found from its start, or by taking lengths away. -/
import Derived.Test.YtglkpabcflecmaaCks
namespace Go.Proofs.Ytglkpabcflecmaa

/-- The last of the pieces 0 to k that starts at or before s. -/
def pj (c : Crv) (s : Int) : Nat → Nat
  | 0 => 0
  | k + 1 => if c.st (k + 1) ≤ s then k + 1 else pj c s k
theorem pj_ok (c : Crv) (s : Int) (k : Nat) : pj c s k ≤ k ∧ (0 < pj c s k → c.st (pj c s k) ≤ s) ∧ (pj c s k < k → s < c.st (pj c s k + 1)) := by
  induction k with
  | zero => exact ⟨Nat.le_refl _, fun h => absurd h (by simp [pj]), fun h => absurd h (by simp)⟩
  | succ k ih =>
    unfold pj
    split
    · rename_i h; exact ⟨Nat.le_refl _, fun _ => h, fun h => absurd h (by omega)⟩
    · rename_i h
      obtain ⟨h1, h2, h3⟩ := ih
      refine ⟨by omega, h2, fun _ => ?_⟩
      rcases Nat.lt_or_ge (pj c s k) k with h4 | h4
      · exact h3 h4
      · have : pj c s k = k := by omega
        rw [this]; omega
/-- The piece of the offset s. -/
def pieceJ (c : Crv) (s : Int) : Nat := pj c s (c.n - 2)
theorem pieceJ_in {c : Crv} (hn : 2 ≤ c.n) (s : Int) : InPiece c s (pieceJ c s) := by
  obtain ⟨h1, h2, h3⟩ := pj_ok c s (c.n - 2)
  exact ⟨by unfold pieceJ; omega, h2, fun h => h3 (by unfold pieceJ at h; omega)⟩

/-- The offset brought into the curve. -/
def clampL (c : Crv) (s : Int) : Int := max 0 (min s (c.st (c.n - 1)))
/-- What the reference takes away, round by round, until the piece is reached. -/
theorem ref_stays {c : Crv} {s : Int} {j i : Nat} (hj : InPiece c s j) (hi : i < c.n - 2) (hle : i ≤ j) (hlt : clampL c s - c.st i < c.len i) : j = i := by
  apply Classical.byContradiction
  intro hne
  have hlt2 : i < j := by omega
  have h1 := hj.ge (by omega)
  have h2 := Crv.st_mono (c := c) (show i + 1 ≤ j by omega)
  have h3 : c.st (i + 1) = c.st i + c.len i := rfl
  have h4 := Crv.st_mono (c := c) (show i + 1 ≤ c.n - 1 by have := hj.lt; omega)
  unfold clampL at hlt
  omega
theorem ref_goes {c : Crv} (hp : ∀ i, i + 1 < c.n → 0 < c.len i) {s : Int} {j i : Nat} (hj : InPiece c s j) (hi : i < c.n - 2) (hle : i ≤ j) (hge : c.len i ≤ clampL c s - c.st i) : i + 1 ≤ j := by
  apply Classical.byContradiction
  intro hne
  obtain rfl : j = i := by omega
  have h1 := hj.up (by omega)
  have h3 : c.st (j + 1) = c.st j + c.len j := rfl
  have h5 := hp j (by omega)
  have h6 := Crv.st_nonneg (c := c) j
  unfold clampL at hge
  omega
theorem ref_at {c : Crv} {s : Int} {j : Nat} (hp : ∀ i, i + 1 < c.n → 0 < c.len i) (hj : InPiece c s j) : clampL c s - c.st j = clampT s (c.st j) (c.len j) := by
  have h1 := hj.ge
  have h2 := hj.up
  have hl := hj.lt
  have h3 : c.st (j + 1) = c.st j + c.len j := rfl
  have h4 := Crv.st_mono (c := c) (show j + 1 ≤ c.n - 1 by omega)
  have h5 := hp j (by omega)
  have h6 := Crv.st_nonneg (c := c) j
  have h7 : j = 0 → c.st j = 0 := fun h => by subst h; rfl
  have h8 : ¬ j + 1 < c.n - 1 → c.st (c.n - 1) = c.st (j + 1) := fun h => by
    have : j + 1 = c.n - 1 := by omega
    rw [this]
  unfold clampL clampT
  rcases Nat.eq_zero_or_pos j with h0 | h0
  · have := h7 h0
    by_cases ha : j + 1 < c.n - 1
    · have := h2 ha; split <;> (try split) <;> omega
    · have := h8 ha; split <;> (try split) <;> omega
  · have := h1 h0
    by_cases ha : j + 1 < c.n - 1
    · have := h2 ha; split <;> (try split) <;> omega
    · have := h8 ha; split <;> (try split) <;> omega

/-- What Piece and At answer. -/
noncomputable def pcI (c : Crv) (s : Int) : Nat := open Classical in if chkF c = 0 then pieceJ c s else 0
noncomputable def pcT (c : Crv) (s : Int) : Int := open Classical in if chkF c = 0 then clampT s (c.st (pieceJ c s)) (c.len (pieceJ c s)) else 0
noncomputable def atXF (c : Crv) (s : Int) : Int := open Classical in if chkF c = 0 then atX c s (pieceJ c s) else 0
noncomputable def atYF (c : Crv) (s : Int) : Int := open Classical in if chkF c = 0 then atY c s (pieceJ c s) else 0
end Go.Proofs.Ytglkpabcflecmaa
