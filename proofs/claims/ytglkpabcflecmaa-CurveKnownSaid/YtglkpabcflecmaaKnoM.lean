/- The curves of the chapter's examples, and what the document says of them, reckoned; for the law CurveKnown. -/
import Derived.Test.YtglkpabcflecmaaJoinA
import Derived.Test.YtglkpabcflecmaaSam
import Derived.Test.YtglkpabcflecmaaCoD
import Derived.Test.YtglkpabcflecmaaNear
import Derived.Test.YtglkpabcflecmaaHold
import Derived.Test.YtglkpabcflecmaaRFlo
namespace Go.Proofs.Ytglkpabcflecmaa

/-- A curve by a list of its points. -/
def crvL (l : List (Int × Int)) : Crv := ⟨l.length, fun i => (l.getD i (0, 0)).1, fun i => (l.getD i (0, 0)).2⟩
theorem allOk_of {c : Crv} {n : Nat} (hn : c.n = n) (h : (List.range n).all (fun i => vldB (c.X i) (c.Y i)) = true) : c.AllOk := by
  intro i hi
  have := List.all_eq_true.1 h i (List.mem_range.2 (by omega))
  exact (vldB_iff _ _).1 this
theorem len_of {c : Crv} {i : Nat} {l : Int} (h : l * l = c.d2 i) (h0 : 0 ≤ l) : c.len i = l := by
  unfold Crv.len
  rw [← h]
  refine isqI_uniq h0 (Int.le_refl _) ?_
  have e : (l + 1) * (l + 1) = l * l + 2 * l + 1 := by grind
  omega
def k1 : Crv := crvL [(0, 0)]
def k2 : Crv := crvL [(0, 0), (300, 400)]
def k3 : Crv := crvL [(0, 0), (3000, 0), (3000, 2000)]
def kA : Crv := crvL [(0, 0), (10000, 0)]
def kB : Crv := crvL [(5000, -5000), (5000, 5000)]
def kD : Crv := crvL [(0, 1500), (10000, 1500)]
def kE : Crv := crvL [(10000, 0), (13000, 4000)]
def kC : Crv := crvL [(0, 0), (10000, 0), (13000, 4000)]

theorem k2_len : k2.len 0 = 500 := len_of (by decide) (by decide)
theorem k3_len0 : k3.len 0 = 3000 := len_of (by decide) (by decide)
theorem k3_len1 : k3.len 1 = 2000 := len_of (by decide) (by decide)
theorem kA_len : kA.len 0 = 10000 := len_of (by decide) (by decide)
theorem kB_len : kB.len 0 = 10000 := len_of (by decide) (by decide)
theorem kD_len : kD.len 0 = 10000 := len_of (by decide) (by decide)
theorem kE_len : kE.len 0 = 5000 := len_of (by decide) (by decide)
theorem kC_len0 : kC.len 0 = 10000 := len_of (by decide) (by decide)
theorem kC_len1 : kC.len 1 = 5000 := len_of (by decide) (by decide)

theorem k1_chk : chkF k1 = 6 := by unfold chkF; rw [if_pos (by decide)]
theorem k2_chk : chkF k2 = 2 := by
  unfold chkF
  rw [if_neg (by decide), if_neg (by decide), if_pos (allOk_of (n := 2) rfl (by decide))]
  show (if firstE k2.ferr 0 ≠ 0 then firstE k2.ferr 0 else k2.ferr 0) = 2
  rw [if_neg (by simp [firstE])]
  unfold Crv.ferr Crv.perr
  rw [k2_len]
  decide
theorem k3_chk : chkF k3 = 12 := by
  unfold chkF
  rw [if_neg (by decide), if_neg (by decide), if_pos (allOk_of (n := 3) rfl (by decide))]
  have e0 : k3.ferr 0 = 0 := by unfold Crv.ferr Crv.perr; rw [k3_len0]; decide
  have e1 : k3.ferr 1 = 12 := by unfold Crv.ferr Crv.perr; rw [k3_len1]; decide
  exact (firstE_at (f := k3.ferr) (k := 1) (n := 2) (by omega) (fun j hj => (by obtain rfl : j = 0 := (by omega); exact e0)) (by rw [e1]; decide)).trans e1
theorem good1 {c : Crv} {l : Int} (hn : c.n = 2) (hok : (List.range 2).all (fun i => vldB (c.X i) (c.Y i)) = true) (hl : c.len 0 = l) (h2 : l * l = c.d2 0) (h3 : 1000 ≤ l) (h4 : l ≤ 1048576) : Good c := by
  refine ⟨by omega, by omega, allOk_of hn hok, fun i hi => ?_⟩
  obtain rfl : i = 0 := by omega
  unfold Crv.ferr Crv.perr
  rw [hl, if_neg (by omega), if_neg (by omega)]
theorem kA_good : Good kA := good1 rfl (by decide) kA_len (by decide) (by decide) (by decide)
theorem kB_good : Good kB := good1 rfl (by decide) kB_len (by decide) (by decide) (by decide)
theorem kD_good : Good kD := good1 rfl (by decide) kD_len (by decide) (by decide) (by decide)
theorem kE_good : Good kE := good1 rfl (by decide) kE_len (by decide) (by decide) (by decide)
theorem kC_good : Good kC := by
  refine ⟨by decide, by decide, allOk_of (n := 3) rfl (by decide), fun i hi => ?_⟩
  have : i = 0 ∨ i = 1 := by have : kC.n = 3 := rfl; omega
  rcases this with rfl | rfl
  · unfold Crv.ferr Crv.perr; rw [kC_len0]; decide
  · unfold Crv.ferr Crv.perr; rw [kC_len1]; decide

/- Pieces and places of E. -/
theorem B_st0 : crvB.st 0 = 0 := rfl
theorem B_st1 : crvB.st 1 = 5000 := by show 0 + crvB.len 0 = 5000; rw [B_len0]; decide
theorem B_chk : chkF crvB = 0 := of_good B_good
theorem B_pj (s : Int) : pieceJ crvB s = if 5000 ≤ s then 1 else 0 := by
  show (if crvB.st 1 ≤ s then 1 else 0) = _
  rw [B_st1]
theorem B_pc1 : pcI crvB 5000 = 1 ∧ pcT crvB 5000 = 0 := by
  unfold pcI pcT
  rw [if_pos B_chk, if_pos B_chk, B_pj, if_pos (by decide), B_st1, B_len1]
  decide
theorem B_pc2 : pcI crvB 10000 = 1 ∧ pcT crvB 10000 = 5000 := by
  unfold pcI pcT
  rw [if_pos B_chk, if_pos B_chk, B_pj, if_pos (by decide), B_st1, B_len1]
  decide
theorem B_pc3 : pcI crvB (-3) = 0 ∧ pcT crvB (-3) = 0 := by
  unfold pcI pcT
  rw [if_pos B_chk, if_pos B_chk, B_pj, if_neg (by decide), B_st0, B_len0]
  decide
theorem B_at1 : atXF crvB 1 = 0 ∧ atYF crvB 1 = 0 := by
  unfold atXF atYF
  rw [if_pos B_chk, if_pos B_chk, B_pj, if_neg (by decide)]
  unfold atX atY
  rw [B_st0, B_len0]
  decide
theorem B_at2 : atXF crvB 5001 = 3001 ∧ atYF crvB 5001 = 4000 := by
  unfold atXF atYF
  rw [if_pos B_chk, if_pos B_chk, B_pj, if_pos (by decide)]
  unfold atX atY
  rw [B_st1, B_len1]
  decide
theorem B_at3 : atXF crvB 99999 = 8000 ∧ atYF crvB 99999 = 4000 := by
  unfold atXF atYF
  rw [if_pos B_chk, if_pos B_chk, B_pj, if_pos (by decide)]
  unfold atX atY
  rw [B_st1, B_len1]
  decide

/- What is near E. -/
theorem okc_of {x : Int} (h : okcB x = true) : okc x := (okcB_iff x).1 h
theorem B_near {p q r : Int} {L : List Int} (hp : okcB p = true) (hq : okcB q = true) (h0 : 0 ≤ r) (h1 : r ≤ 16777216) (h : nearL crvB p q r 2 = L) : nearF crvB p q r = L := by
  unfold nearF
  rw [if_pos ⟨B_chk, ⟨okc_of hp, okc_of hq⟩, h0, h1⟩]
  exact h
theorem B_nearL (p q r : Int) : nearL crvB p q r 2 = ([] ++ if decide (-r * 5000 ≤ footI crvB p q 0) && decide (footI crvB p q 0 ≤ (5000 + r) * 5000) && decide (distI crvB p q 0 ≤ r * 5000) then [0 + min (max (footI crvB p q 0 / 5000) 0) 5000] else []) ++ if decide (-r * 5000 ≤ footI crvB p q 1) && decide (footI crvB p q 1 ≤ (5000 + r) * 5000) && decide (distI crvB p q 1 ≤ r * 5000) then [5000 + min (max (footI crvB p q 1 / 5000) 0) 5000] else [] := by
  show ([] ++ if nearB crvB p q r 0 then [offI crvB p q 0] else []) ++ (if nearB crvB p q r 1 then [offI crvB p q 1] else []) = _
  unfold nearB besideB offI
  rw [B_len0, B_len1, B_st0, B_st1]
theorem B_near1 : nearF crvB 4000 5000 1000 = [6000] := B_near (by decide) (by decide) (by decide) (by decide) ((B_nearL _ _ _).trans (by decide))
theorem B_near2 : nearF crvB 3000 4000 0 = [5000, 5000] := B_near (by decide) (by decide) (by decide) (by decide) ((B_nearL _ _ _).trans (by decide))
theorem B_near3 : nearF crvB 4000 5001 1000 = [] := B_near (by decide) (by decide) (by decide) (by decide) ((B_nearL _ _ _).trans (by decide))
theorem B_holdF {h : Int} {r : Bool} (h0 : 0 ≤ h) (h1 : h ≤ 4000) (hr : ((false || (decide (0 ≤ footI crvB 4000 5000 0) && decide (footI crvB 4000 5000 0 ≤ 5000 * 5000) && decide (distI crvB 4000 5000 0 ≤ h * 5000))) || (decide (0 ≤ footI crvB 4000 5000 1) && decide (footI crvB 4000 5000 1 ≤ 5000 * 5000) && decide (distI crvB 4000 5000 1 ≤ h * 5000))) = r) : holdF crvB 4000 5000 h = r := by
  unfold holdF
  rw [if_pos ⟨B_chk, ⟨okc_of (by decide), okc_of (by decide)⟩, h0, h1⟩]
  rw [show holdL crvB 4000 5000 h (crvB.n - 1) = ((false || holdB crvB 4000 5000 h 0) || holdB crvB 4000 5000 h 1) from rfl]
  unfold holdB
  rw [B_len0, B_len1]
  exact hr
theorem B_hold1 : holdF crvB 4000 5000 1000 = true := B_holdF (by decide) (by decide) (by decide)
theorem B_hold2 : holdF crvB 4000 5000 999 = false := B_holdF (by decide) (by decide) (by decide)

/- Corridors. -/
def cA (h : Int) : Cor := ⟨0, 0, 10000, 0, 10000, 0, h, 0, 10000⟩
def cB (h : Int) : Cor := ⟨5000, -5000, 0, 10000, 10000, 0, h, 0, 10000⟩
def cD (h : Int) : Cor := ⟨0, 1500, 10000, 0, 10000, 0, h, 0, 10000⟩
theorem cor_A (h : Int) : corAt kA h 0 = cA h := by unfold corAt; rw [kA_len]; rfl
theorem cor_B (h : Int) : corAt kB h 0 = cB h := by unfold corAt; rw [kB_len]; rfl
theorem cor_D (h : Int) : corAt kD h 0 = cD h := by unfold corAt; rw [kD_len]; rfl
theorem crs_one {c d : Crv} (gc : Good c) (gd : Good d) (nc : c.n = 2) (nd : d.n = 2) {ha hb : Int} (a0 : 0 ≤ ha) (a1 : ha ≤ 4000) (b0 : 0 ≤ hb) (b1 : hb ≤ 4000) : crsF c d ha hb = crossOf (corAt c ha 0) (corAt d hb 0) := by
  unfold crsF
  rw [if_pos ⟨of_good gc, of_good gd, ⟨a0, a1⟩, b0, b1⟩]
  unfold crossL
  rw [nc, nd]
  show [] ++ ([] ++ crossOf (corAt c ha 0) (corAt d hb 0)) = _
  simp
theorem known_crs1 : crsF kA kB 1000 500 = [⟨4499, 5501, 3999, 6001⟩] := by
  rw [crs_one kA_good kB_good rfl rfl (by decide) (by decide) (by decide) (by decide), cor_A, cor_B]
  kernel_rfl
theorem known_crs2 : crsF kA kD 1000 500 = [⟨0, 10000, 0, 10000⟩] := by
  rw [crs_one kA_good kD_good rfl rfl (by decide) (by decide) (by decide) (by decide), cor_A, cor_D]
  kernel_rfl
theorem known_crs3 : crsF kA kD 999 500 = [] := by
  rw [crs_one kA_good kD_good rfl rfl (by decide) (by decide) (by decide) (by decide), cor_A, cor_D]
  kernel_rfl

/- Joins. -/
theorem known_jn : chkF (jn kA kE) = 0 := by
  have g : Good (jn kA kE) := by
    have l0 : (jn kA kE).len 0 = 10000 := len_of (by decide) (by decide)
    have l1 : (jn kA kE).len 1 = 5000 := len_of (by decide) (by decide)
    refine ⟨by decide, by decide, allOk_of (n := 3) rfl (by decide), fun i hi => ?_⟩
    have : i = 0 ∨ i = 1 := by have : (jn kA kE).n = 3 := rfl; omega
    rcases this with rfl | rfl
    · unfold Crv.ferr Crv.perr; rw [l0]; decide
    · unfold Crv.ferr Crv.perr; rw [l1]; decide
  exact of_good g
theorem known_join1 : jErr kA kE = 0 := by
  unfold jErr
  rw [if_neg (by rw [of_good kA_good]; simp), if_neg (by rw [of_good kE_good]; simp), if_neg (by decide), known_jn]
theorem known_res1 : jRes kA kE = jn kA kE := by unfold jRes; rw [if_pos known_join1]
theorem known_join2 : jErr kA kB = 7 := by
  unfold jErr
  rw [if_neg (by rw [of_good kA_good]; simp), if_neg (by rw [of_good kB_good]; simp), if_pos (by decide)]
theorem known_same : sameB (jn kA kE) kC = true := by decide
end Go.Proofs.Ytglkpabcflecmaa
