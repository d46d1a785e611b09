/- Plain mathematics of curves that are moved: what is near, what holds, corridors and crosses stay. -/
import Derived.Test.YtglkpabcflecmaaCoD
import Derived.Test.YtglkpabcflecmaaJMath
import Derived.Test.YtglkpabcflecmaaNear
import Derived.Test.YtglkpabcflecmaaHold
namespace Go.Proofs.Ytglkpabcflecmaa

namespace Cor
/-- A corridor moved. -/
def sh (A : Cor) (p q : Int) : Cor := { A with x := A.x + p, y := A.y + q }
theorem sh_far (A B : Cor) (p q : Int) : farB (A.sh p q) (B.sh p q) = farB A B := by
  have e : d2 (A.sh p q) (B.sh p q) = d2 A B := by
    show (B.x + p - (A.x + p)) * (B.x + p - (A.x + p)) + (B.y + q - (A.y + q)) * (B.y + q - (A.y + q)) = _
    rw [show B.x + p - (A.x + p) = B.x - A.x by omega, show B.y + q - (A.y + q) = B.y - A.y by omega]
    rfl
  unfold farB
  rw [e]
  rfl
theorem sh_base (A B : Cor) (p q u v : Int) : base (A.sh p q) (B.sh p q) u v = base A B u v := by
  show (u * (B.x + p - (A.x + p)) + v * (B.y + q - (A.y + q))) * B.l = _
  rw [show B.x + p - (A.x + p) = B.x - A.x by omega, show B.y + q - (A.y + q) = B.y - A.y by omega]
  rfl
theorem sh_low (A B : Cor) (p q u v : Int) (j : Nat) : lowK (A.sh p q) (B.sh p q) u v j = lowK A B u v j := by
  induction j with
  | zero => exact sh_base A B p q u v
  | succ j ih => unfold lowK; rw [ih]; rfl
theorem sh_high (A B : Cor) (p q u v : Int) (j : Nat) : highK (A.sh p q) (B.sh p q) u v j = highK A B u v j := by
  induction j with
  | zero => exact sh_base A B p q u v
  | succ j ih => unfold highK; rw [ih]; rfl
theorem sh_sep (A B : Cor) (p q : Int) : sepB (A.sh p q) (B.sh p q) = sepB A B := by
  have h : ∀ i, sepI (A.sh p q) (B.sh p q) i = sepI A B i := fun i => by
    unfold sepI
    rw [sh_low, sh_high]
    rfl
  unfold sepB
  rw [h, h]
theorem sh_meet (A B : Cor) (p q : Int) : meetB (A.sh p q) (B.sh p q) = meetB A B := by
  unfold meetB
  rw [sh_far, sh_sep, sh_sep]
theorem sh_from (A B : Cor) (p q : Int) : cFrom (A.sh p q) (B.sh p q) = cFrom A B := by
  have e : fromN (A.sh p q) (B.sh p q) = fromN A B := by
    have : (fun k : Nat => ((A.sh p q).cut 0 (k : Int)).meetB (B.sh p q)) = fun k : Nat => (A.cut 0 (k : Int)).meetB B := funext fun k => sh_meet (A.cut 0 k) B p q
    unfold fromN
    rw [this]
    rfl
  unfold cFrom
  rw [e]
  rfl
theorem sh_to (A B : Cor) (p q : Int) : cTo (A.sh p q) (B.sh p q) = cTo A B := by
  have e : cutN (A.sh p q) (B.sh p q) = cutN A B := by
    have : (fun k : Nat => ((A.sh p q).cut ((A.sh p q).l - (k : Int)) (A.sh p q).l).meetB (B.sh p q)) = fun k : Nat => (A.cut (A.l - (k : Int)) A.l).meetB B := funext fun k => sh_meet (A.cut (A.l - k) A.l) B p q
    unfold cutN
    rw [this]
    rfl
  unfold cTo
  rw [e]
  rfl
end Cor
theorem sh_cross (A B : Cor) (p q : Int) : crossOf (A.sh p q) (B.sh p q) = crossOf A B := by
  unfold crossOf crossQ
  rw [Cor.sh_meet, Cor.sh_from, Cor.sh_from, Cor.sh_to, Cor.sh_to]
theorem sh_inner (A : Cor) (G : Nat → Cor) (p q : Int) (j : Nat) : innerL (A.sh p q) (fun k => (G k).sh p q) j = innerL A G j := by
  induction j with
  | zero => rfl
  | succ j ih => unfold innerL; rw [ih, sh_cross]
theorem sh_outer (F G : Nat → Cor) (m : Nat) (p q : Int) (i : Nat) : outerL (fun k => (F k).sh p q) (fun k => (G k).sh p q) m i = outerL F G m i := by
  induction i with
  | zero => rfl
  | succ i ih => unfold outerL; rw [ih, sh_inner]
theorem mv_cor (c : Crv) (p q h : Int) : corAt (mv c p q) h = fun i => (corAt c h i).sh p q := funext fun i => by
  unfold corAt Cor.sh
  rw [mv_wx, mv_wy, mv_len, mv_st]
  rfl
theorem mv_crossL (c d : Crv) (p q ha hb : Int) : crossL (mv c p q) (mv d p q) ha hb = crossL c d ha hb := by
  unfold crossL
  rw [mv_cor, mv_cor, sh_outer]
  rfl
theorem mv_crsF {c d : Crv} (p q ha hb : Int) (g1 : Good c) (g2 : Good d) (g3 : Good (mv c p q)) (g4 : Good (mv d p q)) : crsF (mv c p q) (mv d p q) ha hb = crsF c d ha hb := by
  unfold crsF
  rw [of_good g1, of_good g2, of_good g3, of_good g4, mv_crossL]

theorem mv_foot (c : Crv) (p q a b : Int) (i : Nat) : footI (mv c p q) (a + p) (b + q) i = footI c a b i := by
  unfold footI
  rw [mv_wx, mv_wy]
  show _ * (a + p - (c.X i + p)) + _ * (b + q - (c.Y i + q)) = _
  rw [show a + p - (c.X i + p) = a - c.X i by omega, show b + q - (c.Y i + q) = b - c.Y i by omega]
theorem mv_dist (c : Crv) (p q a b : Int) (i : Nat) : distI (mv c p q) (a + p) (b + q) i = distI c a b i := by
  unfold distI sideI
  rw [mv_wx, mv_wy]
  show max (_ * (b + q - (c.Y i + q)) - _ * (a + p - (c.X i + p))) (-(_ * (b + q - (c.Y i + q)) - _ * (a + p - (c.X i + p)))) = _
  rw [show a + p - (c.X i + p) = a - c.X i by omega, show b + q - (c.Y i + q) = b - c.Y i by omega]
theorem mv_nearL (c : Crv) (p q a b r : Int) (k : Nat) : nearL (mv c p q) (a + p) (b + q) r k = nearL c a b r k := by
  induction k with
  | zero => rfl
  | succ k ih =>
    unfold nearL nearB besideB offI
    rw [ih, mv_foot, mv_dist, mv_len, mv_st]
theorem mv_nearF {c : Crv} (p q a b r : Int) (g1 : Good c) (g2 : Good (mv c p q)) (o1 : okc a) (o2 : okc b) (o3 : okc (a + p)) (o4 : okc (b + q)) : nearF (mv c p q) (a + p) (b + q) r = nearF c a b r := by
  unfold nearF
  rw [of_good g1, of_good g2, mv_nearL]
  by_cases h : 0 ≤ r ∧ r ≤ 16777216
  · rw [if_pos ⟨rfl, ⟨o3, o4⟩, h⟩, if_pos ⟨rfl, ⟨o1, o2⟩, h⟩]
    rfl
  · rw [if_neg (fun k => h k.2.2), if_neg (fun k => h k.2.2)]
theorem mv_holdL (c : Crv) (p q a b h : Int) (k : Nat) : holdL (mv c p q) (a + p) (b + q) h k = holdL c a b h k := by
  induction k with
  | zero => rfl
  | succ k ih =>
    unfold holdL holdB
    rw [ih, mv_foot, mv_dist, mv_len]
theorem mv_holdF {c : Crv} (p q a b h : Int) (g1 : Good c) (g2 : Good (mv c p q)) (o1 : okc a) (o2 : okc b) (o3 : okc (a + p)) (o4 : okc (b + q)) : holdF (mv c p q) (a + p) (b + q) h = holdF c a b h := by
  unfold holdF
  rw [of_good g1, of_good g2, mv_holdL]
  by_cases hh : 0 ≤ h ∧ h ≤ 4000
  · rw [if_pos ⟨rfl, ⟨o3, o4⟩, hh⟩, if_pos ⟨rfl, ⟨o1, o2⟩, hh⟩]
    rfl
  · rw [if_neg (fun k => hh k.2.2), if_neg (fun k => hh k.2.2)]
theorem mv_lenF {c : Crv} (p q : Int) (g1 : Good c) (g2 : Good (mv c p q)) : lenF (mv c p q) = lenF c := by
  unfold lenF
  rw [if_pos (of_good g1), if_pos (of_good g2), mv_st]
  rfl
theorem mv_pj (c : Crv) (p q s : Int) (k : Nat) : pj (mv c p q) s k = pj c s k := by
  induction k with
  | zero => rfl
  | succ k ih =>
    unfold pj
    rw [ih, mv_st]
theorem mv_atX {c : Crv} (p q s : Int) (g1 : Good c) (g2 : Good (mv c p q)) : atXF (mv c p q) s = atXF c s + p ∧ atYF (mv c p q) s = atYF c s + q := by
  have e : pieceJ (mv c p q) s = pieceJ c s := mv_pj c p q s _
  unfold atXF atYF
  rw [if_pos (of_good g1), if_pos (of_good g2), if_pos (of_good g1), if_pos (of_good g2), e]
  unfold atX atY
  rw [mv_wx, mv_wy, mv_len, mv_st]
  constructor
  · show c.X _ + p + _ = _; omega
  · show c.Y _ + q + _ = _; omega
end Go.Proofs.Ytglkpabcflecmaa
