/- The reference's 'Blocks': the mathematics. -/
import Derived.Test.YtglkpabcflecmaaRef2
namespace Go.Proofs.Ytglkpabcflecmaa
open Go.RowKit Go.Shelf

theorem sgn_zero (x : Int) : sgn x = 0 ↔ x = 0 := by unfold sgn; split; omega; split <;> omega
theorem sgn_mul (x y : Int) : (sgn x * sgn y < 0 ↔ x * y < 0) ∧ (sgn x * sgn y ≤ 0 ↔ x * y ≤ 0) := by
  have sx : ∀ z : Int, (0 < z ∧ sgn z = 1) ∨ (z < 0 ∧ sgn z = -1) ∨ (z = 0 ∧ sgn z = 0) := by
    intro z
    unfold sgn
    by_cases h : 0 < z
    · exact .inl ⟨h, if_pos h⟩
    · by_cases h2 : z < 0
      · exact .inr (.inl ⟨h2, by rw [if_neg h, if_pos h2]⟩)
      · exact .inr (.inr ⟨by omega, by rw [if_neg h, if_neg h2]⟩)
  rcases sx x with ⟨h, e⟩ | ⟨h, e⟩ | ⟨h, e⟩ <;> rcases sx y with ⟨h', e'⟩ | ⟨h', e'⟩ | ⟨h', e'⟩ <;> rw [e, e']
  · have := Int.mul_pos h h'; omega
  · have := Int.mul_neg_of_pos_of_neg h h'; omega
  · rw [h']; simp
  · have := Int.mul_neg_of_neg_of_pos h h'; omega
  · have := Int.mul_pos_of_neg_of_neg h h'; omega
  · rw [h']; simp
  · rw [h]; simp
  · rw [h]; simp
  · rw [h]; simp

def rblk (a b c d : Pt) (s1 s2 s3 s4 : Int) : Bool :=
  (decide (s1 * s2 < 0) && decide (s3 * s4 < 0)) || (decide (s1 = 0) && bt2 a b c) || (decide (s2 = 0) && bt2 a b d) || (decide (s3 = 0) && bt2 c d a) || (decide (s4 = 0) && bt2 c d b)

theorem side_at {a b c : Pt} (ha : vp a = true) (hb : vp b = true) (hc : vp c = true) : sideF a b c = sgn (cr a.1 a.2 b.1 b.2 c.1 c.2) := by
  unfold sideF; rw [ha, hb, hc]; rfl

theorem blk_ref {a b c d : Pt} (ha : vp a = true) (hb : vp b = true) (hc : vp c = true) (hd : vp d = true) :
    blkF a b c d = rblk a b c d (sideF a b c) (sideF a b d) (sideF c d a) (sideF c d b) := by
  have key := blocks_iff a.1 a.2 b.1 b.2 c.1 c.2 d.1 d.2
  rw [Bool.eq_iff_iff]
  unfold blkF rblk
  rw [side_at ha hb hc, side_at ha hb hd, side_at hc hd ha, side_at hc hd hb, ha, hb, hc, hd]
  simp only [Bool.and_eq_true, Bool.or_eq_true, decide_eq_true_eq, bt2, btF_iff, sgn_zero, (sgn_mul _ _).1, (sgn_mul _ _).2, ovlF]
  unfold ov at key
  constructor
  · rintro ⟨⟨⟨⟨_, h1⟩, h2⟩, h3⟩, h4⟩
    rcases key.1 ⟨h1, h2, h3, h4⟩ with h | h | h | h | h
    · exact .inl (.inl (.inl (.inl h)))
    · exact .inl (.inl (.inl (.inr h)))
    · exact .inl (.inl (.inr h))
    · exact .inl (.inr h)
    · exact .inr h
  · intro h
    obtain ⟨h1, h2, h3, h4⟩ := key.2 (by
      rcases h with (((h | h) | h) | h) | h
      · exact .inl h
      · exact .inr (.inl h)
      · exact .inr (.inr (.inl h))
      · exact .inr (.inr (.inr (.inl h)))
      · exact .inr (.inr (.inr (.inr h))))
    exact ⟨⟨⟨⟨by decide, h1⟩, h2⟩, h3⟩, h4⟩
end Go.Proofs.Ytglkpabcflecmaa
