/- The law CurveSides: for every four spots and every view the call returns true, and nothing that lay before it has turned. -/
import Derived.Test.YtglkpabcflecmaaBlo
namespace Go.Proofs.Ytglkpabcflecmaa
open Go.RowKit Go.Shelf

theorem crs_swap (a b c : Pt) : crs b a c = - crs a b c := by unfold crs; grind
theorem crs_turn (a b c : Pt) : crs b c a = crs a b c := by unfold crs; grind
theorem sgn_neg (n : Int) : sgn (-n) = - sgn n := by
  unfold sgn
  rcases Int.lt_trichotomy n 0 with h | h | h
  · rw [if_pos (by omega), if_neg (by omega), if_pos h]; rfl
  · subst h; rfl
  · rw [if_neg (by omega), if_pos (by omega), if_pos h]
theorem side_swap (a b c : Pt) : sideF b a c = - sideF a b c := by
  unfold sideF
  rw [crs_swap, sgn_neg]
  cases vp a <;> cases vp b <;> cases vp c <;> simp
theorem side_turn (a b c : Pt) : sideF b c a = sideF a b c := by
  unfold sideF
  rw [crs_turn]
  cases vp a <;> cases vp b <;> cases vp c <;> simp
theorem dsq_swap (a b : Pt) : dsq b a = dsq a b := by unfold dsq; grind
theorem dist_swap (a b : Pt) : distF b a = distF a b := by unfold distF; rw [dsq_swap, Bool.and_comm]
theorem sees_swap (a b : Pt) (v : Int) : seesF b a v = seesF a b v := by unfold seesF; rw [dsq_swap, Bool.and_comm (vp b)]
theorem sees_self (a : Pt) : seesF a a 0 = vp a := by
  unfold seesF
  have e : dsq a a = 0 := by unfold dsq; simp
  rw [e]; simp
theorem ovl_swap1 (a b c d : Int) : ovlF b a c d = ovlF a b c d := by unfold ovlF; rw [Int.max_comm, Int.min_comm b a]
theorem ovl_swap2 (a b c d : Int) : ovlF a b d c = ovlF a b c d := by unfold ovlF; rw [Int.max_comm d c, Int.min_comm d c]
theorem ovl_swap3 (a b c d : Int) : ovlF c d a b = ovlF a b c d := by unfold ovlF; rw [Bool.and_comm]
theorem neg_le (x y : Int) : decide (-x * -y ≤ 0) = decide (x * y ≤ 0) := by rw [Int.neg_mul_neg]
theorem blk_swap1 (a b c d : Pt) : blkF b a c d = blkF a b c d := by
  unfold blkF
  rw [ovl_swap1 a.1 b.1 c.1 d.1, ovl_swap1 a.2 b.2 c.2 d.2, side_swap a b c, side_swap a b d, neg_le, Int.mul_comm (sideF c d b), Bool.and_comm (vp b)]
theorem blk_swap2 (a b c d : Pt) : blkF a b d c = blkF a b c d := by
  unfold blkF
  rw [ovl_swap2 a.1 b.1 c.1 d.1, ovl_swap2 a.2 b.2 c.2 d.2, side_swap c d a, side_swap c d b, neg_le, Int.mul_comm (sideF a b d), Bool.and_assoc (vp a && vp b), Bool.and_comm (vp d), ← Bool.and_assoc]
theorem blk_swap3 (a b c d : Pt) : blkF c d a b = blkF a b c d := by
  unfold blkF
  rw [ovl_swap3 a.1 b.1 c.1 d.1, ovl_swap3 a.2 b.2 c.2 d.2]
  cases vp a <;> cases vp b <;> cases vp c <;> cases vp d <;> simp [Bool.and_comm, Bool.and_left_comm, Bool.and_assoc]
theorem side_same (a b : Pt) : sideF a b b = 0 := by
  unfold sideF
  have e : crs a b b = 0 := by unfold crs; grind
  rw [e]; split <;> rfl
theorem side_same2 (b c : Pt) : sideF b c b = 0 := by
  unfold sideF
  have e : crs b c b = 0 := by unfold crs; simp
  rw [e]; split <;> rfl
theorem blk_end (a b c : Pt) : blkF a b b c = (vp a && vp b && vp c) := by
  unfold blkF
  have o : ∀ x y z : Int, ovlF x y y z = true := fun x y z => by unfold ovlF; simp; omega
  rw [o, o, side_same, side_same2]
  cases vp a <;> cases vp b <;> cases vp c <;> simp

theorem four_boxes' (w : World) (a1 a2 b1 b2 c1 c2 d1 d2 : Value) (W : World) (hW : W = ((((w.alloc (.cells #[a1, a2] 43)).alloc (.cells #[b1, b2] 43)).alloc (.cells #[c1, c2] 43)).alloc (.cells #[d1, d2] 43))) :
    BoxAt W w.heap.size 43 #[a1, a2] ∧ BoxAt W (w.heap.size + 1) 43 #[b1, b2] ∧ BoxAt W (w.heap.size + 1 + 1) 43 #[c1, c2] ∧ BoxAt W (w.heap.size + 1 + 1 + 1) 43 #[d1, d2] ∧ Below w.heap.size w W := by
  subst hW
  have ha := (((BoxAt.new w 43 #[a1, a2]).alloc (.cells #[b1, b2] 43)).alloc (.cells #[c1, c2] 43)).alloc (.cells #[d1, d2] 43)
  have hb := ((BoxAt.new (w.alloc (.cells #[a1, a2] 43)) 43 #[b1, b2]).alloc (.cells #[c1, c2] 43)).alloc (.cells #[d1, d2] 43)
  have hc := (BoxAt.new ((w.alloc (.cells #[a1, a2] 43)).alloc (.cells #[b1, b2] 43)) 43 #[c1, c2]).alloc (.cells #[d1, d2] 43)
  have hd := BoxAt.new (((w.alloc (.cells #[a1, a2] 43)).alloc (.cells #[b1, b2] 43)).alloc (.cells #[c1, c2] 43)) 43 #[d1, d2]
  simp only [World.size_alloc] at hb hc hd
  exact ⟨ha, hb, hc, hd, ((((Below.refl _ w).alloc (Nat.le_refl _) _).alloc (by simp) _).alloc (by simp; omega) _).alloc (by simp; omega) _⟩

theorem boxes_at {w0 W : World} {g1 g2 g3 g4 : Nat} {a1 a2 b1 b2 c1 c2 d1 d2 : Value} (ha : BoxAt w0 g1 43 #[a1, a2]) (hb : BoxAt w0 g2 43 #[b1, b2]) (hc : BoxAt w0 g3 43 #[c1, c2]) (hd : BoxAt w0 g4 43 #[d1, d2]) (h : Below w0.heap.size w0 W) :
    W.cell? ⟨g1, 0, none⟩ = some a1 ∧ W.cell? ⟨g1, 1, none⟩ = some a2 ∧ W.cell? ⟨g2, 0, none⟩ = some b1 ∧ W.cell? ⟨g2, 1, none⟩ = some b2 ∧ W.cell? ⟨g3, 0, none⟩ = some c1 ∧ W.cell? ⟨g3, 1, none⟩ = some c2 ∧ W.cell? ⟨g4, 0, none⟩ = some d1 ∧ W.cell? ⟨g4, 1, none⟩ = some d2 :=
  ⟨(ha.below h ha.lt).cell 0, (ha.below h ha.lt).cell 1, (hb.below h hb.lt).cell 0, (hb.below h hb.lt).cell 1, (hc.below h hc.lt).cell 0, (hc.below h hc.lt).cell 1, (hd.below h hd.lt).cell 0, (hd.below h hd.lt).cell 1⟩

theorem dist_raw (a1 a2 b1 b2 n : Int) (w : World) (hn : Hid (distF (a1, a2) (b1, b2) = n)) :
    Calls Try.prog 39 #[sp a1 a2, sp b1 b2] w fun e w' => e = .returned (.int .i64 n) ∧ Below w.heap.size w w' := dist_any (a1, a2) (b1, b2) n w hn
theorem sees_raw (a1 a2 b1 b2 v : Int) (r : Bool) (w : World) (hr : Hid (seesF (a1, a2) (b1, b2) v = r)) :
    Calls Try.prog 43 #[sp a1 a2, sp b1 b2, .int .i64 v] w fun e w' => e = .returned (.bool r) ∧ Below w.heap.size w w' := sees_any (a1, a2) (b1, b2) v r w hr
theorem blocks_raw (a1 a2 b1 b2 c1 c2 d1 d2 : Int) (r : Bool) (w : World) (hr : Hid (blkF (a1, a2) (b1, b2) (c1, c2) (d1, d2) = r)) :
    Calls Try.prog 41 #[sp a1 a2, sp b1 b2, sp c1 c2, sp d1 d2] w fun e w' => e = .returned (.bool r) ∧ Below w.heap.size w w' := blocks_any (a1, a2) (b1, b2) (c1, c2) (d1, d2) r w hr
end Go.Proofs.Ytglkpabcflecmaa
