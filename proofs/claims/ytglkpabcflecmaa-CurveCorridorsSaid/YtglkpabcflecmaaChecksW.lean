/- The walk of the law CurveChecks. -/
import Derived.Test.YtglkpabcflecmaaCks
namespace Go.Proofs.Ytglkpabcflecmaa
open Go.RowKit Go.Shelf

set_option maxRecDepth 100000 in
set_option maxHeartbeats 8000000 in
theorem checks_long (A : Option Addr) (cap n : Nat) (w : World) (h : 20 < n) :
    Calls Try.prog 3 #[.agg #[.slice A n cap]] w fun e w' => e = .returned (.bool true) ∧ Below w.heap.size w w' := by
  have hB : Below w.heap.size w (w.alloc (.cells #[.slice A n cap] 24)) := (Below.refl _ w).alloc (Nat.le_refl _) _
  have hl := long_any A n cap
  rw [decide_eq_true h] at hl
  have HL := Lib.hid hl
  clear hl h
  go_enter Try.func3, Try.ntmps3
  go_wp2_with (first
    | (go_at_call 17; (with_reducible refine (HL.out _).mono ?_); rintro e w1 ⟨rfl, hb1⟩; replace hB := below_step hB hb1)
    | (go_at_call 18; (with_reducible refine (awake_any _).mono ?_); rintro e w2 ⟨rfl, hb2⟩; replace hB := below_step hB hb2))
  go_ret
  exact ⟨rfl, hB⟩

set_option maxRecDepth 100000 in
set_option maxHeartbeats 8000000 in
theorem checks_short (A : Option Addr) (cap : Nat) (c : Crv) (w : World) (h : Spots w A c.n c.X c.Y) (hn : c.n ≤ 20) :
    Calls Try.prog 3 #[.agg #[.slice A c.n cap]] w fun e w' => e = .returned (.bool true) ∧ Below w.heap.size w w' := by
  have hB : Below w.heap.size w (w.alloc (.cells #[.slice A c.n cap] 24)) := (Below.refl _ w).alloc (Nat.le_refl _) _
  have hBox := BoxAt.new w 24 #[.slice A c.n cap]
  have hl := long_any A c.n cap
  rw [decide_eq_false (by omega : ¬ 20 < c.n)] at hl
  have HL := Lib.hid hl
  have HS := Lib.hid (h.below hB)
  clear hl h
  go_enter Try.func3, Try.ntmps3
  go_upto_region 4 with (first
    | (go_at_call 17; (with_reducible refine (HL.out _).mono ?_); rintro e w1 ⟨rfl, hb1⟩; replace HS := Lib.hid (HS.out.below hb1); replace hBox := box_step hBox hb1; replace hB := below_step hB hb1; have k0 := hBox.cell 0)
    | (go_at_call 19; (with_reducible refine (own_any A c.n cap c.X c.Y hn _ HS.out).mono ?_); rintro e w2 ⟨B, cap2, rfl, hS2, hb2⟩; have HS2 := Lib.hid hS2; clear hS2; replace HS := Lib.hid (HS.out.below hb2); replace hBox := box_step hBox hb2; replace hB := below_step hB hb2))
  have hB3 : Below w.heap.size w (w2.alloc (.cells #[.slice B c.n cap2] 24)) := hB.alloc hB.size _
  have hx3 : Below w2.heap.size w2 (w2.alloc (.cells #[.slice B c.n cap2] 24)) := (Below.refl _ _).alloc (Nat.le_refl _) _
  have SA := Lib.hid (HS.out.below hx3)
  have SB := Lib.hid (HS2.out.below hx3)
  have b0 := box_step hBox hx3
  have b1 := BoxAt.new w2 24 #[.slice B c.n cap2]
  clear HS HS2 hBox hB hx3 k0 hb1 hb2
  obtain ⟨gx, hgx⟩ : ∃ gx, gx = w2.heap.size := ⟨_, rfl⟩
  rw [← hgx] at b1 ⊢
  clear hgx
  generalize w2.alloc (.cells #[.slice B c.n cap2] 24) = w3 at *
  have k0 : w3.cell? ⟨w.heap.size, 0, none⟩ = some (.slice A c.n cap) := b0.cell 0
  have k1 : w3.cell? ⟨gx, 0, none⟩ = some (.slice B c.n cap2) := b1.cell 0
  have l0 := b0.lt
  have l1 := b1.lt
  clear b0 b1
  have hBx : Below w3.heap.size w3 w3.drew := (Below.refl _ _).drew
  go_region_held3 (fun w' => w'.cell? ⟨w.heap.size, 0, none⟩ = some (.slice A c.n cap) ∧ w'.cell? ⟨gx, 0, none⟩ = some (.slice B c.n cap2))
    (refine ⟨?_, ?_⟩ <;> exact (Below.cell hBx (by assumption)).trans (by assumption))
    (first
      | (go_at_call 20; (with_reducible refine (check_any B cap2 c _ (SB.out.below hBx)).mono ?_); rintro e w5 ⟨rfl, hb5⟩; replace hBx := below_step hBx hb5)
      | (go_at_call 21; (with_reducible refine (rcheck_any A cap c _ (SA.out.below hBx)).mono ?_); rintro e w5 ⟨rfl, hb5⟩; replace hBx := below_step hBx hb5)
      | (go_at_call 22; (with_reducible refine (len_any B cap2 c _ (SB.out.below hBx)).mono ?_); rintro e w5 ⟨rfl, hb5⟩; replace hBx := below_step hBx hb5)
      | (go_at_call 23; (with_reducible refine (rlen_any A cap c _ (SA.out.below hBx)).mono ?_); rintro e w5 ⟨rfl, hb5⟩; replace hBx := below_step hBx hb5)
      | (go_at_call 25; (with_reducible refine (pcs_any B cap2 c _ (SB.out.below hBx)).mono ?_); rintro e w5 ⟨P1, cp1, rfl, hL, hb5⟩; have HL1 := Lib.hid hL; clear hL; replace hBx := below_step hBx hb5)
      | (go_at_call 26; (with_reducible refine (rpcs_any A cap c _ (SA.out.below hBx)).mono ?_); rintro e w5 ⟨P2, cp2, rfl, hL, hb5⟩; have HL2 := Lib.hid hL; clear hL; replace HL1 := Lib.hid (HL1.out.below hb5); replace hBx := below_step hBx hb5)
      | (go_at_call 24; (with_reducible refine (same_longs_any P1 P2 (pcN c) cp1 cp2 c.len (pcN_le c) _ HL1.out HL2.out).mono ?_); rintro e w5 ⟨rfl, hb5⟩; replace hBx := below_step hBx hb5)
      | (go_at_call 27; (with_reducible refine (same_spots_any B A c.n cap2 cap c.X c.Y hn _ (SB.out.below hBx) (SA.out.below hBx)).mono ?_); rintro e w5 ⟨rfl, hb5⟩; replace hBx := below_step hBx hb5)
      | (go_at_call 18; (with_reducible refine (awake_any _).mono ?_); rintro e w5 ⟨rfl, hb5⟩; replace hBx := below_step hBx hb5))
  all_goals go_wp2
  all_goals go_ret
  all_goals exact ⟨rfl, hB3.trans (hBx.mono hB3.size)⟩
end Go.Proofs.Ytglkpabcflecmaa
