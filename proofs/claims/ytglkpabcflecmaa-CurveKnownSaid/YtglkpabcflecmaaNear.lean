/- The program's Near of any curve, spot and reach. -/
import Derived.Test.YtglkpabcflecmaaNearG
namespace Go.Proofs.Ytglkpabcflecmaa
open Go.RowKit Go.Shelf

/-- What Near answers. -/
noncomputable def nearF (c : Crv) (p q r : Int) : List Int := open Classical in if chkF c = 0 ∧ (okc p ∧ okc q) ∧ 0 ≤ r ∧ r ≤ 16777216 then nearL c p q r (c.n - 1) else []
theorem nearF_len (c : Crv) (p q r : Int) : (nearF c p q r).length ≤ 16 := by
  unfold nearF
  split
  · rename_i h
    have := nearL_len c p q r (c.n - 1)
    have := (good_of h.1).hi
    omega
  · simp

set_option maxRecDepth 100000 in
set_option maxHeartbeats 4000000 in
theorem near_bad (A : Option Addr) (cap : Nat) (c : Crv) (p q r : Int) (w : World) (h : Spots w A c.n c.X c.Y) (hne : ¬ (chkF c = 0 ∧ (okc p ∧ okc q) ∧ 0 ≤ r ∧ r ≤ 16777216)) :
    Calls Try.prog 33 #[.agg #[.slice A c.n cap], sp p q, .int .i64 r] w fun e w' => e = .returned (.slice none 0 0) ∧ Below w.heap.size w w' := by
  obtain ⟨b24, b43, b2, hB⟩ := three_boxes w (.slice A c.n cap) p q r
  have h' := h.below hB
  obtain ⟨k, hk⟩ : ∃ k, k = chkF c := ⟨_, rfl⟩
  have HC := Lib.hid (fun W (hW : Spots W A c.n c.X c.Y) => check_any A cap c W hW)
  rw [← hk] at HC hne
  have HS := Lib.hid h'
  clear hk h h'
  by_cases hz : k = 0
  · subst hz
    by_cases hv : okc p ∧ okc q
    · have hvt := (vldB_iff p q).2 hv
      by_cases hr0 : 0 ≤ r
      · have hr1 : 16777216 < r := by
          apply Classical.byContradiction
          intro hc
          exact hne ⟨rfl, hv, hr0, by omega⟩
        clear hne
        go_enter Try.func33, Try.ntmps33
        go_wp2_with (first
          | (go_at_call 20; (with_reducible refine (HC.out _ HS.out).mono ?_); rintro e w1 ⟨rfl, hb1⟩; have c43 := box_step b43 hb1; have c2 := box_step b2 hb1; replace hB := below_step hB hb1; have k0 : w1.cell? ⟨w.heap.size + 1, 0, none⟩ = some (.int .i64 p) := c43.cell 0; have k1 : w1.cell? ⟨w.heap.size + 1, 1, none⟩ = some (.int .i64 q) := c43.cell 1)
          | (go_at_call 59; (with_reducible refine (valid_one _ p q _ (BoxAt.new _ _ _)).mono ?_); rintro e w2 ⟨rfl, hb2⟩; rw [hvt]; have d2 := box_step (c2.alloc _) hb2; replace hB := below_step2 hB hb2; have k2 : w2.cell? ⟨w.heap.size + 1 + 1, 0, none⟩ = some (.int .i64 r) := d2.cell 0))
        go_ret
        exact ⟨rfl, hB⟩
      · have hr1 : r < 0 := by omega
        clear hne
        go_enter Try.func33, Try.ntmps33
        go_wp2_with (first
          | (go_at_call 20; (with_reducible refine (HC.out _ HS.out).mono ?_); rintro e w1 ⟨rfl, hb1⟩; have c43 := box_step b43 hb1; have c2 := box_step b2 hb1; replace hB := below_step hB hb1; have k0 : w1.cell? ⟨w.heap.size + 1, 0, none⟩ = some (.int .i64 p) := c43.cell 0; have k1 : w1.cell? ⟨w.heap.size + 1, 1, none⟩ = some (.int .i64 q) := c43.cell 1)
          | (go_at_call 59; (with_reducible refine (valid_one _ p q _ (BoxAt.new _ _ _)).mono ?_); rintro e w2 ⟨rfl, hb2⟩; rw [hvt]; have d2 := box_step (c2.alloc _) hb2; replace hB := below_step2 hB hb2; have k2 : w2.cell? ⟨w.heap.size + 1 + 1, 0, none⟩ = some (.int .i64 r) := d2.cell 0))
        go_ret
        exact ⟨rfl, hB⟩
    · have hvf : vldB p q = false := by cases hx : vldB p q with | false => rfl | true => exact absurd ((vldB_iff p q).1 hx) hv
      clear hne
      go_enter Try.func33, Try.ntmps33
      go_wp2_with (first
        | (go_at_call 20; (with_reducible refine (HC.out _ HS.out).mono ?_); rintro e w1 ⟨rfl, hb1⟩; have c43 := box_step b43 hb1; have c2 := box_step b2 hb1; replace hB := below_step hB hb1; have k0 : w1.cell? ⟨w.heap.size + 1, 0, none⟩ = some (.int .i64 p) := c43.cell 0; have k1 : w1.cell? ⟨w.heap.size + 1, 1, none⟩ = some (.int .i64 q) := c43.cell 1)
        | (go_at_call 59; (with_reducible refine (valid_one _ p q _ (BoxAt.new _ _ _)).mono ?_); rintro e w2 ⟨rfl, hb2⟩; rw [hvf]; replace hB := below_step2 hB hb2))
      go_ret
      exact ⟨rfl, hB⟩
  · have hrb : (k == 0) = false := by simp [hz]
    have hrn : (k != 0) = true := by simp [hz]
    clear hne hz
    go_enter Try.func33, Try.ntmps33
    go_wp2_with (go_at_call 20; (with_reducible refine (HC.out _ HS.out).mono ?_); rintro e w1 ⟨rfl, hb1⟩; replace hB := below_step hB hb1)
    go_ret
    exact ⟨rfl, hB⟩

theorem near_any (A : Option Addr) (cap : Nat) (c : Crv) (p q r : Int) (w : World) (h : Spots w A c.n c.X c.Y) :
    Calls Try.prog 33 #[.agg #[.slice A c.n cap], sp p q, .int .i64 r] w (NearPost (nearF c p q r) w) := by
  unfold nearF
  by_cases hc : chkF c = 0 ∧ (okc p ∧ okc q) ∧ 0 ≤ r ∧ r ≤ 16777216
  · rw [if_pos hc]
    have hg := good_of hc.1
    obtain ⟨b, off, rfl, hp⟩ := h (by have := hg.lo; omega)
    exact near_good b off cap c hg p q r hc.2.1.1 hc.2.1.2 hc.2.2.1 hc.2.2.2 w hp
  · rw [if_neg hc]
    refine (near_bad A cap c p q r w h hc).mono ?_
    rintro e w' ⟨rfl, hb⟩
    exact ⟨none, 0, rfl, fun h => absurd h (by simp), hb⟩
end Go.Proofs.Ytglkpabcflecmaa
