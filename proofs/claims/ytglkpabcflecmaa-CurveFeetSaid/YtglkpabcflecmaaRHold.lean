/- The reference's Holds of any curve, half width and spot. -/
import Derived.Test.YtglkpabcflecmaaRHol
import Derived.Test.YtglkpabcflecmaaRNear
namespace Go.Proofs.Ytglkpabcflecmaa
open Go.RowKit Go.Shelf

set_option maxRecDepth 100000 in
set_option maxHeartbeats 4000000 in
theorem rholds_bad (A : Option Addr) (cap : Nat) (c : Crv) (p q r : Int) (w : World) (h : Spots w A c.n c.X c.Y) (hne : ¬ (chkF c = 0 ∧ (okc p ∧ okc q) ∧ 0 ≤ r ∧ r ≤ 4000)) :
    Calls Try.prog 36 #[.agg #[.slice A c.n cap], .int .i64 r, sp p q] w fun e w' => e = .returned (.bool false) ∧ Below w.heap.size w w' := by
  have hB : Below w.heap.size w ((w.alloc (.cells #[.slice A c.n cap] 24)).alloc (.cells #[.int .i64 p, .int .i64 q] 43)) := ((Below.refl _ w).alloc (Nat.le_refl _) _).alloc (by simp) _
  have b24 := (BoxAt.new w 24 #[.slice A c.n cap]).alloc (.cells #[.int .i64 p, .int .i64 q] 43)
  have HS := Lib.hid h
  clear h
  by_cases hr0 : 0 ≤ r
  · by_cases hr1 : r ≤ 4000
    · have e1 : decide (r < 0) = false := decide_eq_false (by omega)
      have e2 : decide (4000 < r) = false := decide_eq_false (by omega)
      by_cases hv : okc p ∧ okc q
      · have HV : Hid (vp (p, q) = true) := (vp_iff _).2 hv
        have hc : chkF c ≠ 0 := fun hc => hne ⟨hc, hv, hr0, hr1⟩
        have HC := Lib.hid hc
        clear hc hne hv
        go_enter Try.func36, Try.ntmps36
        go_wp2_with (first
          | (go_at_call 63; (with_reducible refine (rvalid_any p q true _ HV).mono ?_); rintro e w1 ⟨rfl, hb1⟩; have c24 := box_step b24 hb1; replace hB := below_step hB hb1; have k0 : w1.cell? ⟨w.heap.size, 0, none⟩ = some (.slice A c.n cap) := c24.cell 0)
          | (go_at_call 26; (with_reducible refine (rpcs_bad A cap c _ (HS.out.below hB) HC.out).mono ?_); rintro e w2 ⟨rfl, hb2⟩; replace hB := below_step hB hb2))
        go_loopw [8] (fun i wr => i = .int .i64 0 ∧ Below w.heap.size w wr) (fun _ _ => 0)
        case atStart => exact ⟨rfl, hB⟩
        case round =>
          obtain ⟨rfl, hB2⟩ := hrel
          go_wp2
          go_ret
          exact ⟨rfl, hB2⟩
      · have hvf : vp (p, q) = false := by cases hx : vp (p, q) with | false => rfl | true => exact absurd ((vp_iff _).1 hx) hv
        have HV := Lib.hid hvf
        clear hvf hne hv
        go_enter Try.func36, Try.ntmps36
        go_wp2_with (go_at_call 63; (with_reducible refine (rvalid_any p q false _ HV).mono ?_); rintro e w1 ⟨rfl, hb1⟩; replace hB := below_step hB hb1)
        go_ret
        exact ⟨rfl, hB⟩
    · have e1 : decide (r < 0) = false := decide_eq_false (by omega)
      have e2 : decide (4000 < r) = true := decide_eq_true (by omega)
      clear hne
      go_enter Try.func36, Try.ntmps36
      go_wp2
      go_ret
      exact ⟨rfl, hB⟩
  · have e1 : decide (r < 0) = true := decide_eq_true (by omega)
    clear hne
    go_enter Try.func36, Try.ntmps36
    go_wp2
    go_ret
    exact ⟨rfl, hB⟩

theorem rholds_any (A : Option Addr) (cap : Nat) (c : Crv) (p q r : Int) (w : World) (h : Spots w A c.n c.X c.Y) :
    Calls Try.prog 36 #[.agg #[.slice A c.n cap], .int .i64 r, sp p q] w fun e w' => e = .returned (.bool (holdF c p q r)) ∧ Below w.heap.size w w' := by
  unfold holdF
  by_cases hc : chkF c = 0 ∧ (okc p ∧ okc q) ∧ 0 ≤ r ∧ r ≤ 4000
  · rw [if_pos hc]
    have hg := good_of hc.1
    obtain ⟨b, off, rfl, hp⟩ := h (by have := hg.lo; omega)
    exact rholds_good b off cap c hg p q r hc.2.1.1 hc.2.1.2 hc.2.2.1 hc.2.2.2 w hp
  · rw [if_neg hc]
    exact rholds_bad A cap c p q r w h hc
end Go.Proofs.Ytglkpabcflecmaa
