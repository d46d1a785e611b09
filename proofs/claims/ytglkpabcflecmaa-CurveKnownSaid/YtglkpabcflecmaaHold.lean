/- The program's Holds of any curve, half width and spot. -/
import Derived.Test.YtglkpabcflecmaaHoldG
namespace Go.Proofs.Ytglkpabcflecmaa
open Go.RowKit Go.Shelf

/-- What Holds answers. -/
noncomputable def holdF (c : Crv) (p q h : Int) : Bool := open Classical in if chkF c = 0 ∧ (okc p ∧ okc q) ∧ 0 ≤ h ∧ h ≤ 4000 then holdL c p q h (c.n - 1) else false

theorem holds_good (b off cap : Nat) (c : Crv) (hg : Good c) (p q r : Int) (hp1 : okc p) (hq1 : okc q) (hr0 : 0 ≤ r) (hr1 : r ≤ 4000) (w : World) (hp : Pts w b off c.n c.X c.Y) :
    Calls Try.prog 35 #[cv b off c.n cap, .int .i64 r, sp p q] w fun e w' => e = .returned (.bool (holdL c p q r (c.n - 1))) ∧ Below w.heap.size w w' :=
  callsIn_wide.1 (holds_in 3 (Nat.le_refl _) b off cap c hg p q r hp1 hq1 hr0 hr1 w hp (hp.lt (by have := hg.lo; omega)))

set_option maxRecDepth 100000 in
set_option maxHeartbeats 4000000 in
theorem holds_bad (A : Option Addr) (cap : Nat) (c : Crv) (p q r : Int) (w : World) (h : Spots w A c.n c.X c.Y) (hne : ¬ (chkF c = 0 ∧ (okc p ∧ okc q) ∧ 0 ≤ r ∧ r ≤ 4000)) :
    Calls Try.prog 35 #[.agg #[.slice A c.n cap], .int .i64 r, sp p q] w fun e w' => e = .returned (.bool false) ∧ Below w.heap.size w w' := by
  obtain ⟨b2, b43, b4, b24, hB⟩ := hold_boxes w (.slice A c.n cap) r p q
  have h' := h.below hB
  obtain ⟨k, hk⟩ : ∃ k, k = chkF c := ⟨_, rfl⟩
  have HC := Lib.hid (fun W (hW : Spots W A c.n c.X c.Y) => check_any A cap c W hW)
  rw [← hk] at HC hne
  have HS := Lib.hid h'
  clear hk h h'
  by_cases hz : k = 0
  · subst hz
    by_cases hr : 0 ≤ r ∧ r ≤ 4000
    · have hvf : vldB p q = false := by
        cases hx : vldB p q with
        | false => rfl
        | true => exact absurd ⟨rfl, (vldB_iff p q).1 hx, hr.1, hr.2⟩ hne
      have hvh : (decide (0 ≤ r) && decide (r ≤ 4000)) = true := by simp [hr.1, hr.2]
      clear hne hr
      go_enter Try.func35, Try.ntmps35
      go_wp2_with (first
        | (go_at_call 20; (with_reducible refine (HC.out _ HS.out).mono ?_); rintro e w1 ⟨rfl, hb1⟩; have c43 := box_step b43 hb1; have c2 := box_step b2 hb1; have c4 := box_step b4 hb1; replace hB := below_step hB hb1; have j0 : w1.cell? ⟨w.heap.size + 1, 0, none⟩ = some (.int .i64 r) := c2.cell 0)
        | (go_at_call 76; (with_reducible refine (validHalf_any _ _).mono ?_); rintro e w3 ⟨rfl, hb3⟩; rw [hvh]; have d43 := box_step c43 hb3; have d4 := box_step c4 hb3; replace hB := below_step hB hb3; have k0 : w3.cell? ⟨w.heap.size + 1 + 1, 0, none⟩ = some (.int .i64 p) := d43.cell 0; have k1 : w3.cell? ⟨w.heap.size + 1 + 1, 1, none⟩ = some (.int .i64 q) := d43.cell 1)
        | (go_at_call 59; (with_reducible refine (valid_one _ p q _ (BoxAt.new _ _ _)).mono ?_); rintro e w2 ⟨rfl, hb2⟩; rw [hvf]; have e4 := Lib.hid (box_step (d4.alloc _) hb2); replace hB := below_step2 hB hb2; have z0 : w2.cell? ⟨w.heap.size + 1 + 1 + 1, 0, none⟩ = some (.bool false) := BoxAt.cell e4.out 0; have z1 : w2.frozen? ⟨w.heap.size + 1 + 1 + 1, 0, none⟩ = false := BoxAt.frozen e4.out 0))
      have hzz := (BoxAt.set e4.out 0 (.bool false)).cell 0
      have e5 : ((#[Value.bool false] : Array Value).setIfInBounds 0 (.bool false)) = #[.bool false] := rfl
      rw [e5] at hzz
      exact bodyPost_ret (v := .bool false) (by simp [results, Try.results35, go_sem, hzz]) rfl ⟨rfl, hB.setCell (p := ⟨w.heap.size + 1 + 1 + 1, 0, none⟩) (by show w.heap.size ≤ w.heap.size + 1 + 1 + 1; omega) _⟩
    · have hvh : (decide (0 ≤ r) && decide (r ≤ 4000)) = false := by
        cases hx : (decide (0 ≤ r) && decide (r ≤ 4000)) with
        | false => rfl
        | true => simp at hx; exact absurd hx hr
      clear hne hr
      go_enter Try.func35, Try.ntmps35
      go_wp2_with (first
        | (go_at_call 20; (with_reducible refine (HC.out _ HS.out).mono ?_); rintro e w1 ⟨rfl, hb1⟩; have c43 := box_step b43 hb1; have c2 := box_step b2 hb1; have c4 := box_step b4 hb1; replace hB := below_step hB hb1; have j0 : w1.cell? ⟨w.heap.size + 1, 0, none⟩ = some (.int .i64 r) := c2.cell 0)
        | (go_at_call 76; (with_reducible refine (validHalf_any _ _).mono ?_); rintro e w3 ⟨rfl, hb3⟩; rw [hvh]; have e4 := Lib.hid (box_step c4 hb3); replace hB := below_step hB hb3; have z0 : w3.cell? ⟨w.heap.size + 1 + 1 + 1, 0, none⟩ = some (.bool false) := BoxAt.cell e4.out 0; have z1 : w3.frozen? ⟨w.heap.size + 1 + 1 + 1, 0, none⟩ = false := BoxAt.frozen e4.out 0))
      have hzz := (BoxAt.set e4.out 0 (.bool false)).cell 0
      have e5 : ((#[Value.bool false] : Array Value).setIfInBounds 0 (.bool false)) = #[.bool false] := rfl
      rw [e5] at hzz
      exact bodyPost_ret (v := .bool false) (by simp [results, Try.results35, go_sem, hzz]) rfl ⟨rfl, hB.setCell (p := ⟨w.heap.size + 1 + 1 + 1, 0, none⟩) (by show w.heap.size ≤ w.heap.size + 1 + 1 + 1; omega) _⟩
  · have hrb : (k == 0) = false := by simp [hz]
    have hrn : (k != 0) = true := by simp [hz]
    clear hne hz
    go_enter Try.func35, Try.ntmps35
    go_wp2_with (go_at_call 20; (with_reducible refine (HC.out _ HS.out).mono ?_); rintro e w1 ⟨rfl, hb1⟩; have e4 := Lib.hid (box_step b4 hb1); replace hB := below_step hB hb1; have z0 : w1.cell? ⟨w.heap.size + 1 + 1 + 1, 0, none⟩ = some (.bool false) := BoxAt.cell e4.out 0; have z1 : w1.frozen? ⟨w.heap.size + 1 + 1 + 1, 0, none⟩ = false := BoxAt.frozen e4.out 0)
    have hzz := (BoxAt.set e4.out 0 (.bool false)).cell 0
    have e5 : ((#[Value.bool false] : Array Value).setIfInBounds 0 (.bool false)) = #[.bool false] := rfl
    rw [e5] at hzz
    exact bodyPost_ret (v := .bool false) (by simp [results, Try.results35, go_sem, hzz]) rfl ⟨rfl, hB.setCell (p := ⟨w.heap.size + 1 + 1 + 1, 0, none⟩) (by show w.heap.size ≤ w.heap.size + 1 + 1 + 1; omega) _⟩

theorem holds_any (A : Option Addr) (cap : Nat) (c : Crv) (p q r : Int) (w : World) (h : Spots w A c.n c.X c.Y) :
    Calls Try.prog 35 #[.agg #[.slice A c.n cap], .int .i64 r, sp p q] w fun e w' => e = .returned (.bool (holdF c p q r)) ∧ Below w.heap.size w w' := by
  unfold holdF
  by_cases hc : chkF c = 0 ∧ (okc p ∧ okc q) ∧ 0 ≤ r ∧ r ≤ 4000
  · rw [if_pos hc]
    have hg := good_of hc.1
    obtain ⟨b, off, rfl, hp⟩ := h (by have := hg.lo; omega)
    exact holds_good b off cap c hg p q r hc.2.1.1 hc.2.1.2 hc.2.2.1 hc.2.2.2 w hp
  · rw [if_neg hc]
    exact holds_bad A cap c p q r w h hc
end Go.Proofs.Ytglkpabcflecmaa
