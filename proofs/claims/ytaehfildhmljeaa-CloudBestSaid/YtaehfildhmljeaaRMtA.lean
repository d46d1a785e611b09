/- The reference's Matches of any clouds, any shift and slack. -/
import Derived.Test.YtaehfildhmljeaaMatA
namespace Go.Proofs.Ytaehfildhmljeaa
open Go.RowKit Go.Shelf

set_option maxRecDepth 100000 in
set_option maxHeartbeats 8000000 in
theorem rmatch_any (A : Option Addr) (n c1 : Nat) (X Y V : Nat → Int) (B : Option Addr) (m c2 : Nat) (X' Y' V' : Nat → Int) (a b s : Int) (w : World) (hc1 : Cloud w A n X Y V) (hc2 : Cloud w B m X' Y' V') :
    Calls Try.prog 52 #[.slice A n c1, .slice B m c2, sp a b, .int .i64 s] w fun e w' => e = .returned (.int .i64 (matAny n X Y V m X' Y' V' a b s)) ∧ Below w.heap.size w w' := by
  have hB : Below w.heap.size w (w.alloc (.cells #[.int .i64 a, .int .i64 b] 24)) := (Below.refl _ w).alloc (Nat.le_refl _) _
  have hbx := BoxAt.new w 24 #[.int .i64 a, .int .i64 b]
  have HC1 := Lib.hid (hc1.below hB)
  have HC2 := Lib.hid (hc2.below hB)
  have HCh1 := Lib.hid (fun W (h : Cloud W A n X Y V) => rcheck_any A n c1 X Y V W h)
  have HCh2 := Lib.hid (fun W (h : Cloud W B m X' Y' V') => rcheck_any B m c2 X' Y' V' W h)
  by_cases h1 : chkF n X Y V = 0
  · by_cases h2 : chkF m X' Y' V' = 0
    · by_cases h3 : 0 ≤ s
      · by_cases h4 : s ≤ 2000
        · cases hnb : nearB a b with
          | true =>
            rw [matAny_yes (show matOk n X Y V m X' Y' V' a b s = true by simp [matOk, h1, h2, h3, h4, hnb])]
            exact rmatches_good A n c1 X Y V B m c2 X' Y' V' a b s h1 h2 hnb h3 h4 w hc1 hc2
          | false =>
            have HE := Lib.hid (matAny_no (show matOk n X Y V m X' Y' V' a b s = false by simp [matOk, hnb]))
            have HN := Lib.hid (fun W => far_any a b true W (Lib.hid (by rw [hnb]; rfl)))
            rw [h1] at HCh1
            rw [h2] at HCh2
            have y1 : ¬ s < 0 := by omega
            have y2 : ¬ 2000 < s := by omega
            clear h1 h2 h3 h4 hnb hc1 hc2
            go_enter Try.func52, Try.ntmps52
            go_upto_region 1 with fail
            obtain ⟨L6, hL6⟩ : ∃ z, z = w.heap.size := ⟨_, rfl⟩
            rw [← hL6] at hbx ⊢
            clear hL6
            have HBB := Lib.hid hbx
            have HB0 := Lib.hid hB
            clear hB hbx
            generalize w.alloc (.cells #[.int .i64 a, .int .i64 b] 24) = wx at *
            have hBq := Below.refl wx.heap.size wx
            go_wp2_with (first
              | (go_at_call 23; (with_reducible refine (HCh1.out _ HC1.out).mono ?_); rintro e w1 ⟨rfl, hx1⟩; replace hBq := below_step hBq hx1; have HC2b := Lib.hid (HC2.out.below hx1))
              | (go_at_call 23; (with_reducible refine (HCh2.out _ HC2b.out).mono ?_); rintro e w2 ⟨rfl, hx2⟩; replace hBq := below_step hBq hx2; have r0 : w2.cell? ⟨L6, 0, none⟩ = some (.int .i64 a) := (box_step HBB.out hBq).cell 0; have r1 : w2.cell? ⟨L6, 1, none⟩ = some (.int .i64 b) := (box_step HBB.out hBq).cell 1; have r2 := (box_step HBB.out hBq).lt)
              | (go_at_call 61; (with_reducible refine (HN.out _).mono ?_); rintro e w3 ⟨rfl, hx3⟩; replace hBq := below_step hBq hx3))
            go_ret
            exact ⟨by rw [HE.out]; rfl, below_step HB0.out hBq⟩
        · have HE := Lib.hid (matAny_no (show matOk n X Y V m X' Y' V' a b s = false by simp [matOk, h4]))
          rw [h1] at HCh1
          rw [h2] at HCh2
          have y1 : ¬ s < 0 := by omega
          have y2 : 2000 < s := by omega
          clear h1 h2 h3 h4 hc1 hc2
          go_enter Try.func52, Try.ntmps52
          go_upto_region 1 with fail
          obtain ⟨L6, hL6⟩ : ∃ z, z = w.heap.size := ⟨_, rfl⟩
          rw [← hL6] at hbx ⊢
          clear hL6
          have HBB := Lib.hid hbx
          have HB0 := Lib.hid hB
          clear hB hbx
          generalize w.alloc (.cells #[.int .i64 a, .int .i64 b] 24) = wx at *
          have hBq := Below.refl wx.heap.size wx
          go_wp2_with (first
            | (go_at_call 23; (with_reducible refine (HCh1.out _ HC1.out).mono ?_); rintro e w1 ⟨rfl, hx1⟩; replace hBq := below_step hBq hx1; have HC2b := Lib.hid (HC2.out.below hx1))
            | (go_at_call 23; (with_reducible refine (HCh2.out _ HC2b.out).mono ?_); rintro e w2 ⟨rfl, hx2⟩; replace hBq := below_step hBq hx2; have r0 : w2.cell? ⟨L6, 0, none⟩ = some (.int .i64 a) := (box_step HBB.out hBq).cell 0; have r1 : w2.cell? ⟨L6, 1, none⟩ = some (.int .i64 b) := (box_step HBB.out hBq).cell 1; have r2 := (box_step HBB.out hBq).lt))
          go_ret
          exact ⟨by rw [HE.out]; rfl, below_step HB0.out hBq⟩
      · have HE := Lib.hid (matAny_no (show matOk n X Y V m X' Y' V' a b s = false by simp [matOk, h3]))
        rw [h1] at HCh1
        rw [h2] at HCh2
        have y1 : s < 0 := by omega
        clear h1 h2 h3 hc1 hc2
        go_enter Try.func52, Try.ntmps52
        go_upto_region 1 with fail
        obtain ⟨L6, hL6⟩ : ∃ z, z = w.heap.size := ⟨_, rfl⟩
        rw [← hL6] at hbx ⊢
        clear hL6
        have HBB := Lib.hid hbx
        have HB0 := Lib.hid hB
        clear hB hbx
        generalize w.alloc (.cells #[.int .i64 a, .int .i64 b] 24) = wx at *
        have hBq := Below.refl wx.heap.size wx
        go_wp2_with (first
          | (go_at_call 23; (with_reducible refine (HCh1.out _ HC1.out).mono ?_); rintro e w1 ⟨rfl, hx1⟩; replace hBq := below_step hBq hx1; have HC2b := Lib.hid (HC2.out.below hx1))
          | (go_at_call 23; (with_reducible refine (HCh2.out _ HC2b.out).mono ?_); rintro e w2 ⟨rfl, hx2⟩; replace hBq := below_step hBq hx2; have r0 : w2.cell? ⟨L6, 0, none⟩ = some (.int .i64 a) := (box_step HBB.out hBq).cell 0; have r1 : w2.cell? ⟨L6, 1, none⟩ = some (.int .i64 b) := (box_step HBB.out hBq).cell 1; have r2 := (box_step HBB.out hBq).lt))
        go_ret
        exact ⟨by rw [HE.out]; rfl, below_step HB0.out hBq⟩
    · have HE := Lib.hid (matAny_no (show matOk n X Y V m X' Y' V' a b s = false by simp [matOk, h2]))
      obtain ⟨z, hz⟩ : ∃ z, z = chkF m X' Y' V' := ⟨_, rfl⟩
      rw [← hz] at HCh2 h2
      rw [h1] at HCh1
      clear h1 hc1 hc2 hz
      go_enter Try.func52, Try.ntmps52
      go_upto_region 1 with fail
      obtain ⟨L6, hL6⟩ : ∃ z, z = w.heap.size := ⟨_, rfl⟩
      rw [← hL6] at hbx ⊢
      clear hL6
      have HBB := Lib.hid hbx
      have HB0 := Lib.hid hB
      clear hB hbx
      generalize w.alloc (.cells #[.int .i64 a, .int .i64 b] 24) = wx at *
      have hBq := Below.refl wx.heap.size wx
      go_wp2_with (first
        | (go_at_call 23; (with_reducible refine (HCh1.out _ HC1.out).mono ?_); rintro e w1 ⟨rfl, hx1⟩; replace hBq := below_step hBq hx1; have HC2b := Lib.hid (HC2.out.below hx1))
        | (go_at_call 23; (with_reducible refine (HCh2.out _ HC2b.out).mono ?_); rintro e w2 ⟨rfl, hx2⟩; replace hBq := below_step hBq hx2; have r0 : w2.cell? ⟨L6, 0, none⟩ = some (.int .i64 a) := (box_step HBB.out hBq).cell 0; have r1 : w2.cell? ⟨L6, 1, none⟩ = some (.int .i64 b) := (box_step HBB.out hBq).cell 1; have r2 := (box_step HBB.out hBq).lt))
      go_ret
      exact ⟨by rw [HE.out]; rfl, below_step HB0.out hBq⟩
  · have HE := Lib.hid (matAny_no (show matOk n X Y V m X' Y' V' a b s = false by simp [matOk, h1]))
    obtain ⟨z, hz⟩ : ∃ z, z = chkF n X Y V := ⟨_, rfl⟩
    rw [← hz] at HCh1 h1
    clear hc1 hc2 hz
    go_enter Try.func52, Try.ntmps52
    go_upto_region 1 with fail
    obtain ⟨L6, hL6⟩ : ∃ z, z = w.heap.size := ⟨_, rfl⟩
    rw [← hL6] at hbx ⊢
    clear hL6
    have HBB := Lib.hid hbx
    have HB0 := Lib.hid hB
    clear hB hbx
    generalize w.alloc (.cells #[.int .i64 a, .int .i64 b] 24) = wx at *
    have hBq := Below.refl wx.heap.size wx
    go_wp2_with (first
      | (go_at_call 23; (with_reducible refine (HCh1.out _ HC1.out).mono ?_); rintro e w1 ⟨rfl, hx1⟩; replace hBq := below_step hBq hx1; have HC2b := Lib.hid (HC2.out.below hx1)))
    go_ret
    exact ⟨by rw [HE.out]; rfl, below_step HB0.out hBq⟩
end Go.Proofs.Ytaehfildhmljeaa
