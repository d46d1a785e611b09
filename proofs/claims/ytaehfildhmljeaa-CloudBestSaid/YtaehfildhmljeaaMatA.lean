/- Matches of any clouds, any shift and slack: the program's and the reference's. -/
import Derived.Test.YtaehfildhmljeaaRMat
namespace Go.Proofs.Ytaehfildhmljeaa
open Go.RowKit Go.Shelf

def matOk (n : Nat) (X Y V : Nat → Int) (m : Nat) (X' Y' V' : Nat → Int) (a b s : Int) : Bool := decide (chkF n X Y V = 0) && decide (chkF m X' Y' V' = 0) && (decide (0 ≤ s) && decide (s ≤ 2000)) && nearB a b
def matAny (n : Nat) (X Y V : Nat → Int) (m : Nat) (X' Y' V' : Nat → Int) (a b s : Int) : Int := if matOk n X Y V m X' Y' V' a b s then ((matF n X Y m X' Y' a b s : Nat) : Int) else 0
theorem matAny_no {n m : Nat} {X Y V X' Y' V' : Nat → Int} {a b s : Int} (h : matOk n X Y V m X' Y' V' a b s = false) : matAny n X Y V m X' Y' V' a b s = 0 := by unfold matAny; rw [h]; rfl
theorem matAny_yes {n m : Nat} {X Y V X' Y' V' : Nat → Int} {a b s : Int} (h : matOk n X Y V m X' Y' V' a b s = true) : matAny n X Y V m X' Y' V' a b s = ((matF n X Y m X' Y' a b s : Nat) : Int) := by unfold matAny; rw [h]; rfl
theorem chk_le {n : Nat} {X Y V : Nat → Int} (h : chkF n X Y V = 0) : n ≤ 1000 := by
  unfold chkF at h
  split at h
  · cases h
  · omega

set_option maxRecDepth 100000 in
set_option maxHeartbeats 8000000 in
theorem match_any (A : Option Addr) (n c1 : Nat) (X Y V : Nat → Int) (B : Option Addr) (m c2 : Nat) (X' Y' V' : Nat → Int) (a b s : Int) (w : World) (hc1 : Cloud w A n X Y V) (hc2 : Cloud w B m X' Y' V') :
    Calls Try.prog 51 #[.slice A n c1, .slice B m c2, sp a b, .int .i64 s] w fun e w' => e = .returned (.int .i64 (matAny n X Y V m X' Y' V' a b s)) ∧ Below w.heap.size w w' := by
  have hB : Below w.heap.size w (w.alloc (.cells #[.int .i64 a, .int .i64 b] 24)) := (Below.refl _ w).alloc (Nat.le_refl _) _
  have hbx := BoxAt.new w 24 #[.int .i64 a, .int .i64 b]
  have HC1 := Lib.hid (hc1.below hB)
  have HC2 := Lib.hid (hc2.below hB)
  have HCh1 := Lib.hid (fun W (h : Cloud W A n X Y V) => check_any A n c1 X Y V W h)
  have HCh2 := Lib.hid (fun W (h : Cloud W B m X' Y' V') => check_any B m c2 X' Y' V' W h)
  by_cases h1 : chkF n X Y V = 0
  · by_cases h2 : chkF m X' Y' V' = 0
    · by_cases h3 : 0 ≤ s ∧ s ≤ 2000
      · have HW : Hid (∀ W, Calls Try.prog 100 #[.int .i64 s] W fun e w' => e = .returned (.bool true) ∧ w' = W) := Lib.hid (fun W => vwin_any s true (by simp [h3]) W)
        rw [h1] at HCh1
        rw [h2] at HCh2
        cases hnb : nearB a b with
        | true =>
          have HE := Lib.hid (matAny_yes (show matOk n X Y V m X' Y' V' a b s = true by simp [matOk, h1, h2, h3, hnb]))
          obtain ⟨ha1, ha2, hb1, hb2⟩ := near_of hnb
          have HM := Lib.hid (fun W (h : Cloud W A n X Y V) (h' : Cloud W B m X' Y' V') => matches_any A n c1 X Y V B m c2 X' Y' V' a b s (chk_le h1) (chk_le h2) (fun i hi => ⟨(ok_at h1 hi).1, (ok_at h1 hi).2.1⟩) (fun i hi => ⟨(ok_at h2 hi).1, (ok_at h2 hi).2.1⟩) ha1 ha2 hb1 hb2 W h h')
          have HN := Lib.hid (fun W => vshift_any a b true W (Lib.hid hnb))
          obtain ⟨q, hq⟩ : ∃ q : Int, q = ((matF n X Y m X' Y' a b s : Nat) : Int) := ⟨_, rfl⟩
          rw [← hq] at HE HM
          clear h1 h2 h3 hnb ha1 ha2 hb1 hb2 hc1 hc2 hq
          go_enter Try.func51, Try.ntmps51
          go_upto_region 1 with fail
          obtain ⟨L6, hL6⟩ : ∃ z, z = w.heap.size := ⟨_, rfl⟩
          rw [← hL6] at hbx ⊢
          clear hL6
          have HBB := Lib.hid hbx
          have HB0 := Lib.hid hB
          clear hB hbx
          generalize w.alloc (.cells #[.int .i64 a, .int .i64 b] 24) = wx at *
          have hBq := Below.refl wx.heap.size wx
          go_wp2_with (first
            | (go_at_call 22; (with_reducible refine (HCh1.out _ HC1.out).mono ?_); rintro e w1 ⟨rfl, hx1⟩; replace hBq := below_step hBq hx1; have HC2b := Lib.hid (HC2.out.below hx1))
            | (go_at_call 22; (with_reducible refine (HCh2.out _ HC2b.out).mono ?_); rintro e w2 ⟨rfl, hx2⟩; replace hBq := below_step hBq hx2)
            | (go_at_call 100; (with_reducible refine (HW.out _).mono ?_); rintro e w2b ⟨rfl, rfl⟩; have r0 : w2b.cell? ⟨L6, 0, none⟩ = some (.int .i64 a) := (box_step HBB.out hBq).cell 0; have r1 : w2b.cell? ⟨L6, 1, none⟩ = some (.int .i64 b) := (box_step HBB.out hBq).cell 1; have r2 := (box_step HBB.out hBq).lt)
            | (go_at_call 58; (with_reducible refine (HN.out _).mono ?_); rintro e w3 ⟨rfl, hx3⟩; replace hBq := below_step hBq hx3; have u0 : w3.cell? ⟨L6, 0, none⟩ = some (.int .i64 a) := (box_step HBB.out hBq).cell 0; have u1 : w3.cell? ⟨L6, 1, none⟩ = some (.int .i64 b) := (box_step HBB.out hBq).cell 1; have u2 := (box_step HBB.out hBq).lt)
            | (go_at_call 95; (with_reducible refine (HM.out _ (HC1.out.below hBq) (HC2.out.below hBq)).mono ?_); rintro e w4 ⟨rfl, hx4⟩; replace hBq := below_step hBq hx4))
          go_ret
          exact ⟨by rw [HE.out]; rfl, below_step HB0.out hBq⟩
        | false =>
          have HE := Lib.hid (matAny_no (show matOk n X Y V m X' Y' V' a b s = false by simp [matOk, hnb]))
          have HN := Lib.hid (fun W => vshift_any a b false W (Lib.hid hnb))
          clear h1 h2 h3 hnb hc1 hc2
          go_enter Try.func51, Try.ntmps51
          go_upto_region 1 with fail
          obtain ⟨L6, hL6⟩ : ∃ z, z = w.heap.size := ⟨_, rfl⟩
          rw [← hL6] at hbx ⊢
          clear hL6
          have HBB := Lib.hid hbx
          have HB0 := Lib.hid hB
          clear hB hbx
          generalize w.alloc (.cells #[.int .i64 a, .int .i64 b] 24) = wx at *
          have hBq := Below.refl wx.heap.size wx
          go_wp2_with (first
            | (go_at_call 22; (with_reducible refine (HCh1.out _ HC1.out).mono ?_); rintro e w1 ⟨rfl, hx1⟩; replace hBq := below_step hBq hx1; have HC2b := Lib.hid (HC2.out.below hx1))
            | (go_at_call 22; (with_reducible refine (HCh2.out _ HC2b.out).mono ?_); rintro e w2 ⟨rfl, hx2⟩; replace hBq := below_step hBq hx2)
            | (go_at_call 100; (with_reducible refine (HW.out _).mono ?_); rintro e w2b ⟨rfl, rfl⟩; have r0 : w2b.cell? ⟨L6, 0, none⟩ = some (.int .i64 a) := (box_step HBB.out hBq).cell 0; have r1 : w2b.cell? ⟨L6, 1, none⟩ = some (.int .i64 b) := (box_step HBB.out hBq).cell 1; have r2 := (box_step HBB.out hBq).lt)
            | (go_at_call 58; (with_reducible refine (HN.out _).mono ?_); rintro e w3 ⟨rfl, hx3⟩; replace hBq := below_step hBq hx3))
          go_ret
          exact ⟨by rw [HE.out]; rfl, below_step HB0.out hBq⟩
      · have HW : Hid (∀ W, Calls Try.prog 100 #[.int .i64 s] W fun e w' => e = .returned (.bool false) ∧ w' = W) := Lib.hid (fun W => vwin_any s false (by simp [h3]) W)
        have HE := Lib.hid (matAny_no (show matOk n X Y V m X' Y' V' a b s = false by
          have : (decide (0 ≤ s) && decide (s ≤ 2000)) = false := by
            rw [← Bool.decide_and]; exact decide_eq_false h3
          unfold matOk
          rw [this]; simp))
        rw [h1] at HCh1
        rw [h2] at HCh2
        clear h1 h2 h3 hc1 hc2
        go_enter Try.func51, Try.ntmps51
        go_upto_region 1 with fail
        obtain ⟨L6, hL6⟩ : ∃ z, z = w.heap.size := ⟨_, rfl⟩
        rw [← hL6] at hbx ⊢
        clear hL6
        have HBB := Lib.hid hbx
        have HB0 := Lib.hid hB
        clear hB hbx
        generalize w.alloc (.cells #[.int .i64 a, .int .i64 b] 24) = wx at *
        have hBq := Below.refl wx.heap.size wx
        go_wp2_with (first
          | (go_at_call 22; (with_reducible refine (HCh1.out _ HC1.out).mono ?_); rintro e w1 ⟨rfl, hx1⟩; replace hBq := below_step hBq hx1; have HC2b := Lib.hid (HC2.out.below hx1))
          | (go_at_call 22; (with_reducible refine (HCh2.out _ HC2b.out).mono ?_); rintro e w2 ⟨rfl, hx2⟩; replace hBq := below_step hBq hx2)
          | (go_at_call 100; (with_reducible refine (HW.out _).mono ?_); rintro e w2b ⟨rfl, rfl⟩; have r0 : w2b.cell? ⟨L6, 0, none⟩ = some (.int .i64 a) := (box_step HBB.out hBq).cell 0; have r1 : w2b.cell? ⟨L6, 1, none⟩ = some (.int .i64 b) := (box_step HBB.out hBq).cell 1; have r2 := (box_step HBB.out hBq).lt))
        go_ret
        exact ⟨by rw [HE.out]; rfl, below_step HB0.out hBq⟩
    · have HE := Lib.hid (matAny_no (show matOk n X Y V m X' Y' V' a b s = false by simp [matOk, h2]))
      obtain ⟨z, hz⟩ : ∃ z, z = chkF m X' Y' V' := ⟨_, rfl⟩
      rw [← hz] at HCh2 h2
      rw [h1] at HCh1
      clear h1 hc1 hc2 hz
      go_enter Try.func51, Try.ntmps51
      go_upto_region 1 with fail
      obtain ⟨L6, hL6⟩ : ∃ z, z = w.heap.size := ⟨_, rfl⟩
      rw [← hL6] at hbx ⊢
      clear hL6
      have HBB := Lib.hid hbx
      have HB0 := Lib.hid hB
      clear hB hbx
      generalize w.alloc (.cells #[.int .i64 a, .int .i64 b] 24) = wx at *
      have hBq := Below.refl wx.heap.size wx
      go_wp2_with (first
        | (go_at_call 22; (with_reducible refine (HCh1.out _ HC1.out).mono ?_); rintro e w1 ⟨rfl, hx1⟩; replace hBq := below_step hBq hx1; have HC2b := Lib.hid (HC2.out.below hx1))
        | (go_at_call 22; (with_reducible refine (HCh2.out _ HC2b.out).mono ?_); rintro e w2 ⟨rfl, hx2⟩; replace hBq := below_step hBq hx2))
      go_ret
      exact ⟨by rw [HE.out]; rfl, below_step HB0.out hBq⟩
  · have HE := Lib.hid (matAny_no (show matOk n X Y V m X' Y' V' a b s = false by simp [matOk, h1]))
    obtain ⟨z, hz⟩ : ∃ z, z = chkF n X Y V := ⟨_, rfl⟩
    rw [← hz] at HCh1 h1
    clear hc1 hc2 hz
    go_enter Try.func51, Try.ntmps51
    go_upto_region 1 with fail
    obtain ⟨L6, hL6⟩ : ∃ z, z = w.heap.size := ⟨_, rfl⟩
    rw [← hL6] at hbx ⊢
    clear hL6
    have HBB := Lib.hid hbx
    have HB0 := Lib.hid hB
    clear hB hbx
    generalize w.alloc (.cells #[.int .i64 a, .int .i64 b] 24) = wx at *
    have hBq := Below.refl wx.heap.size wx
    go_wp2_with (first
      | (go_at_call 22; (with_reducible refine (HCh1.out _ HC1.out).mono ?_); rintro e w1 ⟨rfl, hx1⟩; replace hBq := below_step hBq hx1; have HC2b := Lib.hid (HC2.out.below hx1)))
    go_ret
    exact ⟨by rw [HE.out]; rfl, below_step HB0.out hBq⟩
end Go.Proofs.Ytaehfildhmljeaa
