/- The law CloudRegisters: its walk. -/
import Derived.Test.YtaehfildhmljeaaRegA
import Derived.Test.YtaehfildhmljeaaAwk
import Derived.Test.YtaehfildhmljeaaPtsL
namespace Go.Proofs.Ytaehfildhmljeaa
open Go.RowKit Go.Shelf

def rgBad (n m : Nat) : Bool := decide ((24 < n ∧ n ≤ 60) ∨ (24 < m ∧ m ≤ 60) ∨ 70 < n ∨ 70 < m)
set_option maxRecDepth 100000 in
set_option maxHeartbeats 16000000 in
theorem cregisters_walk (A : Option Addr) (n c1 : Nat) (X Y V : Nat → Int) (B : Option Addr) (m c2 : Nat) (X' Y' V' : Nat → Int) (a b win s : Int) (w : World) (hc1 : Cloud w A n X Y V) (hc2 : Cloud w B m X' Y' V') :
    Calls Try.prog 9 #[.slice A n c1, .slice B m c2, sp a b, .int .i64 win, .int .i64 s] w fun e w' => e = .returned (.bool true) ∧ Below w.heap.size w w' := by
  have HC1 := Lib.hid hc1
  have HC2 := Lib.hid hc2
  have hB : Below w.heap.size w (w.alloc (.cells #[.int .i64 a, .int .i64 b] 24)) := (Below.refl _ w).alloc (Nat.le_refl _) _
  have hbx := BoxAt.new w 24 #[.int .i64 a, .int .i64 b]
  go_enter Try.func9, Try.ntmps9
  go_upto_region 1 with fail
  obtain ⟨L7, hL7⟩ : ∃ z, z = w.heap.size := ⟨_, rfl⟩
  rw [← hL7] at hbx ⊢
  clear hL7
  have HBX := Lib.hid hbx
  have HB := Lib.hid hB
  clear hbx hB hc1 hc2
  generalize w.alloc (.cells #[.int .i64 a, .int .i64 b] 24) = wx at *
  go_cut [46] from 19 to 46 (fun v w' => v = .bool (rgBad n m) ∧ w' = wx)
  case first =>
    have hnc : n ≤ 24 ∨ (24 < n ∧ n ≤ 60) ∨ (60 < n ∧ n ≤ 70) ∨ 70 < n := by omega
    have hmc : m ≤ 24 ∨ (24 < m ∧ m ≤ 60) ∨ (60 < m ∧ m ≤ 70) ∨ 70 < m := by omega
    rcases hnc with hn | hn | hn | hn
    · have u0 : ¬ (24 : Int) < (n : Int) := by omega
      have u1 : ¬ (70 : Int) < (n : Int) := by omega
      rcases hmc with hm | hm | hm | hm
      · have v0 : ¬ (24 : Int) < (m : Int) := by omega
        have v1 : ¬ (70 : Int) < (m : Int) := by omega
        have hr : rgBad n m = false := decide_eq_false (by omega)
        go_wp2
        go_meet
        exact ⟨by rw [hr], rfl⟩
      · have v0 : (24 : Int) < (m : Int) := by omega
        have v1 : (m : Int) ≤ 60 := by omega
        have hr : rgBad n m = true := decide_eq_true (by omega)
        go_wp2
        go_meet
        exact ⟨by rw [hr], rfl⟩
      · have v0 : (24 : Int) < (m : Int) := by omega
        have v1 : ¬ (m : Int) ≤ 60 := by omega
        have v2 : ¬ (70 : Int) < (m : Int) := by omega
        have hr : rgBad n m = false := decide_eq_false (by omega)
        go_wp2
        go_meet
        exact ⟨by rw [hr], rfl⟩
      · have v0 : (24 : Int) < (m : Int) := by omega
        have v1 : ¬ (m : Int) ≤ 60 := by omega
        have v2 : (70 : Int) < (m : Int) := by omega
        have hr : rgBad n m = true := decide_eq_true (by omega)
        go_wp2
        go_meet
        exact ⟨by rw [hr], rfl⟩
    · have u0 : (24 : Int) < (n : Int) := by omega
      have u1 : (n : Int) ≤ 60 := by omega
      have hr : rgBad n m = true := decide_eq_true (by omega)
      go_wp2
      go_meet
      exact ⟨by rw [hr], rfl⟩
    · have u0 : (24 : Int) < (n : Int) := by omega
      have u1 : ¬ (n : Int) ≤ 60 := by omega
      have u2 : ¬ (70 : Int) < (n : Int) := by omega
      rcases hmc with hm | hm | hm | hm
      · have v0 : ¬ (24 : Int) < (m : Int) := by omega
        have v1 : ¬ (70 : Int) < (m : Int) := by omega
        have hr : rgBad n m = false := decide_eq_false (by omega)
        go_wp2
        go_meet
        exact ⟨by rw [hr], rfl⟩
      · have v0 : (24 : Int) < (m : Int) := by omega
        have v1 : (m : Int) ≤ 60 := by omega
        have hr : rgBad n m = true := decide_eq_true (by omega)
        go_wp2
        go_meet
        exact ⟨by rw [hr], rfl⟩
      · have v0 : (24 : Int) < (m : Int) := by omega
        have v1 : ¬ (m : Int) ≤ 60 := by omega
        have v2 : ¬ (70 : Int) < (m : Int) := by omega
        have hr : rgBad n m = false := decide_eq_false (by omega)
        go_wp2
        go_meet
        exact ⟨by rw [hr], rfl⟩
      · have v0 : (24 : Int) < (m : Int) := by omega
        have v1 : ¬ (m : Int) ≤ 60 := by omega
        have v2 : (70 : Int) < (m : Int) := by omega
        have hr : rgBad n m = true := decide_eq_true (by omega)
        go_wp2
        go_meet
        exact ⟨by rw [hr], rfl⟩
    · have u0 : (24 : Int) < (n : Int) := by omega
      have u1 : ¬ (n : Int) ≤ 60 := by omega
      have u2 : (70 : Int) < (n : Int) := by omega
      rcases hmc with hm | hm | hm | hm
      · have v0 : ¬ (24 : Int) < (m : Int) := by omega
        have v1 : ¬ (70 : Int) < (m : Int) := by omega
        have hr : rgBad n m = true := decide_eq_true (by omega)
        go_wp2
        go_meet
        exact ⟨by rw [hr], rfl⟩
      · have v0 : (24 : Int) < (m : Int) := by omega
        have v1 : (m : Int) ≤ 60 := by omega
        have hr : rgBad n m = true := decide_eq_true (by omega)
        go_wp2
        go_meet
        exact ⟨by rw [hr], rfl⟩
      · have v0 : (24 : Int) < (m : Int) := by omega
        have v1 : ¬ (m : Int) ≤ 60 := by omega
        have v2 : ¬ (70 : Int) < (m : Int) := by omega
        have hr : rgBad n m = true := decide_eq_true (by omega)
        go_wp2
        go_meet
        exact ⟨by rw [hr], rfl⟩
      · have v0 : (24 : Int) < (m : Int) := by omega
        have v1 : ¬ (m : Int) ≤ 60 := by omega
        have v2 : (70 : Int) < (m : Int) := by omega
        have hr : rgBad n m = true := decide_eq_true (by omega)
        go_wp2
        go_meet
        exact ⟨by rw [hr], rfl⟩
  case rest =>
    obtain ⟨wy, rfl⟩ : ∃ x : World, x = wc := ⟨_, rfl⟩
    obtain ⟨rfl, rfl⟩ := hcut
    cases hbad : rgBad n m with
    | true =>
      have hB := HB.out
      go_wp2_with (go_at_call 16; (with_reducible refine (awake_any _).mono ?_); rintro e w2 ⟨rfl, hb2⟩; replace hB := below_step hB hb2)
      go_ret
      exact ⟨rfl, hB⟩
    | false =>
      have hnm : n ≤ 70 ∧ m ≤ 70 := by
        unfold rgBad at hbad
        rw [decide_eq_false_iff_not] at hbad
        omega
      have hB := HB.out
      clear HB
      obtain ⟨hn, hm⟩ := hnm
      have HR := Lib.hid (fun A c1 B c2 W (h : Cloud W A n X Y V) (h' : Cloud W B m X' Y' V') => register_any A n c1 X Y V B m c2 X' Y' V' win s W h h')
      have HRR := Lib.hid (fun W (h : Cloud W A n X Y V) (h' : Cloud W B m X' Y' V') => rregister_any A n c1 X Y V B m c2 X' Y' V' win s W h h')
      unfold RegPost at HR HRR
      have HM := Lib.hid (fun A c1 B c2 W (h : Cloud W A n X Y V) (h' : Cloud W B m X' Y' V') => match_any A n c1 X Y V B m c2 X' Y' V' a b s W h h')
      have HRM := Lib.hid (fun W (h : Cloud W A n X Y V) (h' : Cloud W B m X' Y' V') => rmatch_any A n c1 X Y V B m c2 X' Y' V' a b s W h h')
      generalize matAny n X Y V m X' Y' V' a b s = mv at HM HRM
      generalize regE n X Y V m X' Y' V' win s = ev at HR HRR
      generalize rgV n X Y V m X' Y' V' win s = rv at HR HRR
      obtain ⟨⟨x, y⟩, k⟩ := rv
      clear hbad
      go_upto_region 5 with (first
        | (go_at_call 17; (with_reducible refine (ownpoints_any A n c1 X Y V (by omega) _ (HC1.out.below hB)).mono ?_); rintro e w2 ⟨B1, d1, rfl, hle1, hC1, hb2⟩; replace hB := below_step hB hb2; have HO1 := Lib.hid hC1; have HBX2 := Lib.hid (box_step HBX.out hb2); clear hC1 hle1)
        | (go_at_call 17; (with_reducible refine (ownpoints_any B m c2 X' Y' V' (by omega) _ (HC2.out.below hB)).mono ?_); rintro e w3 ⟨B2, d2, rfl, hle2, hC2, hb3⟩; replace hB := below_step hB hb3; have HO2 := Lib.hid hC2; have HO12 := Lib.hid (HO1.out.below hb3); have HBX3 := Lib.hid (box_step HBX2.out hb3); clear hC2 hle2)
        | (go_at_call 49; (with_reducible refine (HR.out B1 d1 B2 d2 _ HO12.out HO2.out).mono ?_); rintro e w4 ⟨rfl, hb4⟩; replace hB := below_step hB hb4; have HO13 := Lib.hid (HO12.out.below hb4); have HO23 := Lib.hid (HO2.out.below hb4); have HBX4 := Lib.hid (box_step HBX3.out hb4)))
      obtain ⟨L13, hL13⟩ : ∃ z, z = w4.heap.size := ⟨_, rfl⟩
      have hx13 := BoxAt.new w4 24 #[.int .i64 x, .int .i64 y]
      have hb5 : Below w4.heap.size w4 (w4.alloc (.cells #[.int .i64 x, .int .i64 y] 24)) := (Below.refl _ w4).alloc (Nat.le_refl _) _
      rw [← hL13] at hx13 ⊢
      have HX13 := Lib.hid hx13
      replace hB := below_step hB hb5
      have HO15 := Lib.hid (HO13.out.below hb5)
      have HO25 := Lib.hid (HO23.out.below hb5)
      have HBX5 := Lib.hid (box_step HBX4.out hb5)
      clear hL13 hx13 hb5 HO13 HO23 HBX4 hb2 hb3 hb4 HO12 HO2 HO1 HBX HBX2 HBX3 HR
      generalize w4.alloc (.cells #[.int .i64 x, .int .i64 y] 24) = w5 at *
      go_upto_region 6 with (go_at_call 50; (with_reducible refine (HRR.out _ (HC1.out.below hB) (HC2.out.below hB)).mono ?_); rintro e w6 ⟨rfl, hb6⟩)
      obtain ⟨L16, hL16⟩ : ∃ z, z = w6.heap.size := ⟨_, rfl⟩
      have hx16 := BoxAt.new w6 24 #[.int .i64 x, .int .i64 y]
      have hb7 : Below w6.heap.size w6 (w6.alloc (.cells #[.int .i64 x, .int .i64 y] 24)) := (Below.refl _ w6).alloc (Nat.le_refl _) _
      rw [← hL16] at hx16 ⊢
      have hbb := below_step hb6 hb7
      replace hB := below_step hB hbb
      have HO17 := Lib.hid (HO15.out.below hbb)
      have HO27 := Lib.hid (HO25.out.below hbb)
      have hx7 := box_step HBX5.out hbb
      have hx13 := box_step HX13.out hbb
      clear hL16 hb6 hb7 hbb HO15 HO25 HBX5 HX13 HRR
      generalize w6.alloc (.cells #[.int .i64 x, .int .i64 y] 24) = w7 at *
      have HB7 := Lib.hid hB
      have f0 : ∀ n os, (grd w7 n os).cell? ⟨L7, 0, none⟩ = some (.int .i64 a) := cell_grd (hx7.cell 0)
      have f1 : ∀ n os, (grd w7 n os).cell? ⟨L7, 1, none⟩ = some (.int .i64 b) := cell_grd (hx7.cell 1)
      have f2 : ∀ n os, (grd w7 n os).cell? ⟨L13, 0, none⟩ = some (.int .i64 x) := cell_grd (hx13.cell 0)
      have f3 : ∀ n os, (grd w7 n os).cell? ⟨L13, 1, none⟩ = some (.int .i64 y) := cell_grd (hx13.cell 1)
      have f4 : ∀ n os, (grd w7 n os).cell? ⟨L16, 0, none⟩ = some (.int .i64 x) := cell_grd (hx16.cell 0)
      have f5 : ∀ n os, (grd w7 n os).cell? ⟨L16, 1, none⟩ = some (.int .i64 y) := cell_grd (hx16.cell 1)
      have M1 := Lib.hid (fun W (h : Below w7.heap.size w7 W) => HM.out B1 d1 B2 d2 W (HO17.out.below h) (HO27.out.below h))
      have M2 := Lib.hid (fun W (h : Below w7.heap.size w7 W) => HRM.out W (HC1.out.below (below_step HB7.out h)) (HC2.out.below (below_step HB7.out h)))
      have M3 := Lib.hid (fun W (h : Below w7.heap.size w7 W) => same_points B1 A n d1 c1 X Y V W (by omega) (HO17.out.below h) (HC1.out.below (below_step HB7.out h)))
      have M4 := Lib.hid (fun W (h : Below w7.heap.size w7 W) => same_points B2 B m d2 c2 X' Y' V' W (by omega) (HO27.out.below h) (HC2.out.below (below_step HB7.out h)))
      clear hx7 hx13 hx16 hB HO17 HO27 HM HRM
      refine wp_region_quiet_grd (by kernel_rfl) (by kernel_rfl) ?_
      repeat (go_big_quiet_step (first
        | (go_at_call 51; with_reducible exact Calls.grd_of (M1.out _ (below_grd _ _ _)))
        | (go_at_call 52; with_reducible exact Calls.grd_of (M2.out _ (below_grd _ _ _)))
        | (go_at_call 24; with_reducible exact Calls.grd_of (M3.out _ (below_grd _ _ _)))
        | (go_at_call 24; with_reducible exact Calls.grd_of (M4.out _ (below_grd _ _ _)))
        | (go_at_call 16; with_reducible exact Calls.grd_of (awake_any _))))
      refine wpQuiet_nil ?_
      intro _ hw'
      obtain ⟨⟨nq, osq⟩, rfl⟩ := hw'
      have HBq := Lib.hid (below_step HB7.out (below_grd w7 nq osq))
      generalize grd w7 nq osq = wq at *
      clear f0 f1 f2 f3 f4 f5 M1 M2 M3 M4
      go_wp2
      go_ret
      exact ⟨rfl, HBq.out⟩
end Go.Proofs.Ytaehfildhmljeaa
