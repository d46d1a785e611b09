/- The law CloudChecks: its walk. -/
import Derived.Test.YtaehfildhmljeaaAwk
import Derived.Test.YtaehfildhmljeaaRShf
import Derived.Test.YtaehfildhmljeaaRAro
namespace Go.Proofs.Ytaehfildhmljeaa
open Go.RowKit Go.Shelf

theorem arV_agg (n : Nat) (X Y V : Nat → Int) : ∃ a b c d : Int, arV n X Y V = .agg #[.int .i64 a, .int .i64 b, .int .i64 c, .int .i64 d] := by
  unfold arV
  split
  · exact ⟨_, _, _, _, rfl⟩
  · exact ⟨_, _, _, _, rfl⟩

set_option maxRecDepth 100000 in
set_option maxHeartbeats 8000000 in
theorem cchecks_walk (A : Option Addr) (n cap : Nat) (X Y V : Nat → Int) (a b : Int) (w : World) (hcl : Cloud w A n X Y V) :
    Calls Try.prog 3 #[.slice A n cap, .agg #[.int .i64 a, .int .i64 b]] w fun e w' => e = .returned (.bool true) ∧ Below w.heap.size w w' := by
  have hB : Below w.heap.size w (w.alloc (.cells #[.int .i64 a, .int .i64 b] 24)) := (Below.refl _ w).alloc (Nat.le_refl _) _
  obtain ⟨lg, hlg⟩ : ∃ lg, lg = decide ((60 < n ∧ n ≤ 1000) ∨ 1100 < n) := ⟨_, rfl⟩
  have HL := Lib.hid (fun W : World => (show Calls Try.prog 15 #[.slice A n cap, .int .i64 60] W fun e w' => e = .returned (.bool lg) ∧ Below W.heap.size W w' from long_any A n cap 60 lg (Lib.hid hlg.symm) W))
  cases lg with
  | true =>
    clear hlg hcl
    go_enter Try.func3, Try.ntmps3
    go_wp2_with (first
      | (go_at_call 15; (with_reducible refine (HL.out _).mono ?_); rintro e w1 ⟨rfl, hb1⟩; replace hB := below_step hB hb1)
      | (go_at_call 16; (with_reducible refine (awake_any _).mono ?_); rintro e w2 ⟨rfl, hb2⟩; replace hB := below_step hB hb2))
    go_ret
    exact ⟨rfl, hB⟩
  | false =>
    have hn : n ≤ 1100 := by
      have h := hlg.symm
      rw [decide_eq_false_iff_not] at h
      omega
    obtain ⟨m0, m1, m2, m3, hav⟩ := arV_agg n X Y V
    have HA := Lib.hid (fun (A : Option Addr) (cap : Nat) (W : World) (h : Cloud W A n X Y V) => around_any A n cap X Y V W h)
    have HRA := Lib.hid (fun (A : Option Addr) (cap : Nat) (W : World) (h : Cloud W A n X Y V) => raround_any A n cap X Y V W h)
    have HC := Lib.hid (fun (A : Option Addr) (cap : Nat) (W : World) (h : Cloud W A n X Y V) => check_any A n cap X Y V W h)
    have HRC := Lib.hid (fun (A : Option Addr) (cap : Nat) (W : World) (h : Cloud W A n X Y V) => rcheck_any A n cap X Y V W h)
    have HSH := Lib.hid (fun (A : Option Addr) (cap : Nat) (W : World) (h : Cloud W A n X Y V) => shift_any A n cap X Y V a b W h)
    have HRS := Lib.hid (fun (A : Option Addr) (cap : Nat) (W : World) (h : Cloud W A n X Y V) => rshift_any A n cap X Y V a b W h)
    have HM : Hid ((shN n X Y V a b).1 ≤ 1000000) := Lib.hid (by
      unfold shN
      split
      · exact Nat.zero_le _
      · split
        · exact Nat.zero_le _
        · split
          · exact (show n ≤ 1000000 by omega)
          · exact Nat.zero_le _)
    unfold ShPost at HSH HRS
    rw [hav] at HA HRA
    obtain ⟨ao, hao⟩ : ∃ z, z = arOk n X Y V := ⟨_, rfl⟩
    rw [← hao] at HA HRA
    obtain ⟨z, hz⟩ : ∃ z, z = chkF n X Y V := ⟨_, rfl⟩
    rw [← hz] at HC HRC
    generalize shN n X Y V a b = sn at *
    obtain ⟨m, er⟩ := sn
    dsimp only at HSH HRS HM
    have HCL := Lib.hid hcl
    have HBX := Lib.hid (BoxAt.new w 24 #[.int .i64 a, .int .i64 b])
    obtain ⟨L3, hL3⟩ : ∃ q, q = w.heap.size := ⟨_, rfl⟩
    clear hlg hcl hav hao hz
    go_enter Try.func3, Try.ntmps3
    go_upto_region 4 with (first
      | (go_at_call 15; (with_reducible refine (HL.out _).mono ?_); rintro e w1 ⟨rfl, hb1⟩; replace hB := below_step hB hb1; have HBX1 := Lib.hid (box_step HBX.out hb1))
      | (go_at_call 17; (with_reducible refine (ownpoints_any A n cap X Y V hn _ (HCL.out.below hB)).mono ?_); rintro e w2 ⟨B1, c1, rfl, hle1, hC1, hb2⟩; replace hB := below_step hB hb2; have HBX2 := Lib.hid (box_step HBX1.out hb2); have HC1 := Lib.hid hC1; clear hC1))
    rw [← hL3] at HBX2 ⊢
    clear hL3 HBX HBX1 hb1 hb2 HL
    have HB2 := Lib.hid hB
    clear hB
    have hB := Below.refl w2.heap.size w2
    go_upto_region 6 with (first
      | (go_at_call 18; (with_reducible refine (HA.out B1 c1 _ HC1.out).mono ?_); rintro e w3 ⟨rfl, hb3⟩; have hB3 := below_step hB hb3)
      | (go_at_call 19; (with_reducible refine (HRA.out A cap _ (HCL.out.below (below_step HB2.out (hB3.alloc hB3.size _)))).mono ?_); rintro e w4 ⟨rfl, hb4⟩))
    have hb5 := below_step hB3 ((Below.refl _ w3).alloc (Nat.le_refl _) (.cells #[.int .i64 m0, .int .i64 m1, .int .i64 m2, .int .i64 m3] 29))
    have hb6 := below_step hb5 hb4
    have hb7 := below_step hb6 ((Below.refl _ w4).alloc (Nat.le_refl _) (.cells #[.int .i64 m0, .int .i64 m1, .int .i64 m2, .int .i64 m3] 29))
    have HBX7 := Lib.hid (box_step HBX2.out hb7)
    have HC7 := Lib.hid (HC1.out.below hb7)
    have HBa := Lib.hid (((BoxAt.new w3 29 #[.int .i64 m0, .int .i64 m1, .int .i64 m2, .int .i64 m3]).below hb4 (by simp)).alloc (.cells #[.int .i64 m0, .int .i64 m1, .int .i64 m2, .int .i64 m3] 29))
    have HBb := Lib.hid (BoxAt.new w4 29 #[.int .i64 m0, .int .i64 m1, .int .i64 m2, .int .i64 m3])
    have HB7 := Lib.hid (below_step HB2.out hb7)
    obtain ⟨La, hLa⟩ : ∃ q, q = w3.heap.size := ⟨_, rfl⟩
    obtain ⟨Lb, hLb⟩ : ∃ q, q = w4.heap.size := ⟨_, rfl⟩
    rw [← hLa] at HBa ⊢
    rw [← hLb] at HBb ⊢
    clear hLa hLb hb3 hb4 hb5 hb6 hb7 hB3 hB HB2 HC1 HBX2 HA HRA
    generalize w4.alloc (.cells #[.int .i64 m0, .int .i64 m1, .int .i64 m2, .int .i64 m3] 29) = wx at *
    have d0 : wx.cell? ⟨L3, 0, none⟩ = some (.int .i64 a) := HBX7.out.cell 0
    have d1 : wx.cell? ⟨L3, 1, none⟩ = some (.int .i64 b) := HBX7.out.cell 1
    have l3 := HBX7.out.lt
    have hBx := Below.refl wx.heap.size wx
    go_upto_region 8 with (first
      | (go_at_call 20; (with_reducible refine (HSH.out B1 c1 _ HC7.out).mono ?_); rintro e w5 ⟨B5, c5, rfl, hle5, hC5, hb5⟩; replace hBx := below_step hBx hb5; have HC5 := Lib.hid hC5; clear hC5; have d2 : w5.cell? ⟨L3, 0, none⟩ = some (.int .i64 a) := (box_step HBX7.out hb5).cell 0; have d3 : w5.cell? ⟨L3, 1, none⟩ = some (.int .i64 b) := (box_step HBX7.out hb5).cell 1; have l4 := (box_step HBX7.out hb5).lt)
      | (go_at_call 21; (with_reducible refine (HRS.out A cap _ (HCL.out.below (below_step HB7.out hBx))).mono ?_); rintro e w6 ⟨B6, c6, rfl, hle6, hC6, hb6⟩; replace hBx := below_step hBx hb6; have HC6 := Lib.hid hC6; clear hC6; have HC56 := Lib.hid (HC5.out.below hb6)))
    have HBa6 := Lib.hid (box_step HBa.out hBx)
    have HBb6 := Lib.hid (box_step HBb.out hBx)
    have HC16 := Lib.hid (HC7.out.below hBx)
    have HB6 := Lib.hid (below_step HB7.out hBx)
    clear d0 d1 d2 d3 l3 l4 hb5 hb6 HBa HBb HC7 HBX7 HB7 hBx HSH HRS
    have hBy := Below.refl w6.heap.size w6
    have hn2 : n ≤ 1000000 := by omega
    go_wp2_with (first
      | (go_at_call 22; (with_reducible refine (HC.out B1 c1 _ HC16.out).mono ?_); rintro e w7 ⟨rfl, hb7⟩; replace hBy := below_step hBy hb7)
      | (go_at_call 23; (with_reducible refine (HRC.out A cap _ (HCL.out.below (below_step HB6.out hBy))).mono ?_); rintro e w8 ⟨rfl, hb8⟩; replace hBy := below_step hBy hb8; have t0 := (box_step HBa6.out hBy).cell 0; have t1 := (box_step HBa6.out hBy).cell 1; have t2 := (box_step HBa6.out hBy).cell 2; have t3 := (box_step HBa6.out hBy).cell 3; have v0 := (box_step HBb6.out hBy).cell 0; have v1 := (box_step HBb6.out hBy).cell 1; have v2 := (box_step HBb6.out hBy).cell 2; have v3 := (box_step HBb6.out hBy).cell 3; have t4 := (box_step HBa6.out hBy).lt; have v4 := (box_step HBb6.out hBy).lt; replace t0 : w8.cell? ⟨La, 0, none⟩ = some (.int .i64 m0) := t0; replace t1 : w8.cell? ⟨La, 1, none⟩ = some (.int .i64 m1) := t1; replace t2 : w8.cell? ⟨La, 2, none⟩ = some (.int .i64 m2) := t2; replace t3 : w8.cell? ⟨La, 3, none⟩ = some (.int .i64 m3) := t3; replace v0 : w8.cell? ⟨Lb, 0, none⟩ = some (.int .i64 m0) := v0; replace v1 : w8.cell? ⟨Lb, 1, none⟩ = some (.int .i64 m1) := v1; replace v2 : w8.cell? ⟨Lb, 2, none⟩ = some (.int .i64 m2) := v2; replace v3 : w8.cell? ⟨Lb, 3, none⟩ = some (.int .i64 m3) := v3)
      | (go_at_call 24; (with_reducible refine (same_points B5 B6 m c5 c6 (fun i => X i + a) (fun i => Y i + b) V _ HM.out (HC56.out.below hBy) (HC6.out.below hBy)).mono ?_); rintro e w9 ⟨rfl, hb9⟩; replace hBy := below_step hBy hb9)
      | (go_at_call 24; (with_reducible refine (same_points B1 A n c1 cap X Y V _ hn2 (HC16.out.below hBy) (HCL.out.below (below_step HB6.out hBy))).mono ?_); rintro e w10 ⟨rfl, hb10⟩; replace hBy := below_step hBy hb10)
      | (go_at_call 16; (with_reducible refine (awake_any _).mono ?_); rintro e w11 ⟨rfl, hb11⟩; replace hBy := below_step hBy hb11))
    go_ret
    exact ⟨rfl, below_step HB6.out hBy⟩
end Go.Proofs.Ytaehfildhmljeaa
