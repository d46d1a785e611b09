/- The law CloudSegments: its walk. -/
import Derived.Test.YtaehfildhmljeaaSegA
import Derived.Test.YtaehfildhmljeaaAwk
import Derived.Test.YtaehfildhmljeaaPtsL
namespace Go.Proofs.Ytaehfildhmljeaa
open Go.RowKit Go.Shelf

set_option maxRecDepth 100000 in
set_option maxHeartbeats 8000000 in
theorem csegments_walk (A : Option Addr) (n cap : Nat) (X Y V : Nat → Int) (gap : Int) (w : World) (hcl : Cloud w A n X Y V) :
    Calls Try.prog 6 #[.slice A n cap, .int .i64 gap] w fun e w' => e = .returned (.bool true) ∧ Below w.heap.size w w' := by
  have hB := Below.refl w.heap.size w
  obtain ⟨lg, hlg⟩ : ∃ lg, lg = decide ((40 < n ∧ n ≤ 1000) ∨ 1100 < n) := ⟨_, rfl⟩
  have HL := Lib.hid (fun W : World => (show Calls Try.prog 15 #[.slice A n cap, .int .i64 40] W fun e w' => e = .returned (.bool lg) ∧ Below W.heap.size W w' from long_any A n cap 40 lg (Lib.hid hlg.symm) W))
  cases lg with
  | true =>
    clear hlg hcl
    go_enter Try.func6, Try.ntmps6
    go_wp2_with (first
      | (go_at_call 15; (with_reducible refine (HL.out _).mono ?_); rintro e w1 ⟨rfl, hb1⟩; replace hB := below_step hB hb1)
      | (go_at_call 16; (with_reducible refine (awake_any _).mono ?_); rintro e w2 ⟨rfl, hb2⟩; replace hB := below_step hB hb2))
    go_ret
    exact ⟨rfl, hB⟩
  | false =>
    have hn : n ≤ 1100 := by
      have h := hlg.symm
      rw [decide_eq_false_iff_not] at h
      omega
    have hn2 : n ≤ 1000000 := by omega
    have HS := Lib.hid (fun (A : Option Addr) (cap : Nat) (hc : n ≤ cap) (W : World) (h : Cloud W A n X Y V) => segments_any A n cap X Y V gap hc W h)
    have HR := Lib.hid (fun (A : Option Addr) (cap : Nat) (W : World) (h : Cloud W A n X Y V) => rsegments_any A n cap X Y V gap W h)
    unfold SegAll at HS HR
    obtain ⟨z, hz⟩ : ∃ z, z = segE n X Y V gap := ⟨_, rfl⟩
    have HSame := Lib.hid (fun R R' => segs_same (n := n) (X := X) (Y := Y) (V := V) (gap := gap) (R := R) (R' := R'))
    have HBd := Lib.hid (fun R => segs_bd (n := n) (X := X) (Y := Y) (V := V) (gap := gap) (R := R) hn2)
    rw [← hz] at HS HR HSame HBd
    have HCL := Lib.hid hcl
    clear hlg hcl hz
    go_enter Try.func6, Try.ntmps6
    go_wp2_with (first
      | (go_at_call 15; (with_reducible refine (HL.out _).mono ?_); rintro e w1 ⟨rfl, hb1⟩; replace hB := below_step hB hb1)
      | (go_at_call 17; (with_reducible refine (ownpoints_any A n cap X Y V hn _ (HCL.out.below hB)).mono ?_); rintro e w2 ⟨B1, c1, rfl, hle1, hC1, hb2⟩; replace hB := below_step hB hb2; have HC1 := Lib.hid hC1; have HLE := Lib.hid hle1; clear hC1 hle1)
      | (go_at_call 34; (with_reducible refine (HS.out B1 c1 HLE.out _ HC1.out).mono ?_); rintro e w3 ⟨R1, v1, rfl, _, hG1, hR1, hR1', hb3⟩; replace hB := below_step hB hb3; have HC2 := Lib.hid (HC1.out.below hb3); have HG1 := Lib.hid hG1; have HR1 := Lib.hid hR1; have HR1' := Lib.hid hR1'; clear hG1 hR1 hR1')
      | (go_at_call 35; (with_reducible refine (HR.out A cap _ (HCL.out.below hB)).mono ?_); rintro e w4 ⟨R2, v2, rfl, _, hG2, hR2, hR2', hb4⟩; have hRR := HSame.out R1 R2 HR1.out HR1'.out hR2 hR2'; subst hRR; replace hB := below_step hB hb4; have HC3 := Lib.hid (HC2.out.below hb4); have HG12 := Lib.hid (HG1.out.below hb4); have HG2 := Lib.hid hG2; clear hG2 hR2 hR2')
      | (go_at_call 36; (with_reducible refine (same_groups v1 v2 R1 _ (HBd.out R1 HR1.out HR1'.out).1 (HBd.out R1 HR1.out HR1'.out).2 HG12.out HG2.out).mono ?_); rintro e w5 ⟨rfl, hb5⟩; replace hB := below_step hB hb5; have HC4 := Lib.hid (HC3.out.below hb5))
      | (go_at_call 24; (with_reducible refine (same_points B1 A n c1 cap X Y V _ hn2 HC4.out (HCL.out.below hB)).mono ?_); rintro e w6 ⟨rfl, hb6⟩; replace hB := below_step hB hb6)
      | (go_at_call 16; (with_reducible refine (awake_any _).mono ?_); rintro e w7 ⟨rfl, hb7⟩; replace hB := below_step hB hb7))
    go_ret
    exact ⟨rfl, hB⟩
end Go.Proofs.Ytaehfildhmljeaa
