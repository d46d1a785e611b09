/- Reduce of any cloud and any size, the program's and the reference's; the law CloudReduces: its walk. -/
import Derived.Test.YtaehfildhmljeaaRRed
import Derived.Test.YtaehfildhmljeaaRedX
import Derived.Test.YtaehfildhmljeaaAwk
import Derived.Test.YtaehfildhmljeaaPtsL
namespace Go.Proofs.Ytaehfildhmljeaa
open Go.RowKit Go.Shelf

theorem gridF_zero {n : Nat} {X Y V : Nat → Int} {s : Int} (h : gridF n X Y V s = 0) : chkF n X Y V = 0 ∧ 1 ≤ s ∧ s ≤ 16777216 := by
  unfold gridF at h
  split at h
  · rename_i h1; exact absurd h h1
  · rename_i h1
    split at h
    · rename_i h2; exact ⟨by simpa using h1, h2⟩
    · cases h
set_option maxHeartbeats 4000000 in
theorem reduce_any (A : Option Addr) (n cap : Nat) (X Y V : Nat → Int) (s : Int) (w : World) (hcl : Cloud w A n X Y V) :
    Calls Try.prog 37 #[.slice A n cap, .int .i64 s] w (RedAll n X Y V s w) := by
  by_cases hz : gridF n X Y V s = 0
  · obtain ⟨a, b, c⟩ := gridF_zero hz
    exact reduce_good A n cap X Y V s a b c w hcl
  · have HK := Lib.hid (grid_any A n cap X Y V s w hcl)
    obtain ⟨z, hze⟩ : ∃ z, z = gridF n X Y V s := ⟨_, rfl⟩
    have HE : Hid (gridF n X Y V s = z) := Lib.hid hze.symm
    rw [← hze] at HK hz
    have HZ := Lib.hid hz
    clear hcl hze
    go_enter Try.func37, Try.ntmps37
    go_wp2_with (go_at_call 65; (with_reducible refine HK.out.mono ?_); rintro e w1 ⟨rfl, hb1⟩)
    exact bodyPost_ret (v := .tuple #[.slice none 0 0, .int .i64 z]) (by simp [results, Try.results37, go_sem]) rfl (RedAll.nil HE.out HZ.out hb1)
set_option maxHeartbeats 4000000 in
theorem rreduce_any (A : Option Addr) (n cap : Nat) (X Y V : Nat → Int) (s : Int) (w : World) (hcl : Cloud w A n X Y V) :
    Calls Try.prog 38 #[.slice A n cap, .int .i64 s] w (RedAll n X Y V s w) := by
  have HK := Lib.hid (rcheck_any A n cap X Y V w hcl)
  by_cases hok : chkF n X Y V = 0
  · by_cases h : 1 ≤ s ∧ s ≤ 16777216
    · exact rreduce_good A n cap X Y V s hok h.1 h.2 w hcl
    · have HE : Hid (gridF n X Y V s = 2) := Lib.hid (by unfold gridF; rw [hok, if_neg (by simp), if_neg h])
      have HSz := Lib.hid (fun W => sized_any s false (by simp [h]) W)
      rw [hok] at HK
      clear hok h hcl
      go_enter Try.func38, Try.ntmps38
      go_wp2_with (first
        | (go_at_call 23; (with_reducible refine HK.out.mono ?_); rintro e w1 ⟨rfl, hb1⟩)
        | (go_at_call 69; (with_reducible refine (HSz.out _).mono ?_); rintro e w2 ⟨rfl, hb2⟩))
      exact bodyPost_ret (v := .tuple #[.slice none 0 0, .int .i64 2]) (by simp [results, Try.results38, go_sem]) rfl (RedAll.nil HE.out (by decide) (below_step hb1 hb2))
  · have HE : Hid (gridF n X Y V s = chkF n X Y V) := Lib.hid (by unfold gridF; rw [if_pos hok])
    obtain ⟨z, hz⟩ : ∃ z, z = chkF n X Y V := ⟨_, rfl⟩
    rw [← hz] at HK HE hok
    have HZ := Lib.hid hok
    clear hcl hz
    go_enter Try.func38, Try.ntmps38
    go_wp2_with (go_at_call 23; (with_reducible refine HK.out.mono ?_); rintro e w1 ⟨rfl, hb1⟩)
    exact bodyPost_ret (v := .tuple #[.slice none 0 0, .int .i64 z]) (by simp [results, Try.results38, go_sem]) rfl (RedAll.nil HE.out HZ.out hb1)

set_option maxRecDepth 100000 in
set_option maxHeartbeats 8000000 in
theorem creduces_walk (A : Option Addr) (n cap : Nat) (X Y V : Nat → Int) (s : Int) (w : World) (hcl : Cloud w A n X Y V) :
    Calls Try.prog 7 #[.slice A n cap, .int .i64 s] w fun e w' => e = .returned (.bool true) ∧ Below w.heap.size w w' := by
  have hB := Below.refl w.heap.size w
  obtain ⟨lg, hlg⟩ : ∃ lg, lg = decide ((60 < n ∧ n ≤ 1000) ∨ 1100 < n) := ⟨_, rfl⟩
  have HL := Lib.hid (fun W : World => (show Calls Try.prog 15 #[.slice A n cap, .int .i64 60] W fun e w' => e = .returned (.bool lg) ∧ Below W.heap.size W w' from long_any A n cap 60 lg (Lib.hid hlg.symm) W))
  cases lg with
  | true =>
    clear hlg hcl
    go_enter Try.func7, Try.ntmps7
    go_wp2_with (first
      | (go_at_call 15; (with_reducible refine (HL.out _).mono ?_); rintro e w1 ⟨rfl, hb1⟩; replace hB := below_step hB hb1)
      | (go_at_call 16; (with_reducible refine (awake_any _).mono ?_); rintro e w2 ⟨rfl, hb2⟩; replace hB := below_step hB hb2))
    go_ret
    exact ⟨rfl, hB⟩
  | false =>
    have hn : n ≤ 1100 := by
      have h := hlg.symm
      rw [decide_eq_false_iff_not] at h
      omega
    have hn2 : n ≤ 1000000 := by omega
    have HS := Lib.hid (fun (A : Option Addr) (cap : Nat) (W : World) (h : Cloud W A n X Y V) => reduce_any A n cap X Y V s W h)
    have HR := Lib.hid (fun (A : Option Addr) (cap : Nat) (W : World) (h : Cloud W A n X Y V) => rreduce_any A n cap X Y V s W h)
    unfold RedAll at HS HR
    have HBd := Lib.hid (fun W => bound_any s W)
    have HRBd := Lib.hid (fun W => rbound_any s W)
    obtain ⟨q, hq⟩ : ∃ q, q = bndF s := ⟨_, rfl⟩
    rw [← hq] at HBd HRBd
    obtain ⟨m, hm⟩ : ∃ m, m = (if gridF n X Y V s = 0 then rnk (redC X Y s) n else 0) := ⟨_, rfl⟩
    have hmn : m ≤ 1000000 := by
      have := rnk_le (C := redC X Y s) n
      rw [hm]
      split <;> omega
    rw [← hm] at HS HR
    obtain ⟨z, hz⟩ : ∃ z, z = gridF n X Y V s := ⟨_, rfl⟩
    rw [← hz] at HS HR
    have HCL := Lib.hid hcl
    clear hlg hcl hz hm hq
    generalize (fun a => X (nthF (redC X Y s) n a)) = X' at *
    generalize (fun a => Y (nthF (redC X Y s) n a)) = Y' at *
    generalize (fun a => mxF (redC X Y s) V (nthF (redC X Y s) n a) n) = V' at *
    go_enter Try.func7, Try.ntmps7
    go_wp2_with (first
      | (go_at_call 15; (with_reducible refine (HL.out _).mono ?_); rintro e w1 ⟨rfl, hb1⟩; replace hB := below_step hB hb1)
      | (go_at_call 17; (with_reducible refine (ownpoints_any A n cap X Y V hn _ (HCL.out.below hB)).mono ?_); rintro e w2 ⟨B1, c1, rfl, hle1, hC1, hb2⟩; replace hB := below_step hB hb2; have HC1 := Lib.hid hC1; clear hC1 hle1)
      | (go_at_call 37; (with_reducible refine (HS.out B1 c1 _ HC1.out).mono ?_); rintro e w3 ⟨B3, c3, rfl, hle3, hG1, hb3⟩; replace hB := below_step hB hb3; have HC2 := Lib.hid (HC1.out.below hb3); have HG1 := Lib.hid hG1; clear hG1 hle3)
      | (go_at_call 38; (with_reducible refine (HR.out A cap _ (HCL.out.below hB)).mono ?_); rintro e w4 ⟨B4, c4, rfl, hle4, hG2, hb4⟩; replace hB := below_step hB hb4; have HC3 := Lib.hid (HC2.out.below hb4); have HG12 := Lib.hid (HG1.out.below hb4); have HG2 := Lib.hid hG2; clear hG2 hle4)
      | (go_at_call 24; (with_reducible refine (same_points B3 B4 m c3 c4 X' Y' V' _ hmn HG12.out HG2.out).mono ?_); rintro e w5 ⟨rfl, hb5⟩; replace hB := below_step hB hb5; have HC4 := Lib.hid (HC3.out.below hb5))
      | (go_at_call 39; (with_reducible refine (HBd.out _).mono ?_); rintro e w6 ⟨rfl, hb6⟩; replace hB := below_step hB hb6; have HC5 := Lib.hid (HC4.out.below hb6))
      | (go_at_call 40; (with_reducible refine (HRBd.out _).mono ?_); rintro e w7 ⟨rfl, hb7⟩; replace hB := below_step hB hb7; have HC6 := Lib.hid (HC5.out.below hb7))
      | (go_at_call 24; (with_reducible refine (same_points B1 A n c1 cap X Y V _ hn2 HC6.out (HCL.out.below hB)).mono ?_); rintro e w8 ⟨rfl, hb8⟩; replace hB := below_step hB hb8)
      | (go_at_call 16; (with_reducible refine (awake_any _).mono ?_); rintro e w9 ⟨rfl, hb9⟩; replace hB := below_step hB hb9))
    go_ret
    exact ⟨rfl, hB⟩
end Go.Proofs.Ytaehfildhmljeaa
