/- Reduce of any cloud and any size, the program's and the reference's; the law CloudReduces: its walk. Index of any cloud and any size, the program's and the reference's; the law CloudIndex: its walk. -/
import Derived.Test.YtaehfildhmljeaaRRed
import Derived.Test.YtaehfildhmljeaaRedX
import Derived.Test.YtaehfildhmljeaaAwk
import Derived.Test.YtaehfildhmljeaaPtsL
import Derived.Test.YtaehfildhmljeaaRIdx
namespace Go.Proofs.Ytaehfildhmljeaa
open Go.RowKit Go.Shelf

theorem gridF_zero {n : Nat} {X Y V : Nat → Int} {s : Int} (h : gridF n X Y V s = 0) : chkF n X Y V = 0 ∧ 1 ≤ s ∧ s ≤ 16777216 := by
  unfold gridF at h
  split at h
  · rename_i h1; exact absurd h h1
  · rename_i h1
    split at h
    · rename_i h2; exact ⟨by simpa using h1, h2⟩
    · cases h
set_option maxHeartbeats 4000000 in
theorem reduce_any (A : Option Addr) (n cap : Nat) (X Y V : Nat → Int) (s : Int) (w : World) (hcl : Cloud w A n X Y V) :
    Calls Try.prog 37 #[.slice A n cap, .int .i64 s] w (RedAll n X Y V s w) := by
  by_cases hz : gridF n X Y V s = 0
  · obtain ⟨a, b, c⟩ := gridF_zero hz
    exact reduce_good A n cap X Y V s a b c w hcl
  · have HK := Lib.hid (grid_any A n cap X Y V s w hcl)
    obtain ⟨z, hze⟩ : ∃ z, z = gridF n X Y V s := ⟨_, rfl⟩
    have HE : Hid (gridF n X Y V s = z) := Lib.hid hze.symm
    rw [← hze] at HK hz
    have HZ := Lib.hid hz
    clear hcl hze
    go_enter Try.func37, Try.ntmps37
    go_wp2_with (go_at_call 65; (with_reducible refine HK.out.mono ?_); rintro e w1 ⟨rfl, hb1⟩)
    exact bodyPost_ret (v := .tuple #[.slice none 0 0, .int .i64 z]) (by simp [results, Try.results37, go_sem]) rfl (RedAll.nil HE.out HZ.out hb1)
set_option maxHeartbeats 4000000 in
theorem rreduce_any (A : Option Addr) (n cap : Nat) (X Y V : Nat → Int) (s : Int) (w : World) (hcl : Cloud w A n X Y V) :
    Calls Try.prog 38 #[.slice A n cap, .int .i64 s] w (RedAll n X Y V s w) := by
  have HK := Lib.hid (rcheck_any A n cap X Y V w hcl)
  by_cases hok : chkF n X Y V = 0
  · by_cases h : 1 ≤ s ∧ s ≤ 16777216
    · exact rreduce_good A n cap X Y V s hok h.1 h.2 w hcl
    · have HE : Hid (gridF n X Y V s = 2) := Lib.hid (by unfold gridF; rw [hok, if_neg (by simp), if_neg h])
      have HSz := Lib.hid (fun W => sized_any s false (by simp [h]) W)
      rw [hok] at HK
      clear hok h hcl
      go_enter Try.func38, Try.ntmps38
      go_wp2_with (first
        | (go_at_call 23; (with_reducible refine HK.out.mono ?_); rintro e w1 ⟨rfl, hb1⟩)
        | (go_at_call 69; (with_reducible refine (HSz.out _).mono ?_); rintro e w2 ⟨rfl, hb2⟩))
      exact bodyPost_ret (v := .tuple #[.slice none 0 0, .int .i64 2]) (by simp [results, Try.results38, go_sem]) rfl (RedAll.nil HE.out (by decide) (below_step hb1 hb2))
  · have HE : Hid (gridF n X Y V s = chkF n X Y V) := Lib.hid (by unfold gridF; rw [if_pos hok])
    obtain ⟨z, hz⟩ : ∃ z, z = chkF n X Y V := ⟨_, rfl⟩
    rw [← hz] at HK HE hok
    have HZ := Lib.hid hok
    clear hcl hz
    go_enter Try.func38, Try.ntmps38
    go_wp2_with (go_at_call 23; (with_reducible refine HK.out.mono ?_); rintro e w1 ⟨rfl, hb1⟩)
    exact bodyPost_ret (v := .tuple #[.slice none 0 0, .int .i64 z]) (by simp [results, Try.results38, go_sem]) rfl (RedAll.nil HE.out HZ.out hb1)

set_option maxRecDepth 100000 in
set_option maxHeartbeats 8000000 in
theorem creduces_walk (A : Option Addr) (n cap : Nat) (X Y V : Nat → Int) (s : Int) (w : World) (hcl : Cloud w A n X Y V) :
    Calls Try.prog 7 #[.slice A n cap, .int .i64 s] w fun e w' => e = .returned (.bool true) ∧ Below w.heap.size w w' := by
  have hB := Below.refl w.heap.size w
  obtain ⟨lg, hlg⟩ : ∃ lg, lg = decide ((60 < n ∧ n ≤ 1000) ∨ 1100 < n) := ⟨_, rfl⟩
  have HL := Lib.hid (fun W : World => (show Calls Try.prog 15 #[.slice A n cap, .int .i64 60] W fun e w' => e = .returned (.bool lg) ∧ Below W.heap.size W w' from long_any A n cap 60 lg (Lib.hid hlg.symm) W))
  cases lg with
  | true =>
    clear hlg hcl
    go_enter Try.func7, Try.ntmps7
    go_wp2_with (first
      | (go_at_call 15; (with_reducible refine (HL.out _).mono ?_); rintro e w1 ⟨rfl, hb1⟩; replace hB := below_step hB hb1)
      | (go_at_call 16; (with_reducible refine (awake_any _).mono ?_); rintro e w2 ⟨rfl, hb2⟩; replace hB := below_step hB hb2))
    go_ret
    exact ⟨rfl, hB⟩
  | false =>
    have hn : n ≤ 1100 := by
      have h := hlg.symm
      rw [decide_eq_false_iff_not] at h
      omega
    have hn2 : n ≤ 1000000 := by omega
    have HS := Lib.hid (fun (A : Option Addr) (cap : Nat) (W : World) (h : Cloud W A n X Y V) => reduce_any A n cap X Y V s W h)
    have HR := Lib.hid (fun (A : Option Addr) (cap : Nat) (W : World) (h : Cloud W A n X Y V) => rreduce_any A n cap X Y V s W h)
    unfold RedAll at HS HR
    have HBd := Lib.hid (fun W => bound_any s W)
    have HRBd := Lib.hid (fun W => rbound_any s W)
    obtain ⟨q, hq⟩ : ∃ q, q = bndF s := ⟨_, rfl⟩
    rw [← hq] at HBd HRBd
    obtain ⟨m, hm⟩ : ∃ m, m = (if gridF n X Y V s = 0 then rnk (redC X Y s) n else 0) := ⟨_, rfl⟩
    have hmn : m ≤ 1000000 := by
      have := rnk_le (C := redC X Y s) n
      rw [hm]
      split <;> omega
    rw [← hm] at HS HR
    obtain ⟨z, hz⟩ : ∃ z, z = gridF n X Y V s := ⟨_, rfl⟩
    rw [← hz] at HS HR
    have HCL := Lib.hid hcl
    clear hlg hcl hz hm hq
    generalize (fun a => X (nthF (redC X Y s) n a)) = X' at *
    generalize (fun a => Y (nthF (redC X Y s) n a)) = Y' at *
    generalize (fun a => mxF (redC X Y s) V (nthF (redC X Y s) n a) n) = V' at *
    go_enter Try.func7, Try.ntmps7
    go_wp2_with (first
      | (go_at_call 15; (with_reducible refine (HL.out _).mono ?_); rintro e w1 ⟨rfl, hb1⟩; replace hB := below_step hB hb1)
      | (go_at_call 17; (with_reducible refine (ownpoints_any A n cap X Y V hn _ (HCL.out.below hB)).mono ?_); rintro e w2 ⟨B1, c1, rfl, hle1, hC1, hb2⟩; replace hB := below_step hB hb2; have HC1 := Lib.hid hC1; clear hC1 hle1)
      | (go_at_call 37; (with_reducible refine (HS.out B1 c1 _ HC1.out).mono ?_); rintro e w3 ⟨B3, c3, rfl, hle3, hG1, hb3⟩; replace hB := below_step hB hb3; have HC2 := Lib.hid (HC1.out.below hb3); have HG1 := Lib.hid hG1; clear hG1 hle3)
      | (go_at_call 38; (with_reducible refine (HR.out A cap _ (HCL.out.below hB)).mono ?_); rintro e w4 ⟨B4, c4, rfl, hle4, hG2, hb4⟩; replace hB := below_step hB hb4; have HC3 := Lib.hid (HC2.out.below hb4); have HG12 := Lib.hid (HG1.out.below hb4); have HG2 := Lib.hid hG2; clear hG2 hle4)
      | (go_at_call 24; (with_reducible refine (same_points B3 B4 m c3 c4 X' Y' V' _ hmn HG12.out HG2.out).mono ?_); rintro e w5 ⟨rfl, hb5⟩; replace hB := below_step hB hb5; have HC4 := Lib.hid (HC3.out.below hb5))
      | (go_at_call 39; (with_reducible refine (HBd.out _).mono ?_); rintro e w6 ⟨rfl, hb6⟩; replace hB := below_step hB hb6; have HC5 := Lib.hid (HC4.out.below hb6))
      | (go_at_call 40; (with_reducible refine (HRBd.out _).mono ?_); rintro e w7 ⟨rfl, hb7⟩; replace hB := below_step hB hb7; have HC6 := Lib.hid (HC5.out.below hb7))
      | (go_at_call 24; (with_reducible refine (same_points B1 A n c1 cap X Y V _ hn2 HC6.out (HCL.out.below hB)).mono ?_); rintro e w8 ⟨rfl, hb8⟩; replace hB := below_step hB hb8)
      | (go_at_call 16; (with_reducible refine (awake_any _).mono ?_); rintro e w9 ⟨rfl, hb9⟩; replace hB := below_step hB hb9))
    go_ret
    exact ⟨rfl, hB⟩
end Go.Proofs.Ytaehfildhmljeaa

namespace Go.Proofs.Ytaehfildhmljeaa
open Go.RowKit Go.Shelf

theorem IdxAll.nil {n : Nat} {X Y V : Nat → Int} {s z : Int} {w w' : World} (he : gridF n X Y V s = z) (hz : z ≠ 0) (hb : Below w.heap.size w w') : IdxAll n X Y V s w (.returned (.tuple #[.slice none 0 0, .int .i64 z])) w' := by
  have hL : idxL n X Y V s = [] := by unfold idxL; rw [if_neg (by rw [he]; exact hz)]
  have hR : idxR n X Y V s = [] := by unfold idxR; rw [hL]; rfl
  refine ⟨_, by rw [he], ?_, hb⟩
  rw [hL, hR]
  exact ⟨0, [], rfl, rfl, World.ownsRow_nil _ _ _ _, fun j y r h => by simp at h⟩
set_option maxHeartbeats 4000000 in
theorem index_any (A : Option Addr) (n cap : Nat) (X Y V : Nat → Int) (s : Int) (w : World) (hcl : Cloud w A n X Y V) :
    Calls Try.prog 25 #[.slice A n cap, .int .i64 s] w (IdxAll n X Y V s w) := by
  by_cases hz : gridF n X Y V s = 0
  · obtain ⟨a, b, c⟩ := gridF_zero hz
    exact index_good A n cap X Y V s a b c w hcl
  · have HK := Lib.hid (grid_any A n cap X Y V s w hcl)
    obtain ⟨z, hze⟩ : ∃ z, z = gridF n X Y V s := ⟨_, rfl⟩
    have HE : Hid (gridF n X Y V s = z) := Lib.hid hze.symm
    rw [← hze] at HK hz
    have HZ := Lib.hid hz
    clear hcl hze
    go_enter Try.func25, Try.ntmps25
    go_wp2_with (go_at_call 65; (with_reducible refine HK.out.mono ?_); rintro e w1 ⟨rfl, hb1⟩)
    exact bodyPost_ret (v := .tuple #[.slice none 0 0, .int .i64 z]) (by simp [results, Try.results25, go_sem]) rfl (IdxAll.nil HE.out HZ.out hb1)
set_option maxHeartbeats 4000000 in
theorem rindex_any (A : Option Addr) (n cap : Nat) (X Y V : Nat → Int) (s : Int) (w : World) (hcl : Cloud w A n X Y V) :
    Calls Try.prog 26 #[.slice A n cap, .int .i64 s] w (IdxAll n X Y V s w) := by
  have HK := Lib.hid (rcheck_any A n cap X Y V w hcl)
  by_cases hok : chkF n X Y V = 0
  · by_cases h : 1 ≤ s ∧ s ≤ 16777216
    · exact rindex_good A n cap X Y V s hok h.1 h.2 w hcl
    · have HE : Hid (gridF n X Y V s = 2) := Lib.hid (by unfold gridF; rw [hok, if_neg (by simp), if_neg h])
      have HSz := Lib.hid (fun W => sized_any s false (by simp [h]) W)
      rw [hok] at HK
      clear hok h hcl
      go_enter Try.func26, Try.ntmps26
      go_wp2_with (first
        | (go_at_call 23; (with_reducible refine HK.out.mono ?_); rintro e w1 ⟨rfl, hb1⟩)
        | (go_at_call 69; (with_reducible refine (HSz.out _).mono ?_); rintro e w2 ⟨rfl, hb2⟩))
      exact bodyPost_ret (v := .tuple #[.slice none 0 0, .int .i64 2]) (by simp [results, Try.results26, go_sem]) rfl (IdxAll.nil HE.out (by decide) (below_step hb1 hb2))
  · have HE : Hid (gridF n X Y V s = chkF n X Y V) := Lib.hid (by unfold gridF; rw [if_pos hok])
    obtain ⟨z, hz⟩ : ∃ z, z = chkF n X Y V := ⟨_, rfl⟩
    rw [← hz] at HK HE hok
    have HZ := Lib.hid hok
    clear hcl hz
    go_enter Try.func26, Try.ntmps26
    go_wp2_with (go_at_call 23; (with_reducible refine HK.out.mono ?_); rintro e w1 ⟨rfl, hb1⟩)
    exact bodyPost_ret (v := .tuple #[.slice none 0 0, .int .i64 z]) (by simp [results, Try.results26, go_sem]) rfl (IdxAll.nil HE.out HZ.out hb1)
theorem idx_small (n : Nat) (X Y V : Nat → Int) (s : Int) : (idxL n X Y V s).length ≤ n ∧ (idxR n X Y V s).length = (idxL n X Y V s).length ∧ ∀ r ∈ idxR n X Y V s, r.length ≤ n := by
  refine ⟨?_, by unfold idxR; simp, fun r hr => ?_⟩
  · unfold idxL
    split
    · exact celL_len n
    · simp
  · unfold idxR at hr
    obtain ⟨c, _, rfl⟩ := List.mem_map.1 hr
    exact grp_len n c

set_option maxRecDepth 100000 in
set_option maxHeartbeats 8000000 in
theorem cindex_walk (A : Option Addr) (n cap : Nat) (X Y V : Nat → Int) (s : Int) (w : World) (hcl : Cloud w A n X Y V) :
    Calls Try.prog 4 #[.slice A n cap, .int .i64 s] w fun e w' => e = .returned (.bool true) ∧ Below w.heap.size w w' := by
  have hB := Below.refl w.heap.size w
  obtain ⟨lg, hlg⟩ : ∃ lg, lg = decide ((60 < n ∧ n ≤ 1000) ∨ 1100 < n) := ⟨_, rfl⟩
  have HL := Lib.hid (fun W : World => (show Calls Try.prog 15 #[.slice A n cap, .int .i64 60] W fun e w' => e = .returned (.bool lg) ∧ Below W.heap.size W w' from long_any A n cap 60 lg (Lib.hid hlg.symm) W))
  cases lg with
  | true =>
    clear hlg hcl
    go_enter Try.func4, Try.ntmps4
    go_wp2_with (first
      | (go_at_call 15; (with_reducible refine (HL.out _).mono ?_); rintro e w1 ⟨rfl, hb1⟩; replace hB := below_step hB hb1)
      | (go_at_call 16; (with_reducible refine (awake_any _).mono ?_); rintro e w2 ⟨rfl, hb2⟩; replace hB := below_step hB hb2))
    go_ret
    exact ⟨rfl, hB⟩
  | false =>
    have hn : n ≤ 1100 := by
      have h := hlg.symm
      rw [decide_eq_false_iff_not] at h
      omega
    have hn2 : n ≤ 1000000 := by omega
    have HS := Lib.hid (fun (A : Option Addr) (cap : Nat) (W : World) (h : Cloud W A n X Y V) => index_any A n cap X Y V s W h)
    have HR := Lib.hid (fun (A : Option Addr) (cap : Nat) (W : World) (h : Cloud W A n X Y V) => rindex_any A n cap X Y V s W h)
    unfold IdxAll at HS HR
    obtain ⟨hl1, hl2, hl3⟩ := idx_small n X Y V s
    generalize idxL n X Y V s = L at *
    generalize idxR n X Y V s = R at *
    obtain ⟨z, hz⟩ : ∃ z, z = gridF n X Y V s := ⟨_, rfl⟩
    rw [← hz] at HS HR
    have HCL := Lib.hid hcl
    have hm2 : L.length ≤ 1000000 := by omega
    have HRL := Lib.hid (fun k (h : k < R.length) => Nat.le_trans (hl3 _ (List.getElem_mem h)) hn2)
    have HLn := Lib.hid hl2
    clear hlg hcl hz hl1 hl2 hl3
    go_enter Try.func4, Try.ntmps4
    go_upto_region 6 with (first
      | (go_at_call 15; (with_reducible refine (HL.out _).mono ?_); rintro e w1 ⟨rfl, hb1⟩; replace hB := below_step hB hb1)
      | (go_at_call 17; (with_reducible refine (ownpoints_any A n cap X Y V hn _ (HCL.out.below hB)).mono ?_); rintro e w2 ⟨B1, c1, rfl, hle1, hC1, hb2⟩; replace hB := below_step hB hb2; have HC1 := Lib.hid hC1; clear hC1 hle1)
      | (go_at_call 25; (with_reducible refine (HS.out B1 c1 _ HC1.out).mono ?_); rintro e w3 ⟨v1, rfl, hG1, hb3⟩; replace hB := below_step hB hb3; have HC2 := Lib.hid (HC1.out.below hb3); have HG1 := Lib.hid hG1; clear hG1)
      | (go_at_call 26; (with_reducible refine (HR.out A cap _ (HCL.out.below hB)).mono ?_); rintro e w4 ⟨v2, rfl, hG2, hb4⟩; replace hB := below_step hB hb4; have HC3 := Lib.hid (HC2.out.below hb4); have HG12 := Lib.hid (HG1.out.below hb4); have HG2 := Lib.hid hG2; clear hG2))
    obtain ⟨A1, d1, rfl⟩ := HG12.out.form
    obtain ⟨A2, d2, rfl⟩ := HG2.out.form
    obtain ⟨m, hm⟩ : ∃ m, m = L.length := ⟨_, rfl⟩
    rw [← hm] at hm2 ⊢
    have HM := Lib.hid hm.symm
    clear hm
    go_upto_region 9 with (go_at_call 24; (with_reducible refine (same_points B1 A n c1 cap X Y V _ hn2 HC3.out (HCL.out.below hB)).mono ?_); rintro e w8 ⟨rfl, hb8⟩; replace hB := below_step hB hb8; have HG13 := Lib.hid (HG12.out.below hb8); have HG23 := Lib.hid (HG2.out.below hb8))
    have HBW := Lib.hid hB
    clear hB HC1 HC2 HC3 HG1 HG12 HG2 hb1 hb2 hb3 hb4 hb8 HL HS HR HCL
    go_loopw [10] (fun iv wr => ∃ k : Nat, k ≤ m ∧ iv = .int .i64 k ∧ Hid (Below w8.heap.size w8 wr)) (fun iv _ => m - (intOf iv).toNat)
    case atStart => exact ⟨0, Nat.zero_le _, rfl, Lib.hid (Below.refl _ _)⟩
    case round =>
      obtain ⟨k, hk, rfl, HB⟩ := hrel
      by_cases hlt : k < m
      · have hkL : k < L.length := by rw [HM.out]; exact hlt
        have hkR : k < R.length := by rw [HLn.out]; exact hkL
        obtain ⟨g1, x1, rfl, hx1, p1, q1, r1⟩ := (HG13.out.below HB.out).cell hkL hkR
        obtain ⟨g2, x2, rfl, hx2, p2, q2, r2⟩ := (HG23.out.below HB.out).cell hkL hkR
        obtain ⟨Ax, cx, rfl⟩ := hx1.form
        obtain ⟨Ay, cy, rfl⟩ := hx2.form
        have HS := Lib.hid (fun (W : World) (hW : Below wr.heap.size wr W) => same_ints _ _ _ W (HRL.out k hkR) (hx1.below hW) (hx2.below hW))
        have i1 : (0 : Int) ≤ (k : Int) := Int.natCast_nonneg _
        have i2 : (k : Int) < (m : Int) := by omega
        have l1 := World.block_lt_of_cell? wr _ p1
        have l2 := World.block_lt_of_cell? wr _ p2
        obtain ⟨t, ht⟩ : ∃ t, t = R[k].length := ⟨_, rfl⟩
        rw [← ht] at HS r1 r2
        obtain ⟨cp, hcp⟩ : ∃ cp, cp = L[k].1 := ⟨_, rfl⟩
        obtain ⟨cq, hcq⟩ : ∃ cq, cq = L[k].2 := ⟨_, rfl⟩
        rw [← hcp] at p1 p2
        rw [← hcq] at q1 q2
        clear hx1 hx2 ht hcp hcq
        have HSix : Hid (∀ W, Below wr.heap.size wr W → W.cell? ⟨g1, k * 3, none⟩ = some (.int .i64 cp) ∧ W.cell? ⟨g1, k * 3 + 1, none⟩ = some (.int .i64 cq) ∧ W.cell? ⟨g1, k * 3 + 2, none⟩ = some (.slice Ax t cx) ∧
            W.cell? ⟨g2, k * 3, none⟩ = some (.int .i64 cp) ∧ W.cell? ⟨g2, k * 3 + 1, none⟩ = some (.int .i64 cq) ∧ W.cell? ⟨g2, k * 3 + 2, none⟩ = some (.slice Ay t cy)) := Lib.hid (fun W hW =>
          ⟨(hW.cell (p := ⟨g1, k * 3, none⟩) l1).trans p1, (hW.cell (p := ⟨g1, k * 3 + 1, none⟩) l1).trans q1, (hW.cell (p := ⟨g1, k * 3 + 2, none⟩) l1).trans r1,
            (hW.cell (p := ⟨g2, k * 3, none⟩) l2).trans p2, (hW.cell (p := ⟨g2, k * 3 + 1, none⟩) l2).trans q2, (hW.cell (p := ⟨g2, k * 3 + 2, none⟩) l2).trans r2⟩)
        have hBx : Below wr.heap.size wr wr.drew := (Below.refl _ wr).drew
        go_upto_region 11 with fail
        go_cut [74] from 50 to 74 (fun v w' => v = .bool false ∧ Below wr.heap.size wr w')
        case first =>
          go_region_held3 (fun W => W.cell? ⟨g1, k * 3, none⟩ = some (.int .i64 cp) ∧ W.cell? ⟨g1, k * 3 + 1, none⟩ = some (.int .i64 cq) ∧ W.cell? ⟨g1, k * 3 + 2, none⟩ = some (.slice Ax t cx) ∧
              W.cell? ⟨g2, k * 3, none⟩ = some (.int .i64 cp) ∧ W.cell? ⟨g2, k * 3 + 1, none⟩ = some (.int .i64 cq) ∧ W.cell? ⟨g2, k * 3 + 2, none⟩ = some (.slice Ay t cy))
            (first | exact HSix.out _ hBx | go_keep)
            (first | (go_at_call 27; (with_reducible refine (HS.out _ hBx).mono ?_); rintro e wa ⟨rfl, hba⟩; replace hBx := below_step hBx hba))
          all_goals go_wp2
          all_goals go_meet
          all_goals exact ⟨rfl, hBx⟩
        case rest =>
          obtain ⟨wx, rfl⟩ : ∃ x : World, x = wc := ⟨_, rfl⟩
          obtain ⟨rfl, hBq⟩ := hcut
          have HB2 := Lib.hid (below_step HB.out hBq)
          clear hBq hBx HSix HS p1 q1 r1 p2 q2 r2 l1 l2
          go_wp2
          go_roundw
          case rel => exact ⟨k + 1, by omega, by go_num, HB2⟩
          case measure => simp [intOf]; omega
      · obtain rfl : k = m := by omega
        have hB2 := below_step HBW.out HB.out
        go_wp2_with (go_at_call 16; (with_reducible refine (awake_any _).mono ?_); rintro e w9 ⟨rfl, hb9⟩; replace hB2 := below_step hB2 hb9)
        go_ret
        exact ⟨rfl, hB2⟩
end Go.Proofs.Ytaehfildhmljeaa
