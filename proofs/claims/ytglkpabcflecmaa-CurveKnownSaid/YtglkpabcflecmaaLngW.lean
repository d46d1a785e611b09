/- The walk of the law CurveLengths. -/
import Derived.Test.YtglkpabcflecmaaRFlo
import Derived.Test.YtglkpabcflecmaaKCur
namespace Go.Proofs.Ytglkpabcflecmaa
open Go.RowKit Go.Shelf

theorem in_start {c : Crv} (hg : Good c) {i : Nat} (hi : i < c.n - 1) : InPiece c (c.st i) i :=
  ⟨hi, fun _ => Int.le_refl _, fun h => by have h1 := (hg.len (i := i) (by omega)).2.1; show c.st i < c.st i + c.len i; omega⟩
theorem in_end {c : Crv} (hg : Good c) : InPiece c (c.st (c.n - 1)) (c.n - 2) :=
  ⟨by have := hg.lo; omega, fun _ => Crv.st_mono (by omega), fun h => by omega⟩
theorem at_start {c : Crv} (hg : Good c) {i : Nat} (hi : i < c.n - 1) : clampT (c.st i) (c.st i) (c.len i) = 0 ∧ atX c (c.st i) i = c.X i ∧ atY c (c.st i) i = c.Y i := by
  have h1 := (hg.len (i := i) (by omega)).2.1
  have e : clampT (c.st i) (c.st i) (c.len i) = 0 := by unfold clampT; split; omega; split <;> omega
  refine ⟨e, ?_, ?_⟩
  · unfold atX; rw [e]; simp
  · unfold atY; rw [e]; simp
theorem at_end {c : Crv} (hg : Good c) : atX c (c.st (c.n - 1)) (c.n - 2) = c.X (c.n - 1) ∧ atY c (c.st (c.n - 1)) (c.n - 2) = c.Y (c.n - 1) := by
  have h0 := hg.lo
  have h1 := (hg.len (i := c.n - 2) (by omega)).2.1
  have e1 : c.n - 2 + 1 = c.n - 1 := by omega
  have e2 : c.st (c.n - 2 + 1) = c.st (c.n - 2) + c.len (c.n - 2) := rfl
  rw [e1] at e2
  have e : clampT (c.st (c.n - 1)) (c.st (c.n - 2)) (c.len (c.n - 2)) = c.len (c.n - 2) := by unfold clampT; split; omega; split <;> omega
  have e3 : c.wx (c.n - 2) = c.X (c.n - 1) - c.X (c.n - 2) := by show c.X (c.n - 2 + 1) - _ = _; rw [e1]
  have e4 : c.wy (c.n - 2) = c.Y (c.n - 1) - c.Y (c.n - 2) := by show c.Y (c.n - 2 + 1) - _ = _; rw [e1]
  refine ⟨?_, ?_⟩
  · unfold atX; rw [e, Int.mul_ediv_cancel _ (by omega), e3]; omega
  · unfold atY; rw [e, Int.mul_ediv_cancel _ (by omega), e4]; omega

/-- What the kit's Curve of these numbers is. -/
abbrev KitMakes (x y : Int) (B : Option Addr) (m bc : Nat) (S : Nat → Int) (d : Crv) : Prop :=
  ∀ W : World, Stps W B m S → Calls Try.prog 28 #[chv x y B m bc] W fun e w' => ∃ g c', e = .returned (cv g 0 d.n c') ∧ Pts w' g 0 d.n d.X d.Y ∧ Below W.heap.size W w' ∧ W.heap.size ≤ g
theorem kit_makes (x y : Int) (B : Option Addr) (m bc : Nat) (S : Nat → Int) : ∃ d, Mid d ∧ KitMakes x y B m bc S d := by
  obtain ⟨_, _, hx1, hx2⟩ := tmod_cases x 20001 (by decide)
  obtain ⟨_, _, hy1, hy2⟩ := tmod_cases y 20001 (by decide)
  exact ⟨_, chain_mid m S (by omega) (by omega), fun W hW => kcur_any x y B m bc S W hW⟩

theorem pcs_named (b off cap : Nat) (c : Crv) (hg : Good c) (N : Nat) (hN : c.n - 1 = N) (w : World) (hp : Pts w b off c.n c.X c.Y) :
    Calls Try.prog 25 #[cv b off c.n cap] w fun e w' => ∃ g cap', e = .returned (.slice (some ⟨g, 0, none⟩) N cap') ∧ Ints w' g N c.len ∧ Below w.heap.size w w' := by
  subst hN; exact pieces_good b off cap c hg w hp

set_option maxRecDepth 100000 in
set_option maxHeartbeats 8000000 in
theorem lengths_walk (x y : Int) (B : Option Addr) (m bc : Nat) (S : Nat → Int) (w : World) (hS : Stps w B m S) :
    Calls Try.prog 10 #[chv x y B m bc] w fun e w' => e = .returned (.bool true) ∧ Below w.heap.size w w' := by
  have hB : Below w.heap.size w (w.alloc (.cells #[.int .i64 x, .int .i64 y, .slice B m bc] 37)) := (Below.refl _ w).alloc (Nat.le_refl _) _
  obtain ⟨d, hm, hk⟩ := kit_makes x y B m bc S
  have hg := hm.good
  have HG := Lib.hid hg
  have HK := Lib.hid hk
  have HS := Lib.hid (hS.below hB)
  have hd2 : 0 < d.n := by have := hg.lo; omega
  obtain ⟨N, hN⟩ : ∃ N, d.n - 1 = N := ⟨_, rfl⟩
  have hN1 : 0 < N := by have := hg.lo; omega
  have hN5 : N ≤ 5 := by have := hm.few; omega
  have hdN : d.n = N + 1 := by omega
  have HN := Lib.hid hN
  have HdN := Lib.hid hdN
  have eN : (d.n : Int) - 1 = (N : Int) := by omega
  have edn : (0 : Int) ≤ (d.n : Int) := by omega
  have edn2 : (d.n : Int) ≤ 6 := by omega
  clear hk hS hg hm hN hdN
  go_enter Try.func10, Try.ntmps10
  go_upto_region 2 with (go_at_call 28; (with_reducible refine (HK.out _ HS.out).mono ?_); rintro e w1 ⟨g, c', rfl, hP, hb1, hgl⟩; have HP := Lib.hid hP; clear hP; replace hB := below_step hB hb1)
  have hlg := HP.out.lt hd2
  have hbox := BoxAt.new w1 24 #[.slice (some ⟨g, 0, none⟩) d.n c']
  have hb2 : Below w1.heap.size w1 (w1.alloc (.cells #[.slice (some ⟨g, 0, none⟩) d.n c'] 24)) := (Below.refl _ w1).alloc (Nat.le_refl _) _
  have HP2 := Lib.hid (HP.out.below hb2 hlg)
  replace hB := below_step hB hb2
  generalize w1.alloc (.cells #[.slice (some ⟨g, 0, none⟩) d.n c'] 24) = w2 at *
  have k0 : w2.cell? ⟨w1.heap.size, 0, none⟩ = some (.slice (some ⟨g, 0, none⟩) d.n c') := hbox.cell 0
  have hl2 := hbox.lt
  clear HP hlg
  go_upto_region 5 with (first
    | (go_at_call 25; (with_reducible refine (pcs_named g 0 c' d HG.out N HN.out _ HP2.out).mono ?_); rintro e w3 ⟨g3, cap3, rfl, hI3, hb3⟩; have HI3 := Lib.hid hI3; clear hI3; have hbx3 := box_step hbox hb3; have k3 : w3.cell? ⟨w1.heap.size, 0, none⟩ = some (.slice (some ⟨g, 0, none⟩) d.n c') := hbx3.cell 0; have HP3 := Lib.hid (HP2.out.below hb3 (HP2.out.lt hd2)); replace hB := below_step hB hb3)
    | (go_at_call 20; (with_reducible refine (check_good g 0 c' d HG.out _ HP3.out).mono ?_); rintro e w4 ⟨rfl, hb4⟩; have hbx4 := box_step hbx3 hb4; have k4 : w4.cell? ⟨w1.heap.size, 0, none⟩ = some (.slice (some ⟨g, 0, none⟩) d.n c') := hbx4.cell 0; have HP4 := Lib.hid (HP3.out.below hb4 (HP3.out.lt hd2)); have HI4 := Lib.hid (HI3.out.below hb4); replace hB := below_step hB hb4))
  have hl4 := hbx4.lt
  have hbox4 : Hid (∀ W, Below w4.heap.size w4 W → W.cell? ⟨w1.heap.size, 0, none⟩ = some (.slice (some ⟨g, 0, none⟩) d.n c')) := fun W hW => (BoxAt.below hbx4 hW hbx4.lt).cell 0
  have hpt : Hid (∀ W, Below w4.heap.size w4 W → Pts W g 0 d.n d.X d.Y) := fun W hW => HP4.out.below hW (HP4.out.lt hd2)
  have hln : Hid (∀ W, Below w4.heap.size w4 W → Ints W g3 N d.len) := fun W hW => HI4.out.below hW
  have hsum : Hid (∀ k, k < N → 1000 ≤ d.len k ∧ d.len k ≤ 1048576 ∧ 0 ≤ d.st k ∧ d.st k ≤ 100000000000000) := fun k hk => by
    have h1 := HG.out.len (i := k) (by have := HdN.out; omega)
    have h2 := Crv.st_nonneg (c := d) k
    have h3 := Crv.st_lt HG.out.ok (i := k) (by have := HdN.out; omega)
    exact ⟨h1.2.1, h1.2.2, h2, by omega⟩
  clear hbox hbx3 hbx4 HP2 HP3 HP4 HI3 HI4 k0 k3 k4 hl2 HK HS hl4 hb1 hb2 hb3 hb4 hgl
  go_wp2
  go_loopw [5, 6] (fun u i wr => ∃ k : Nat, k ≤ N ∧ u = .int .i64 (d.st k) ∧ i = .int .i64 k ∧ Below w4.heap.size w4 wr) (fun _ i _ => 10 - (intOf i).toNat)
  case atStart => exact ⟨0, Nat.zero_le _, rfl, rfl, Below.refl _ _⟩
  case round =>
    obtain ⟨k, hk, rfl, rfl, hBr⟩ := hrel
    by_cases hkN : k < N
    · have hin := Lib.hid (in_start HG.out (i := k) (by have := HN.out; omega))
      obtain ⟨a1, a2, a3⟩ := at_start HG.out (i := k) (by have := HN.out; omega)
      obtain ⟨b1, b2, b3, b4⟩ := hsum.out k hkN
      obtain ⟨s, hs⟩ : ∃ s, s = d.st k := ⟨_, rfl⟩
      obtain ⟨t, ht⟩ : ∃ t, t = d.len k := ⟨_, rfl⟩
      obtain ⟨X, hX⟩ : ∃ t, t = d.X k := ⟨_, rfl⟩
      obtain ⟨Y, hY⟩ : ∃ t, t = d.Y k := ⟨_, rfl⟩
      have hst : Hid (d.st (k + 1) = s + t) := by show d.st k + d.len k = _; rw [hs, ht]
      have HPc : Hid (∀ W, Below w4.heap.size w4 W → Calls Try.prog 29 #[cv g 0 d.n c', .int .i64 s] W fun e w' => e = .returned (tup k 0) ∧ Below W.heap.size W w') := fun W hW => by
        have := piece_good g 0 c' d HG.out (d.st k) k hin.out (by omega) (by omega) W (hpt.out W hW)
        rw [a1] at this
        rw [hs]; exact this
      have HAt : Hid (∀ W, Below w4.heap.size w4 W → Calls Try.prog 31 #[cv g 0 d.n c', .int .i64 s] W fun e w' => e = .returned (sp X Y) ∧ Below W.heap.size W w') := fun W hW => by
        have := at_good g 0 c' d HG.out (d.st k) k hin.out (by omega) (by omega) W (hpt.out W hW)
        rw [a2, a3] at this
        rw [hs, hX, hY]; exact this
      have hXY : Hid (∀ W, Below w4.heap.size w4 W → W.cell? ⟨g, k * 2, none⟩ = some (.int .i64 X) ∧ W.cell? ⟨g, k * 2 + 1, none⟩ = some (.int .i64 Y)) := fun W hW => by
        have := hpt.out W hW k (by have := HdN.out; omega)
        rw [hX, hY]; simpa using this
      have hT : Hid (∀ W, Below w4.heap.size w4 W → W.cell? ⟨g3, k, none⟩ = some (.int .i64 t)) := fun W hW => by rw [ht]; exact hln.out W hW k hkN
      rw [← hs] at b3 b4
      rw [← ht] at b1 b2
      rw [← hs]
      have i0 : (0 : Int) ≤ (k : Int) := Int.natCast_nonneg _
      have i1 : (k : Int) < (N : Int) := by omega
      have i2 : (k : Int) < (d.n : Int) := by have := HdN.out; omega
      clear hs ht hX hY a1 a2 a3 hin
      have c0 := hbox4.out _ hBr
      go_upto_region 10 with (go_at_call 29; (with_reducible refine (HPc.out _ hBr).mono ?_); rintro r w5 ⟨rfl, hb5⟩; replace hBr := below_step hBr hb5)
      go_cut [54] from 25 to 60 (fun v w' => v = .bool false ∧ Below w4.heap.size w4 w')
      case first =>
        have hBx := hBr.drew
        have c1 := hbox4.out _ hBx
        obtain ⟨c2, c3⟩ := hXY.out _ hBx
        go_region_held3 (fun w' => w'.cell? ⟨w1.heap.size, 0, none⟩ = some (.slice (some ⟨g, 0, none⟩) d.n c') ∧ w'.cell? ⟨g, k * 2, none⟩ = some (.int .i64 X) ∧ w'.cell? ⟨g, k * 2 + 1, none⟩ = some (.int .i64 Y))
          (first | exact ⟨c1, c2, c3⟩ | go_keep | exact ⟨hbox4.out _ hBx, (hXY.out _ hBx).1, (hXY.out _ hBx).2⟩)
          (first
            | (go_at_call 31; (with_reducible refine (HAt.out _ hBx).mono ?_); rintro r w6 ⟨rfl, hb6⟩; replace hBx := below_step hBx hb6))
        all_goals go_wp2
        all_goals go_meet
        all_goals exact ⟨by simp, hBx⟩
      case rest =>
        obtain ⟨we, rfl⟩ : ∃ z : World, z = wc := ⟨_, rfl⟩
        obtain ⟨rfl, hbe⟩ := hcut
        have ce := hT.out _ hbe
        go_wp2
        go_roundw
        case rel => exact ⟨k + 1, by omega, congrArg (Value.int .i64) hst.out.symm, by go_num, hbe⟩
        case measure => simp [intOf]; omega
    · obtain rfl : k = N := by omega
      have i1 : ¬ ((k : Nat) : Int) < (k : Int) := by omega
      have hend := Lib.hid (in_end HG.out)
      obtain ⟨a1, a2⟩ := at_end HG.out
      have hk2 : d.n - 1 = k := HN.out
      rw [hk2] at a1 a2
      obtain ⟨_, _, b3, b4⟩ := hsum.out (k - 1) (by omega)
      have b5 : 0 ≤ d.st k := Crv.st_nonneg (c := d) k
      have b6 := Crv.st_lt HG.out.ok (i := k) (by have := HdN.out; omega)
      obtain ⟨s, hs⟩ : ∃ s, s = d.st k := ⟨_, rfl⟩
      obtain ⟨X, hX⟩ : ∃ t, t = d.X k := ⟨_, rfl⟩
      obtain ⟨Y, hY⟩ : ∃ t, t = d.Y k := ⟨_, rfl⟩
      have HLn : Hid (∀ W, Below w4.heap.size w4 W → Calls Try.prog 22 #[cv g 0 d.n c'] W fun e w' => e = .returned (.int .i64 s) ∧ Below W.heap.size W w') := fun W hW => by
        have := length_good g 0 c' d HG.out W (hpt.out W hW)
        rw [hk2] at this
        rw [hs]; exact this
      have HAt : Hid (∀ W, Below w4.heap.size w4 W → Calls Try.prog 31 #[cv g 0 d.n c', .int .i64 s] W fun e w' => e = .returned (sp X Y) ∧ Below W.heap.size W w') := fun W hW => by
        have := at_good g 0 c' d HG.out (d.st (d.n - 1)) (d.n - 2) hend.out (by rw [hk2]; omega) (by rw [hk2]; omega) W (hpt.out W hW)
        rw [hk2] at this
        rw [a1, a2] at this
        rw [hs, hX, hY]; exact this
      have hXY : Hid (∀ W, Below w4.heap.size w4 W → W.cell? ⟨g, k * 2, none⟩ = some (.int .i64 X) ∧ W.cell? ⟨g, k * 2 + 1, none⟩ = some (.int .i64 Y)) := fun W hW => by
        have := hpt.out W hW k (by have := HdN.out; omega)
        rw [hX, hY]; simpa using this
      rw [← hs]
      have i0 : (0 : Int) ≤ (k : Int) := Int.natCast_nonneg _
      have i2 : (k : Int) < (d.n : Int) := by have := HdN.out; omega
      have hBx := hBr.drew
      have c1 := hbox4.out _ hBx
      obtain ⟨c2, c3⟩ := hXY.out _ hBx
      clear hs hX hY a1 a2 hend b3 b4 b5 b6 hk2
      go_upto_region 13 with fail
      go_region_held3 (fun w' => w'.cell? ⟨w1.heap.size, 0, none⟩ = some (.slice (some ⟨g, 0, none⟩) d.n c') ∧ w'.cell? ⟨g, k * 2, none⟩ = some (.int .i64 X) ∧ w'.cell? ⟨g, k * 2 + 1, none⟩ = some (.int .i64 Y))
        (first | exact ⟨c1, c2, c3⟩ | go_keep | exact ⟨hbox4.out _ hBx, (hXY.out _ hBx).1, (hXY.out _ hBx).2⟩)
        (first
          | (go_at_call 22; (with_reducible refine (HLn.out _ hBx).mono ?_); rintro r w6 ⟨rfl, hb6⟩; replace hBx := below_step hBx hb6)
          | (go_at_call 31; (with_reducible refine (HAt.out _ hBx).mono ?_); rintro r w7 ⟨rfl, hb7⟩; replace hBx := below_step hBx hb7)
          | (go_at_call 18; (with_reducible refine (awake_any _).mono ?_); rintro r w8 ⟨rfl, hb8⟩; replace hBx := below_step hBx hb8))
      all_goals go_wp2
      all_goals go_ret
      all_goals exact ⟨by simp, below_step hB hBx⟩
end Go.Proofs.Ytglkpabcflecmaa
