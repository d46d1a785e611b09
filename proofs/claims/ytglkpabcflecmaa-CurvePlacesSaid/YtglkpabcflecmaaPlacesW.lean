/- The walk of the law CurvePlaces. -/
import Derived.Test.YtglkpabcflecmaaRAt
import Derived.Test.YtglkpabcflecmaaKCur
namespace Go.Proofs.Ytglkpabcflecmaa
open Go.RowKit Go.Shelf

set_option maxRecDepth 100000 in
set_option maxHeartbeats 8000000 in
theorem places_long (A : Option Addr) (cap n : Nat) (v1 v2 : Value) (w : World) (h : 20 < n) (x y : Int) (B : Option Addr) (m bc : Nat) (hv1 : v1 = chv x y B m bc) :
    Calls Try.prog 4 #[.agg #[.slice A n cap], v1, v2] w fun e w' => e = .returned (.bool true) ∧ Below w.heap.size w w' := by
  subst hv1
  have hB : Below w.heap.size w ((w.alloc (.cells #[.slice A n cap] 24)).alloc (.cells #[.int .i64 x, .int .i64 y, .slice B m bc] 37)) := ((Below.refl _ w).alloc (Nat.le_refl _) _).alloc (by simp) _
  have hl := long_any A n cap
  rw [decide_eq_true h] at hl
  have HL := Lib.hid hl
  clear hl h
  go_enter Try.func4, Try.ntmps4
  go_wp2_with (first
    | (go_at_call 17; (with_reducible refine (HL.out _).mono ?_); rintro e w1 ⟨rfl, hb1⟩; replace hB := below_step hB hb1)
    | (go_at_call 18; (with_reducible refine (awake_any _).mono ?_); rintro e w2 ⟨rfl, hb2⟩; replace hB := below_step hB hb2))
  go_ret
  exact ⟨rfl, hB⟩

set_option maxRecDepth 100000 in
set_option maxHeartbeats 8000000 in
theorem places_short (A : Option Addr) (cap : Nat) (c : Crv) (x y : Int) (B : Option Addr) (m bc : Nat) (S : Nat → Int) (s : Int) (hs1 : -9223372036854775808 ≤ s) (hs2 : s ≤ 9223372036854775807) (w : World) (h : Spots w A c.n c.X c.Y) (hS : Stps w B m S) (hn : c.n ≤ 20) :
    Calls Try.prog 4 #[.agg #[.slice A c.n cap], chv x y B m bc, .int .i64 s] w fun e w' => e = .returned (.bool true) ∧ Below w.heap.size w w' := by
  have hB : Below w.heap.size w ((w.alloc (.cells #[.slice A c.n cap] 24)).alloc (.cells #[.int .i64 x, .int .i64 y, .slice B m bc] 37)) := ((Below.refl _ w).alloc (Nat.le_refl _) _).alloc (by simp) _
  have hB0 := (BoxAt.new w 24 #[.slice A c.n cap]).alloc (.cells #[.int .i64 x, .int .i64 y, .slice B m bc] 37)
  have hB1 := BoxAt.new (w.alloc (.cells #[.slice A c.n cap] 24)) 37 #[.int .i64 x, .int .i64 y, .slice B m bc]
  rw [World.size_alloc] at hB1
  have hl := long_any A c.n cap
  rw [decide_eq_false (by omega : ¬ 20 < c.n)] at hl
  have HL := Lib.hid hl
  obtain ⟨d, hd⟩ : ∃ d : Crv, d = chain (x.tmod 20001) (y.tmod 20001) m S := ⟨_, rfl⟩
  have HK : Hid (∀ W : World, Stps W B m S → Calls Try.prog 28 #[chv x y B m bc] W fun e w' => ∃ g c', e = .returned (cv g 0 d.n c') ∧ Pts w' g 0 d.n d.X d.Y ∧ Below W.heap.size W w' ∧ W.heap.size ≤ g) := fun W hW => by rw [hd]; exact kcur_any x y B m bc S W hW
  have HS := Lib.hid (h.below hB)
  have HT := Lib.hid (hS.below hB)
  have hd2 : 0 < d.n := by rw [hd]; exact Nat.lt_of_lt_of_le (by decide) (chN_bd m).1
  clear hl h hS hd
  go_enter Try.func4, Try.ntmps4
  go_upto_region 3 with (first
    | (go_at_call 17; (with_reducible refine (HL.out _).mono ?_); rintro e w1 ⟨rfl, hb1⟩; replace HS := Lib.hid (HS.out.below hb1); replace HT := Lib.hid (HT.out.below hb1); replace hB0 := box_step hB0 hb1; replace hB1 := box_step hB1 hb1; replace hB := below_step hB hb1; have k0 := hB0.cell 0; have k1 := hB1.cell 0; have k2 := hB1.cell 1; have k3 := hB1.cell 2))
  have k0 : w1.cell? ⟨w.heap.size, 0, none⟩ = some (.slice A c.n cap) := hB0.cell 0
  have k1 : w1.cell? ⟨w.heap.size + 1, 0, none⟩ = some (.int .i64 x) := hB1.cell 0
  have k2 : w1.cell? ⟨w.heap.size + 1, 1, none⟩ = some (.int .i64 y) := hB1.cell 1
  have k3 : w1.cell? ⟨w.heap.size + 1, 2, none⟩ = some (.slice B m bc) := hB1.cell 2
  have l0 := hB0.lt
  have l1 := hB1.lt
  go_cut [7] from 16 to 19 (fun v w' => ∃ g c' L, v = .slice (some ⟨L, 0, none⟩) 2 2 ∧ BoxAt w' L 24 #[.slice A c.n cap, .slice (some ⟨g, 0, none⟩) d.n c'] ∧ Pts w' g 0 d.n d.X d.Y ∧ Below w1.heap.size w1 w')
  case first =>
    have hBx : Below w1.heap.size w1 w1.drew := (Below.refl _ _).drew
    go_region_held3 (fun w' => w'.cell? ⟨w.heap.size, 0, none⟩ = some (.slice A c.n cap) ∧ w'.cell? ⟨w.heap.size + 1, 0, none⟩ = some (.int .i64 x) ∧ w'.cell? ⟨w.heap.size + 1, 1, none⟩ = some (.int .i64 y) ∧ w'.cell? ⟨w.heap.size + 1, 2, none⟩ = some (.slice B m bc))
      (first | go_keep | (refine ⟨?_, ?_, ?_, ?_⟩ <;> exact (Below.cell hBx (by assumption)).trans (by assumption)))
      (first | (go_at_call 28; (with_reducible refine (HK.out _ (HT.out.below hBx)).mono ?_); rintro e w2 ⟨g, c', rfl, hP, hb2, hg⟩; have HP := Lib.hid hP; clear hP; replace hBx := below_step hBx hb2))
    all_goals go_wp2
    all_goals go_meet
    all_goals exact ⟨g, c', _, rfl, BoxAt.new _ _ _, (HP.out.below ((Below.refl _ _).alloc (Nat.le_refl _) _) (HP.out.lt hd2)), hBx.alloc hBx.size _⟩
  case rest =>
    obtain ⟨wd, rfl⟩ : ∃ z : World, z = wc := ⟨_, rfl⟩
    obtain ⟨g, c', L, rfl, hbox, hP, hbd⟩ := hcut
    have hS1 := HS.out.below hbd
    have hBw := below_step hB hbd
    have hall : Hid (∀ k, k < 2 → ∃ (A' : Option Addr) (cap' : Nat) (e : Crv), (∀ W, Below wd.heap.size wd W → W.cell? ⟨L, k, none⟩ = some (.slice A' e.n cap') ∧ Spots W A' e.n e.X e.Y)) := by
      intro k hk
      have : k = 0 ∨ k = 1 := by omega
      rcases this with rfl | rfl
      · exact ⟨A, cap, c, fun W hW => ⟨(BoxAt.below hbox hW hbox.lt).cell 0, hS1.below hW⟩⟩
      · exact ⟨_, c', d, fun W hW => ⟨(BoxAt.below hbox hW hbox.lt).cell 1, fun _ => ⟨g, 0, rfl, hP.below hW (hP.lt hd2)⟩⟩⟩
    clear hbox hP hS1 HS HT hB0 hB1 HK HL k0 k1 k2 k3 l0 l1 hB
    go_wp2
    go_loopw [8] (fun i wr => ∃ k : Nat, k ≤ 2 ∧ i = .int .i64 k ∧ Below wd.heap.size wd wr) (fun i _ => 10 - (intOf i).toNat)
    case atStart => exact ⟨0, by omega, rfl, Below.refl _ _⟩
    case round =>
      obtain ⟨k, hk, rfl, hBr⟩ := hrel
      by_cases hk2 : k < 2
      · obtain ⟨A', cap', e, hall'⟩ := hall.out k hk2
        have HA := Lib.hid hall'
        clear hall'
        have i0 : (0 : Int) ≤ (k : Int) := Int.natCast_nonneg _
        have i1 : (k : Int) < 2 := by omega
        have e0 : wr.cell? ⟨L, k, none⟩ = some (.slice A' e.n cap') := (HA.out _ hBr).1
        obtain ⟨pi, hpi⟩ : ∃ z, z = pcI e s := ⟨_, rfl⟩
        obtain ⟨pt, hpt⟩ : ∃ z, z = pcT e s := ⟨_, rfl⟩
        obtain ⟨ax, hax⟩ : ∃ z, z = atXF e s := ⟨_, rfl⟩
        obtain ⟨ay, hay⟩ : ∃ z, z = atYF e s := ⟨_, rfl⟩
        have H1 : Hid (∀ W, Spots W A' e.n e.X e.Y → Calls Try.prog 29 #[.agg #[.slice A' e.n cap'], .int .i64 s] W fun r w' => r = .returned (tup pi pt) ∧ Below W.heap.size W w') := fun W hW => by rw [hpi, hpt]; exact piece_any A' cap' e s hs1 hs2 W hW
        have H2 : Hid (∀ W, Spots W A' e.n e.X e.Y → Calls Try.prog 30 #[.agg #[.slice A' e.n cap'], .int .i64 s] W fun r w' => r = .returned (tup pi pt) ∧ Below W.heap.size W w') := fun W hW => by rw [hpi, hpt]; exact rpiece_any A' cap' e s hs1 hs2 W hW
        have H3 : Hid (∀ W, Spots W A' e.n e.X e.Y → Calls Try.prog 31 #[.agg #[.slice A' e.n cap'], .int .i64 s] W fun r w' => r = .returned (sp ax ay) ∧ Below W.heap.size W w') := fun W hW => by rw [hax, hay]; exact at_any A' cap' e s hs1 hs2 W hW
        have H4 : Hid (∀ W, Spots W A' e.n e.X e.Y → Calls Try.prog 32 #[.agg #[.slice A' e.n cap'], .int .i64 s] W fun r w' => r = .returned (sp ax ay) ∧ Below W.heap.size W w') := fun W hW => by rw [hax, hay]; exact rat_any A' cap' e s hs1 hs2 W hW
        clear hpi hpt hax hay
        go_upto_region 9 with (first
          | (go_at_call 29; (with_reducible refine (H1.out _ (HA.out _ hBr).2).mono ?_); rintro r w3 ⟨rfl, hb3⟩; replace hBr := below_step hBr hb3; have e1 := (HA.out _ hBr).1)
          | (go_at_call 30; (with_reducible refine (H2.out _ (HA.out _ hBr).2).mono ?_); rintro r w4 ⟨rfl, hb4⟩; replace hBr := below_step hBr hb4; have e2 := (HA.out _ hBr).1))
        go_cut [64] from 20 to 64 (fun v w' => v = .bool false ∧ Below wd.heap.size wd w')
        case first =>
          have hBx := hBr.drew
          go_region_held3 (fun w' => w'.cell? ⟨L, k, none⟩ = some (.slice A' e.n cap'))
            (first | go_keep | exact (HA.out _ hBx).1)
            (first
              | (go_at_call 31; (with_reducible refine (H3.out _ (HA.out _ hBx).2).mono ?_); rintro r w5 ⟨rfl, hb5⟩; replace hBx := below_step hBx hb5)
              | (go_at_call 32; (with_reducible refine (H4.out _ (HA.out _ hBx).2).mono ?_); rintro r w6 ⟨rfl, hb6⟩; replace hBx := below_step hBx hb6))
          all_goals go_wp2
          all_goals go_meet
          all_goals exact ⟨by simp, hBx⟩
        case rest =>
          obtain ⟨we, rfl⟩ : ∃ z : World, z = wc := ⟨_, rfl⟩
          obtain ⟨rfl, hbe⟩ := hcut
          go_wp2
          go_roundw
          case rel => exact ⟨k + 1, by omega, by go_num, hbe⟩
          case measure => simp [intOf]; omega
      · obtain rfl : k = 2 := by omega
        have i1 : ¬ ((2 : Nat) : Int) < 2 := by omega
        go_wp2_with (go_at_call 18; (with_reducible refine (awake_any _).mono ?_); rintro e w2 ⟨rfl, hb2⟩; replace hBr := below_step hBr hb2)
        go_ret
        exact ⟨rfl, below_step hBw hBr⟩
end Go.Proofs.Ytglkpabcflecmaa
