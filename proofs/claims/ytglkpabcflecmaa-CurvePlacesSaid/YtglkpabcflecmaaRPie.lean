/- The reference's Piece. -/
import Derived.Test.YtglkpabcflecmaaRFlo
import Derived.BigQuiet
namespace Go.Proofs.Ytglkpabcflecmaa
open Go.RowKit Go.Shelf

theorem clampL_bd (c : Crv) (s : Int) : 0 ≤ clampL c s ∧ clampL c s ≤ c.st (c.n - 1) := by
  have := Crv.st_nonneg (c := c) (c.n - 1)
  unfold clampL; omega

set_option maxRecDepth 100000 in
set_option maxHeartbeats 4000000 in
theorem rpiece_bad (A : Option Addr) (cap : Nat) (c : Crv) (s : Int) (w : World) (h : Spots w A c.n c.X c.Y) (hne : chkF c ≠ 0) :
    Calls Try.prog 30 #[.agg #[.slice A c.n cap], .int .i64 s] w fun e w' => e = .returned (tup 0 0) ∧ Below w.heap.size w w' := by
  have hB : Below w.heap.size w (w.alloc (.cells #[.slice A c.n cap] 24)) := (Below.refl _ w).alloc (Nat.le_refl _) _
  have h' := h.below hB
  have HC := Lib.hid (rpieces_bad A cap c _ h' hne)
  clear hne
  go_enter Try.func30, Try.ntmps30
  go_wp2_with (go_at_call 26; (with_reducible refine HC.out.mono ?_); rintro e w1 ⟨rfl, hb1⟩; replace hB := below_step hB hb1)
  exact bodyPost_ret (v := tup 0 0) (by simp [results, Try.results30, go_sem]) rfl ⟨rfl, hB⟩

set_option maxRecDepth 100000 in
set_option maxHeartbeats 4000000 in
theorem rpiece_good (b off cap : Nat) (c : Crv) (hg : Good c) (s : Int) (j : Nat) (hj : InPiece c s j) (hs1 : -9223372036854775808 ≤ s) (hs2 : s ≤ 9223372036854775807) (w : World) (hp : Pts w b off c.n c.X c.Y) :
    Calls Try.prog 30 #[cv b off c.n cap, .int .i64 s] w fun e w' => e = .returned (tup j (clampT s (c.st j) (c.len j))) ∧ Below w.heap.size w w' := by
  obtain ⟨hn, hn', hok, _⟩ := id hg
  have hb : b < w.heap.size := hp.lt (by omega)
  have hpos : ∀ i, i + 1 < c.n → 0 < c.len i := fun i hi => by have := (hg.len hi).2.1; omega
  have hup : ∀ i, i + 1 < c.n → c.len i ≤ 1048576 := fun i hi => (hg.len hi).2.2
  have hT := Lib.hid (ref_at hpos hj)
  have hjl := hj.lt
  obtain ⟨q0, q1⟩ := clampL_bd c s
  have hLt := Crv.st_lt hok (i := c.n - 1) (by omega)
  obtain ⟨Lt, hLd⟩ : ∃ z, z = c.st (c.n - 1) := ⟨_, rfl⟩
  have HLd := Lib.hid hLd
  have hcl : Hid (clampL c s = max 0 (min s Lt)) := by show _ = _; rw [hLd]; rfl
  rw [← hLd] at q1 hLt
  have hp2 := hp.below ((Below.refl _ w).alloc (Nat.le_refl _) (.cells #[.slice (some ⟨b, off, none⟩) c.n cap] 24)) hb
  obtain ⟨N, hN⟩ : ∃ z, z = c.n - 1 := ⟨_, rfl⟩
  have hNp : 0 < N := by omega
  have hN15 : N ≤ 15 := by omega
  have HP : Hid (Calls Try.prog 26 #[cv b off c.n cap] (w.alloc (.cells #[.slice (some ⟨b, off, none⟩) c.n cap] 24)) fun e w' => ∃ g cap1, e = .returned (.slice (some ⟨g, 0, none⟩) N cap1) ∧ Ints w' g N c.len ∧ Below (w.alloc (.cells #[.slice (some ⟨b, off, none⟩) c.n cap] 24)).heap.size (w.alloc (.cells #[.slice (some ⟨b, off, none⟩) c.n cap] 24)) w') := by
    show Calls _ _ _ _ _; rw [hN]; exact rpieces_good b off cap c hg _ hp2
  have hNb : ((N : Int) == 0) = false := by simp; omega
  have hNn : ¬ (N : Int) = 0 := by omega
  have HRL : Hid (∀ W : World, Pts W b off c.n c.X c.Y → Calls Try.prog 23 #[cv b off c.n cap] W fun e w' => e = .returned (.int .i64 Lt) ∧ Below W.heap.size W w') := fun W hW => by rw [HLd.out]; exact rlength_good b off cap c hg W hW
  have HN := Lib.hid hN
  clear hLd hN
  go_enter Try.func30, Try.ntmps30
  go_upto_region 4 with (first
    | (go_at_call 26; (with_reducible refine HP.out.mono ?_); rintro e w1 ⟨g, cap1, rfl, hI, hb1⟩; obtain ⟨hbw, hz1, cC, hz2⟩ := one_facts hb1; clear hb1; have hp3 := hp.below hbw hb; have HI := Lib.hid hI; clear hI))
  go_cut [1] from 13 to 17 (fun v w' => v = .int .i64 (clampL c s) ∧ Below w1.heap.size w1 w')
  case first =>
    go_wp2_with (go_at_call 23; (with_reducible refine (HRL.out _ hp3).mono ?_); rintro e w2 ⟨rfl, hb2⟩)
    all_goals go_meet
    all_goals exact ⟨congrArg (Value.int .i64) (by rw [hcl.out]; omega), hb2⟩
  case rest =>
    obtain ⟨wd, rfl⟩ : ∃ z : World, z = wc := ⟨_, rfl⟩
    obtain ⟨rfl, hb2⟩ := hcut
    replace HI := Lib.hid (HI.out.below hb2)
    replace hbw := below_step hbw hb2
    clear hp3 cC hz1 hz2 hb2
    go_wp2
    go_loopw [1, 7] (fun v i wr => ∃ k : Nat, k ≤ j ∧ v = .int .i64 (clampL c s - c.st k) ∧ i = .int .i64 k ∧ Below w.heap.size w wr ∧ Hid (Ints wr g N c.len)) (fun _ i _ => c.n - (intOf i).toNat)
    case atStart => exact ⟨0, Nat.zero_le _, by simp [Crv.st], rfl, hbw, HI⟩
    case round =>
      obtain ⟨k, hk, rfl, rfl, hB, hI⟩ := hrel
      clear HI hbw
      have hNn1 : N = c.n - 1 := HN.out
      have hkN : k < N := by omega
      have i0 : (0 : Int) ≤ (k : Int) := Int.natCast_nonneg _
      have i1 : (k : Int) < (N : Int) := by omega
      have l0 : wr.cell? ⟨g, k, none⟩ = some (.int .i64 (c.len k)) := hI.out k hkN
      have lp := hpos k (by omega)
      have lu := hup k (by omega)
      have ss : c.st (k + 1) = c.st k + c.len k := rfl
      have s0 := Crv.st_nonneg (c := c) k
      have s1 := Crv.st_mono (c := c) (show k ≤ c.n - 1 by omega)
      have hst := ref_stays hj (i := k)
      have hgo := ref_goes hpos hj (i := k)
      rw [← HLd.out] at s1
      have hkn : k < c.n - 2 ↔ k < N - 1 := by omega
      have hjN : j < N := by omega
      clear hNn1
      by_cases hl : k < N - 1
      · have i2 : (k : Int) < (N : Int) - 1 := by omega
        by_cases hlt : clampL c s - c.st k < c.len k
        · obtain rfl : j = k := hst (by omega) hk hlt
          have hT' := hT.out
          clear hst hgo ss hT
          obtain ⟨z, hz⟩ : ∃ z, z = clampL c s - c.st j := ⟨_, rfl⟩
          rw [← hz] at hT' hlt ⊢
          have HT := Lib.hid hT'
          clear hT' hz
          obtain ⟨L, hL⟩ : ∃ z, z = c.len j := ⟨_, rfl⟩
          rw [← hL] at l0 lp lu hlt
          clear hL
          go_wp2
          exact bodyPost_ret (v := tup j z) (by simp [results, Try.results30, go_sem]) rfl ⟨by rw [HT.out], hB⟩
        · have hgo' := hgo (by omega) hk (by omega)
          have ss' : clampL c s - c.st (k + 1) = clampL c s - c.st k - c.len k := by omega
          have z1 : clampL c s - c.st k ≤ Lt := by omega
          clear hst hgo ss
          obtain ⟨z, hz⟩ : ∃ z, z = clampL c s - c.st k := ⟨_, rfl⟩
          rw [← hz] at ss' hlt z1 ⊢
          clear hz
          have SS := Lib.hid ss'
          clear ss'
          obtain ⟨L, hL⟩ : ∃ z, z = c.len k := ⟨_, rfl⟩
          rw [← hL] at l0 lp lu hlt SS
          clear hL
          have hlt' : decide (z < L) = false := decide_eq_false hlt
          go_wp2
          go_roundw
          case rel => exact ⟨k + 1, hgo', by rw [SS.out], by go_num, hB, hI⟩
          case measure => simp [intOf]; omega
      · have i2 : ¬ (k : Int) < (N : Int) - 1 := by omega
        obtain rfl : j = k := by omega
        have ejN : N = j + 1 := by omega
        have hT' := hT.out
        clear hst hgo ss hT
        obtain ⟨z, hz⟩ : ∃ z, z = clampL c s - c.st j := ⟨_, rfl⟩
        rw [← hz] at hT' ⊢
        have HT := Lib.hid hT'
        clear hT' hz
        have eN : ((N : Int) - 1) = (j : Int) := by omega
        go_wp2
        exact bodyPost_ret (v := tup j z) (by simp [results, Try.results30, go_sem]) rfl ⟨by rw [HT.out], hB⟩

theorem rpiece_any (A : Option Addr) (cap : Nat) (c : Crv) (s : Int) (hs1 : -9223372036854775808 ≤ s) (hs2 : s ≤ 9223372036854775807) (w : World) (h : Spots w A c.n c.X c.Y) :
    Calls Try.prog 30 #[.agg #[.slice A c.n cap], .int .i64 s] w fun e w' => e = .returned (tup (pcI c s) (pcT c s)) ∧ Below w.heap.size w w' := by
  unfold pcI pcT
  by_cases hz : chkF c = 0
  · rw [if_pos hz, if_pos hz]
    have hg := good_of hz
    obtain ⟨b, off, rfl, hp⟩ := h (by have := hg.lo; omega)
    exact rpiece_good b off cap c hg s _ (pieceJ_in hg.lo s) hs1 hs2 w hp
  · rw [if_neg hz, if_neg hz]; exact rpiece_bad A cap c s w h hz
end Go.Proofs.Ytglkpabcflecmaa
