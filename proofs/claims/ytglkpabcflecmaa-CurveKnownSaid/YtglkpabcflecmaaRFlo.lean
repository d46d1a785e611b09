/- The reference's floor and Piece; the program's Piece; both for any curve. -/
import Derived.Test.YtglkpabcflecmaaPMath
namespace Go.Proofs.Ytglkpabcflecmaa
open Go.RowKit Go.Shelf

set_option maxHeartbeats 400000 in
theorem rfloor_any (a b : Int) (w : World) (h1 : -4611686018427387904 ≤ a) (h2 : a ≤ 4611686018427387904) (h3 : 0 < b) (h4 : b ≤ 4611686018427387904) :
    Calls Try.prog 71 #[.int .i64 a, .int .i64 b] w fun e w' => e = .returned (.int .i64 (a / b)) ∧ w = w' := by
  have hb0 : ¬ b = 0 := by omega
  rcases Int.lt_or_le a 0 with ha | ha
  · obtain ⟨q, r, q0, q1, r0, e1, e2, e3, e4⟩ := neg_quo h3 ha
    have q2 : q ≤ 4611686018427387904 := by omega
    have r1 : r ≤ 4611686018427387904 := by have := Int.tmod_eq_emod (a := a) (b := b); have h := Int.emod_nonneg a hb0; have h' := Int.emod_lt_of_pos a h3; split at this <;> omega
    by_cases hr : r = 0
    · have E := Lib.hid (e3 hr)
      subst hr
      clear e3 e4
      generalize a / b = z at *
      go_enter Try.func71, Try.ntmps71
      go_wp2
      go_ret
      exact ⟨congrArg (fun z => Ending.returned (.int .i64 z)) E.out.symm, rfl⟩
    · have hr2 : 0 < r := by omega
      have E := Lib.hid (e4 hr2)
      clear e3 e4 hr
      generalize a / b = z at *
      go_enter Try.func71, Try.ntmps71
      go_wp2
      go_ret
      exact ⟨congrArg (fun z => Ending.returned (.int .i64 z)) E.out.symm, rfl⟩
  · have hm := Int.emod_nonneg a hb0
    go_enter Try.func71, Try.ntmps71
    go_wp2
    go_ret
    exact ⟨rfl, rfl⟩

/-- The program's Piece. -/
abbrev tup (i : Nat) (t : Int) : Value := .tuple #[.int .i64 (i : Int), .int .i64 t]
set_option maxRecDepth 100000 in
set_option maxHeartbeats 2000000 in
theorem piece_bad (A : Option Addr) (cap : Nat) (c : Crv) (s : Int) (w : World) (h : Spots w A c.n c.X c.Y) (hne : chkF c ≠ 0) :
    Calls Try.prog 29 #[.agg #[.slice A c.n cap], .int .i64 s] w fun e w' => e = .returned (tup 0 0) ∧ Below w.heap.size w w' := by
  have hB : Below w.heap.size w (w.alloc (.cells #[.slice A c.n cap] 24)) := (Below.refl _ w).alloc (Nat.le_refl _) _
  have h' := h.below hB
  obtain ⟨r, hr⟩ : ∃ r, r = chkF c := ⟨_, rfl⟩
  have HC := Lib.hid (check_any A cap c _ h')
  rw [← hr] at HC hne
  have hrb : (r == 0) = false := by simp [hne]
  have hrn : (r != 0) = true := by simp [hne]
  clear hr hne
  go_enter Try.func29, Try.ntmps29
  go_wp2_with (go_at_call 20; (with_reducible refine HC.out.mono ?_); rintro e w1 ⟨rfl, hb1⟩; replace hB := below_step hB hb1)
  exact bodyPost_ret (v := tup 0 0) (by simp [results, Try.results29, go_sem]) rfl ⟨rfl, hB⟩

set_option maxRecDepth 100000 in
set_option maxHeartbeats 2000000 in
theorem piece_good (b off cap : Nat) (c : Crv) (hg : Good c) (s : Int) (j : Nat) (hj : InPiece c s j) (hs1 : -9223372036854775808 ≤ s) (hs2 : s ≤ 9223372036854775807) (w : World) (hp : Pts w b off c.n c.X c.Y) :
    Calls Try.prog 29 #[cv b off c.n cap, .int .i64 s] w fun e w' => e = .returned (tup j (clampT s (c.st j) (c.len j))) ∧ Below w.heap.size w w' := by
  obtain ⟨hn, hn', hok, _⟩ := id hg
  have hb : b < w.heap.size := hp.lt (by omega)
  have hjl : j + 1 < c.n := by have := hj.lt; omega
  have l1 := (hg.len hjl).2.1
  have l2 := (hg.len hjl).2.2
  have st0 := Crv.st_nonneg (c := c) j
  have st1 := Crv.st_lt hok (i := j) (by omega)
  have sd1 : -9223372036854775808 ≤ s - c.st j := by
    rcases Nat.eq_zero_or_pos j with h | h
    · subst h; simp [Crv.st]; exact hs1
    · have := hj.ge h; omega
  have wc := fun W : World => within_any (c.X j) (c.Y j) (c.wx j) (c.wy j) (c.len j) (c.st j) s W (by omega) (by omega) sd1 (by omega)
  generalize clampT s (c.st j) (c.len j) = t at *
  have WC := Lib.hid wc
  have hp2 := hp.below ((Below.refl _ w).alloc (Nat.le_refl _) (.cells #[.slice (some ⟨b, off, none⟩) c.n cap] 24)) hb
  clear wc sd1 st0 st1 l1 l2
  go_enter Try.func29, Try.ntmps29
  go_wp2_with (first
    | (go_at_call 20; (with_reducible refine (check_good b off cap c hg _ hp2).mono ?_); rintro e w1 ⟨rfl, hb1⟩; obtain ⟨hbw, hz1, cC, hz2⟩ := one_facts hb1; clear hb1; have hp3 := hp.below hbw hb)
    | (go_at_call 68; (with_reducible refine (pieceAt_good b off cap c hg s j hj _ hp3).mono ?_); rintro e w2 ⟨rfl, hb2⟩; have hb3 := hbw.trans (hb2.mono (Nat.le_of_lt hz2)))
    | (go_at_call 69; (with_reducible refine (WC.out _).mono ?_); rintro e w4 ⟨rfl, hb4⟩))
  exact bodyPost_ret (v := tup j t) (by simp [results, Try.results29, go_sem]) rfl ⟨rfl, below_step2 hb3 hb4⟩

theorem piece_any (A : Option Addr) (cap : Nat) (c : Crv) (s : Int) (hs1 : -9223372036854775808 ≤ s) (hs2 : s ≤ 9223372036854775807) (w : World) (h : Spots w A c.n c.X c.Y) :
    Calls Try.prog 29 #[.agg #[.slice A c.n cap], .int .i64 s] w fun e w' => e = .returned (tup (pcI c s) (pcT c s)) ∧ Below w.heap.size w w' := by
  unfold pcI pcT
  by_cases hz : chkF c = 0
  · rw [if_pos hz, if_pos hz]
    have hg := good_of hz
    obtain ⟨b, off, rfl, hp⟩ := h (by have := hg.lo; omega)
    exact piece_good b off cap c hg s _ (pieceJ_in hg.lo s) hs1 hs2 w hp
  · rw [if_neg hz, if_neg hz]; exact piece_bad A cap c s w h hz

set_option maxRecDepth 100000 in
set_option maxHeartbeats 2000000 in
theorem at_bad (A : Option Addr) (cap : Nat) (c : Crv) (s : Int) (w : World) (h : Spots w A c.n c.X c.Y) (hne : chkF c ≠ 0) :
    Calls Try.prog 31 #[.agg #[.slice A c.n cap], .int .i64 s] w fun e w' => e = .returned (sp 0 0) ∧ Below w.heap.size w w' := by
  have hB : Below w.heap.size w ((w.alloc (.cells #[.slice A c.n cap] 24)).alloc (.cells #[.int .i64 0, .int .i64 0] 43)) := ((Below.refl _ w).alloc (Nat.le_refl _) _).alloc (by simp) _
  have hR := BoxAt.new (w.alloc (.cells #[.slice A c.n cap] 24)) 43 #[.int .i64 0, .int .i64 0]
  rw [World.size_alloc] at hR
  have h' := h.below hB
  obtain ⟨r, hr⟩ : ∃ r, r = chkF c := ⟨_, rfl⟩
  have HC := Lib.hid (check_any A cap c _ h')
  rw [← hr] at HC hne
  have hrb : (r == 0) = false := by simp [hne]
  have hrn : (r != 0) = true := by simp [hne]
  clear hr hne
  go_enter Try.func31, Try.ntmps31
  go_wp2_with (go_at_call 20; (with_reducible refine HC.out.mono ?_); rintro e w1 ⟨rfl, hb1⟩; replace hB := below_step hB hb1; have hR1 := Lib.hid (box_step hR hb1); have r0 : w1.cell? ⟨w.heap.size + 1, 0, none⟩ = some (.int .i64 0) := BoxAt.cell hR1.out 0; have r1 : w1.cell? ⟨w.heap.size + 1, 1, none⟩ = some (.int .i64 0) := BoxAt.cell hR1.out 1; have f0 : w1.frozen? ⟨w.heap.size + 1, 0, none⟩ = false := BoxAt.frozen hR1.out 0; have f1 : w1.frozen? ⟨w.heap.size + 1, 1, none⟩ = false := BoxAt.frozen hR1.out 1)
  have hz := (BoxAt.set (BoxAt.set hR1.out 0 (.int .i64 0)) 1 (.int .i64 0))
  have z0 := hz.cell 0
  have z1 := hz.cell 1
  have e : (((#[Value.int .i64 0, Value.int .i64 0] : Array Value).setIfInBounds 0 (.int .i64 0)).setIfInBounds 1 (.int .i64 0)) = #[.int .i64 0, .int .i64 0] := rfl
  rw [e] at z0 z1
  exact bodyPost_ret (v := sp 0 0) (by simp [results, Try.results31, go_sem, z0, z1]) rfl ⟨rfl, (hB.setCell (p := ⟨w.heap.size + 1, 0, none⟩) (by simp) _).setCell (p := ⟨w.heap.size + 1, 1, none⟩) (by simp) _⟩
theorem at_any (A : Option Addr) (cap : Nat) (c : Crv) (s : Int) (hs1 : -9223372036854775808 ≤ s) (hs2 : s ≤ 9223372036854775807) (w : World) (h : Spots w A c.n c.X c.Y) :
    Calls Try.prog 31 #[.agg #[.slice A c.n cap], .int .i64 s] w fun e w' => e = .returned (sp (atXF c s) (atYF c s)) ∧ Below w.heap.size w w' := by
  unfold atXF atYF
  by_cases hz : chkF c = 0
  · rw [if_pos hz, if_pos hz]
    have hg := good_of hz
    obtain ⟨b, off, rfl, hp⟩ := h (by have := hg.lo; omega)
    exact at_good b off cap c hg s _ (pieceJ_in hg.lo s) hs1 hs2 w hp
  · rw [if_neg hz, if_neg hz]; exact at_bad A cap c s w h hz
end Go.Proofs.Ytglkpabcflecmaa
