/- The program's Join of any two curves. -/
import Derived.Test.YtglkpabcflecmaaJoinG
namespace Go.Proofs.Ytglkpabcflecmaa
open Go.RowKit Go.Shelf

open Classical in
/-- The error of a join. -/
noncomputable def jErr (a b : Crv) : Int := if chkF a ≠ 0 then chkF a else if chkF b ≠ 0 then chkF b else if ¬ (a.X (a.n - 1) = b.X 0 ∧ a.Y (a.n - 1) = b.Y 0) then 7 else chkF (jn a b)
open Classical in
/-- The curve of a join. -/
noncomputable def jRes (a b : Crv) : Crv := if jErr a b = 0 then jn a b else ⟨0, fun _ => 0, fun _ => 0⟩
/-- A list of points in memory that is new. -/
def New (w w' : World) (R : Option Addr) (c : Crv) : Prop := 0 < c.n → ∃ g, R = some ⟨g, 0, none⟩ ∧ w.heap.size ≤ g ∧ RowAt w' g c.n c.X c.Y
def JoinPost (a b : Crv) (w : World) (e : Ending) (w' : World) : Prop :=
  ∃ R cap, e = .returned (.tuple #[.agg #[.slice R (jRes a b).n cap], .int .i64 (jErr a b)]) ∧ New w w' R (jRes a b) ∧ Below w.heap.size w w'

theorem join_err {a b : Crv} {w w' : World} {e : Ending} {k : Int} (hk : jErr a b = k) (hne : k ≠ 0) (he : e = .returned (.tuple #[.agg #[.slice none 0 0], .int .i64 k])) (hb : Below w.heap.size w w') : JoinPost a b w e w' := by
  have hr : jRes a b = ⟨0, fun _ => 0, fun _ => 0⟩ := by unfold jRes; rw [if_neg (by rw [hk]; exact hne)]
  unfold JoinPost
  rw [hr, hk]
  exact ⟨none, 0, he, fun h => absurd h (Nat.lt_irrefl 0), hb⟩

set_option maxRecDepth 100000 in
set_option maxHeartbeats 4000000 in
theorem join_bad1 (A1 A2 : Option Addr) (c1 c2 : Nat) (a b : Crv) (w : World) (h1 : Spots w A1 a.n a.X a.Y) (hne : chkF a ≠ 0) :
    Calls Try.prog 49 #[.agg #[.slice A1 a.n c1], .agg #[.slice A2 b.n c2]] w fun e w' => e = .returned (.tuple #[.agg #[.slice none 0 0], .int .i64 (chkF a)]) ∧ Below w.heap.size w w' := by
  obtain ⟨W0, hW0, f1, f2, fR, hB⟩ := jn_boxes w (.slice A1 a.n c1) (.slice A2 b.n c2)
  have HC := Lib.hid (check_any A1 c1 a _ (h1.below hB))
  obtain ⟨k, hk⟩ : ∃ k, k = chkF a := ⟨_, rfl⟩
  rw [← hk] at HC hne ⊢
  have hrb : (k == 0) = false := by simp [hne]
  have hrn : (k != 0) = true := by simp [hne]
  have k0 : W0.cell? ⟨w.heap.size, 0, none⟩ = some (.slice A1 a.n c1) := f1.cell 0
  have hW0' := Lib.hid hW0
  have l0 := f1.lt
  clear hk hne hW0 h1
  go_enter Try.func49, Try.ntmps49
  go_upto_region 1 with fail
  rw [← hW0'.out]
  clear hW0'
  go_wp2_with (go_at_call 20; (with_reducible refine HC.out.mono ?_); rintro e w6 ⟨rfl, hb6⟩; have ER := Lib.hid (box_step fR hb6); have q1 : w6.cell? ⟨w.heap.size + 1 + 1, 0, none⟩ = some (.slice none 0 0) := BoxAt.cell ER.out 0; have q2 : w6.frozen? ⟨w.heap.size + 1 + 1, 0, none⟩ = false := BoxAt.frozen ER.out 0)
  have hzz := (BoxAt.set ER.out 0 (.slice none 0 0)).cell 0
  have e5 : ((#[Value.slice none 0 0] : Array Value).setIfInBounds 0 (.slice none 0 0)) = #[.slice none 0 0] := rfl
  rw [e5] at hzz
  exact bodyPost_ret (v := .tuple #[.agg #[.slice none 0 0], .int .i64 k]) (by simp [results, Try.results49, go_sem, hzz]) rfl ⟨rfl, (below_step hB hb6).setCell (p := ⟨w.heap.size + 1 + 1, 0, none⟩) (by show w.heap.size ≤ w.heap.size + 1 + 1; omega) _⟩

set_option maxRecDepth 100000 in
set_option maxHeartbeats 4000000 in
theorem join_bad2 (A1 A2 : Option Addr) (c1 c2 : Nat) (a b : Crv) (w : World) (h1 : Spots w A1 a.n a.X a.Y) (h2 : Spots w A2 b.n b.X b.Y) (hz : chkF a = 0) (hne : chkF b ≠ 0) :
    Calls Try.prog 49 #[.agg #[.slice A1 a.n c1], .agg #[.slice A2 b.n c2]] w fun e w' => e = .returned (.tuple #[.agg #[.slice none 0 0], .int .i64 (chkF b)]) ∧ Below w.heap.size w w' := by
  obtain ⟨W0, hW0, f1, f2, fR, hB⟩ := jn_boxes w (.slice A1 a.n c1) (.slice A2 b.n c2)
  have HC := Lib.hid (check_any A1 c1 a _ (h1.below hB))
  rw [hz] at HC
  have HC2 := Lib.hid (fun W (hW : Spots W A2 b.n b.X b.Y) => check_any A2 c2 b W hW)
  have HS2 := Lib.hid (h2.below hB)
  obtain ⟨k, hk⟩ : ∃ k, k = chkF b := ⟨_, rfl⟩
  rw [← hk] at HC2 hne ⊢
  have hrb : (k == 0) = false := by simp [hne]
  have hrn : (k != 0) = true := by simp [hne]
  have k0 : W0.cell? ⟨w.heap.size, 0, none⟩ = some (.slice A1 a.n c1) := f1.cell 0
  have hW0' := Lib.hid hW0
  have l0 := f1.lt
  clear hk hne hW0 h1 h2 hz
  go_enter Try.func49, Try.ntmps49
  go_upto_region 1 with fail
  rw [← hW0'.out]
  clear hW0'
  go_wp2_with (first
    | (go_at_call 20; (with_reducible refine HC.out.mono ?_); rintro e w1 ⟨rfl, hb1⟩; have F2 := box_step f2 hb1; have FR := box_step fR hb1; have k1 : w1.cell? ⟨w.heap.size + 1, 0, none⟩ = some (.slice A2 b.n c2) := F2.cell 0; have HS3 := Lib.hid (HS2.out.below hb1); replace hB := below_step hB hb1)
    | (go_at_call 20; (with_reducible refine (HC2.out _ HS3.out).mono ?_); rintro e w6 ⟨rfl, hb6⟩; have ER := Lib.hid (box_step FR hb6); have q1 : w6.cell? ⟨w.heap.size + 1 + 1, 0, none⟩ = some (.slice none 0 0) := BoxAt.cell ER.out 0; have q2 : w6.frozen? ⟨w.heap.size + 1 + 1, 0, none⟩ = false := BoxAt.frozen ER.out 0))
  have hzz := (BoxAt.set ER.out 0 (.slice none 0 0)).cell 0
  have e5 : ((#[Value.slice none 0 0] : Array Value).setIfInBounds 0 (.slice none 0 0)) = #[.slice none 0 0] := rfl
  rw [e5] at hzz
  exact bodyPost_ret (v := .tuple #[.agg #[.slice none 0 0], .int .i64 k]) (by simp [results, Try.results49, go_sem, hzz]) rfl ⟨rfl, (below_step hB hb6).setCell (p := ⟨w.heap.size + 1 + 1, 0, none⟩) (by show w.heap.size ≤ w.heap.size + 1 + 1; omega) _⟩

set_option maxRecDepth 100000 in
set_option maxHeartbeats 4000000 in
theorem join_apart (b1 o1 c1 b2 o2 c2 : Nat) (a b : Crv) (ga : Good a) (gb : Good b) (hne : ¬ (a.X (a.n - 1) = b.X 0 ∧ a.Y (a.n - 1) = b.Y 0)) (w : World) (h1 : Pts w b1 o1 a.n a.X a.Y) (h2 : Pts w b2 o2 b.n b.X b.Y) :
    Calls Try.prog 49 #[cv b1 o1 a.n c1, cv b2 o2 b.n c2] w fun e w' => e = .returned (.tuple #[.agg #[.slice none 0 0], .int .i64 7]) ∧ Below w.heap.size w w' := by
  have na := ga.lo
  have na' := ga.hi
  have nb := gb.lo
  have nb' := gb.hi
  obtain ⟨W0, hW0, f1, f2, fR, hB⟩ := jn_boxes w (.slice (some ⟨b1, o1, none⟩) a.n c1) (.slice (some ⟨b2, o2, none⟩) b.n c2)
  have HP1 := Lib.hid (h1.below hB (h1.lt (by omega)))
  have HP2 := Lib.hid (h2.below hB (h2.lt (by omega)))
  have GA := Lib.hid ga
  have GB := Lib.hid gb
  have k0 : W0.cell? ⟨w.heap.size, 0, none⟩ = some (.slice (some ⟨b1, o1, none⟩) a.n c1) := f1.cell 0
  have l0 := f1.lt
  have hW0' := Lib.hid hW0
  have HNE := Lib.hid hne
  clear ga gb hW0 hne
  go_enter Try.func49, Try.ntmps49
  go_upto_region 1 with fail
  rw [← hW0'.out]
  clear hW0'
  go_upto_region 7 with (first
    | (go_at_call 20; (with_reducible refine (check_good b1 o1 c1 a GA.out _ HP1.out).mono ?_); rintro e w1 ⟨rfl, hb1⟩; have F1 := box_step f1 hb1; have F2 := box_step f2 hb1; have FR := box_step fR hb1; have Q1 := Lib.hid (HP1.out.below hb1 (HP1.out.lt (by omega))); have Q2 := Lib.hid (HP2.out.below hb1 (HP2.out.lt (by omega))); replace hB := below_step hB hb1; have k1 : w1.cell? ⟨w.heap.size + 1, 0, none⟩ = some (.slice (some ⟨b2, o2, none⟩) b.n c2) := F2.cell 0)
    | (go_at_call 20; (with_reducible refine (check_good b2 o2 c2 b GB.out _ Q2.out).mono ?_); rintro e w2 ⟨rfl, hb2⟩; have G1 := box_step F1 hb2; have G2 := box_step F2 hb2; have GR := box_step FR hb2; have R1 := Lib.hid (Q1.out.below hb2 (Q1.out.lt (by omega))); have R2 := Lib.hid (Q2.out.below hb2 (Q2.out.lt (by omega))); replace hB := below_step hB hb2))
  have m0 : w2.cell? ⟨w.heap.size, 0, none⟩ = some (.slice (some ⟨b1, o1, none⟩) a.n c1) := G1.cell 0
  have m1 : w2.cell? ⟨w.heap.size + 1, 0, none⟩ = some (.slice (some ⟨b2, o2, none⟩) b.n c2) := G2.cell 0
  obtain ⟨xa, ya⟩ := R1.out (a.n - 1) (by omega)
  obtain ⟨xb, yb⟩ := R2.out 0 (by omega)
  have hne := HNE.out
  clear HNE
  generalize a.X (a.n - 1) = xl at *
  generalize a.Y (a.n - 1) = yl at *
  generalize b.X 0 = xr at *
  generalize b.Y 0 = yr at *
  rw [Nat.zero_mul, Nat.add_zero] at xb yb
  have j2 : (0 : Int) ≤ (a.n : Int) - 1 := by omega
  have j3 : (a.n : Int) - 1 < (a.n : Int) := by omega
  have j4 : IntKind.i64.wrap ((a.n : Int) - 1) = (a.n : Int) - 1 := IntWalk.i64_in _ (by omega)
  have j5 : ((a.n : Int) - 1).toNat = a.n - 1 := by omega
  have j6 : (1 : Int) ≤ (a.n : Int) := by omega
  have j9 : 1 ≤ a.n := by omega
  have j10 : a.n - 1 < a.n := by omega
  have j11 : (0 : Int) < (b.n : Int) := by omega
  have j12 : 0 < b.n := by omega
  have z1 := G1.lt
  have z2 := G2.lt
  have z3 := R1.out.lt (by omega)
  have z4 := R2.out.lt (by omega)
  clear k0 k1 l0 f1 f2 fR F1 F2 FR HP1 HP2 Q1 Q2 hb1 hb2
  go_cut [34] from 22 to 34 (fun v w' => v = .bool true ∧ Below w2.heap.size w2 w')
  case first =>
    by_cases ex : xl = xr
    · subst ex
      have ey : ¬ yl = yr := fun h => hne ⟨rfl, h⟩
      have ey2 : (yl == yr) = false := by simp [ey]
      clear hne
      go_quiet (fail)
      go_wp2
      go_meet
      exact ⟨by simp [*], below_drewN (Below.refl _ _) _⟩
    · have ex2 : (xl == xr) = false := by simp [ex]
      clear hne
      go_quiet (fail)
      go_wp2
      go_meet
      exact ⟨by simp [*], below_drewN (Below.refl _ _) _⟩
  case rest =>
    obtain ⟨wd, rfl⟩ : ∃ x : World, x = wc := ⟨_, rfl⟩
    obtain ⟨rfl, hbd⟩ := hcut
    have DR := Lib.hid (box_step GR hbd)
    have hBd := Lib.hid (below_step hB hbd)
    have q1 : wd.cell? ⟨w.heap.size + 1 + 1, 0, none⟩ = some (.slice none 0 0) := BoxAt.cell DR.out 0
    have q2 : wd.frozen? ⟨w.heap.size + 1 + 1, 0, none⟩ = false := BoxAt.frozen DR.out 0
    go_wp2
    have hzz := (BoxAt.set DR.out 0 (.slice none 0 0)).cell 0
    have e5 : ((#[Value.slice none 0 0] : Array Value).setIfInBounds 0 (.slice none 0 0)) = #[.slice none 0 0] := rfl
    rw [e5] at hzz
    exact bodyPost_ret (v := .tuple #[.agg #[.slice none 0 0], .int .i64 7]) (by simp [results, Try.results49, go_sem, hzz]) rfl ⟨rfl, hBd.out.setCell (p := ⟨w.heap.size + 1 + 1, 0, none⟩) (by show w.heap.size ≤ w.heap.size + 1 + 1; omega) _⟩

/-- **Join of any two curves.** -/
theorem join_any (A1 A2 : Option Addr) (c1 c2 : Nat) (a b : Crv) (w : World) (h1 : Spots w A1 a.n a.X a.Y) (h2 : Spots w A2 b.n b.X b.Y) (hc : b.n ≤ c2) :
    Calls Try.prog 49 #[.agg #[.slice A1 a.n c1], .agg #[.slice A2 b.n c2]] w (JoinPost a b w) := by
  by_cases ha : chkF a = 0
  · by_cases hb : chkF b = 0
    · have ga := good_of ha
      have gb := good_of hb
      obtain ⟨b1, o1, rfl, p1⟩ := h1 (by have := ga.lo; omega)
      obtain ⟨b2, o2, rfl, p2⟩ := h2 (by have := gb.lo; omega)
      by_cases hm : a.X (a.n - 1) = b.X 0 ∧ a.Y (a.n - 1) = b.Y 0
      · have hE : jErr a b = chkF (jn a b) := by unfold jErr; rw [if_neg (by simp [ha]), if_neg (by simp [hb]), if_neg (by simp [hm])]
        refine (join_good b1 o1 c1 b2 o2 c2 a b ga gb hm.1 hm.2 hc w p1 p2).mono ?_
        rintro e w' (⟨hz, g, cap, he, hP, hB, hg⟩ | ⟨hz, he, hB⟩)
        · have hr : jRes a b = jn a b := by unfold jRes; rw [if_pos (hE.trans hz)]
          unfold JoinPost
          rw [hr, hE.trans hz]
          exact ⟨_, cap, he, fun _ => ⟨g, rfl, hg, hP⟩, hB⟩
        · exact join_err hE hz he hB
      · have hE : jErr a b = 7 := by unfold jErr; rw [if_neg (by simp [ha]), if_neg (by simp [hb]), if_pos hm]
        refine (join_apart b1 o1 c1 b2 o2 c2 a b ga gb hm w p1 p2).mono ?_
        rintro e w' ⟨he, hB⟩
        exact join_err hE (by decide) he hB
    · have hE : jErr a b = chkF b := by unfold jErr; rw [if_neg (by simp [ha]), if_pos hb]
      refine (join_bad2 A1 A2 c1 c2 a b w h1 h2 ha hb).mono ?_
      rintro e w' ⟨he, hB⟩
      exact join_err hE hb he hB
  · have hE : jErr a b = chkF a := by unfold jErr; rw [if_pos ha]
    refine (join_bad1 A1 A2 c1 c2 a b w h1 ha).mono ?_
    rintro e w' ⟨he, hB⟩
    exact join_err hE ha he hB
end Go.Proofs.Ytglkpabcflecmaa
