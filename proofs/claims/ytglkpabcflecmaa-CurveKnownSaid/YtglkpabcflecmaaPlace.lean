/- 'floor', 'within', 'place', 'At', 'Piece' of a valid curve. -/
import Derived.Test.YtglkpabcflecmaaAt
namespace Go.Proofs.Ytglkpabcflecmaa
open Go.RowKit Go.Shelf

/-- A quotient of a number below 0, cut off and rounded down. -/
theorem neg_quo {a b : Int} (hb : 0 < b) (ha : a < 0) :
    ∃ q r : Int, 0 ≤ q ∧ q ≤ -a ∧ 0 ≤ r ∧ a.tdiv b = -q ∧ a.tmod b = -r ∧ (r = 0 → a / b = -q) ∧ (0 < r → a / b = -q - 1) := by
  obtain ⟨n, hn⟩ : ∃ n, n = -a := ⟨_, rfl⟩
  have ea : a = -n := by omega
  have h0 : 0 ≤ n / b := Int.ediv_nonneg (by omega) (by omega)
  have h1 : n / b ≤ n := Int.ediv_le_self _ (by omega)
  have h2 := Int.emod_nonneg n (show b ≠ 0 by omega)
  have h3 := Int.emod_lt_of_pos n hb
  have h4 := Int.mul_ediv_add_emod n b
  have e1 : a.tdiv b = -(n / b) := by rw [ea, Int.neg_tdiv, Int.tdiv_eq_ediv_of_nonneg (by omega)]
  have e2 : a.tmod b = -(n % b) := by rw [ea, Int.neg_tmod, Int.tmod_eq_emod_of_nonneg (by omega)]
  refine ⟨n / b, n % b, h0, by omega, h2, e1, e2, fun h => ?_, fun h => ?_⟩
  · have e : a = b * (-(n / b)) + 0 := by rw [Int.mul_neg]; omega
    rw [e, Int.add_zero, Int.mul_ediv_cancel_left _ (by omega)]
  · have e : a = (b - n % b) + b * (-(n / b) - 1) := by rw [Int.mul_sub, Int.mul_neg]; omega
    rw [e, Int.add_mul_ediv_left _ _ (by omega), Int.ediv_eq_zero_of_lt (by omega) (by omega)]; omega

set_option maxHeartbeats 400000 in
theorem floor_any (a b : Int) (w : World) (h1 : -4611686018427387904 ≤ a) (h2 : a ≤ 4611686018427387904) (h3 : 0 < b) (h4 : b ≤ 4611686018427387904) :
    Calls Try.prog 74 #[.int .i64 a, .int .i64 b] w fun e w' => e = .returned (.int .i64 (a / b)) ∧ w = w' := by
  have hb0 : ¬ b = 0 := by omega
  rcases Int.lt_or_le a 0 with ha | ha
  · obtain ⟨q, r, q0, q1, r0, e1, e2, e3, e4⟩ := neg_quo h3 ha
    have q2 : q ≤ 4611686018427387904 := by omega
    have r1 : r ≤ 4611686018427387904 := by have := Int.tmod_eq_emod (a := a) (b := b); have h := Int.emod_nonneg a hb0; have h' := Int.emod_lt_of_pos a h3; split at this <;> omega
    by_cases hr : r = 0
    · have E := Lib.hid (e3 hr)
      subst hr
      clear e3 e4
      generalize a / b = z at *
      go_enter Try.func74, Try.ntmps74
      go_wp2
      go_ret
      exact ⟨congrArg (fun z => Ending.returned (.int .i64 z)) E.out.symm, rfl⟩
    · have hr2 : 0 < r := by omega
      have E := Lib.hid (e4 hr2)
      clear e3 e4 hr
      generalize a / b = z at *
      go_enter Try.func74, Try.ntmps74
      go_wp2
      go_ret
      exact ⟨congrArg (fun z => Ending.returned (.int .i64 z)) E.out.symm, rfl⟩
  · have hm := Int.emod_nonneg a hb0
    go_enter Try.func74, Try.ntmps74
    go_wp2
    go_ret
    exact ⟨rfl, rfl⟩

/-- An offset brought into a piece. -/
def clampT (s st l : Int) : Int := if s - st < 0 then 0 else if l < s - st then l else s - st
theorem clampT_bd {s st l : Int} (hl : 0 ≤ l) : 0 ≤ clampT s st l ∧ clampT s st l ≤ l := by unfold clampT; split; omega; split <;> omega

set_option maxRecDepth 100000 in
set_option maxHeartbeats 800000 in
theorem within_any (x y p q l st s : Int) (w : World) (hl : 0 ≤ l) (hl' : l ≤ 67108864) (h1 : -9223372036854775808 ≤ s - st) (h2 : s - st ≤ 9223372036854775807) :
    Calls Try.prog 69 #[.agg #[.int .i64 x, .int .i64 y, .int .i64 p, .int .i64 q, .int .i64 l, .int .i64 st], .int .i64 s] w fun e w' => e = .returned (.int .i64 (clampT s st l)) ∧ Below w.heap.size w w' := by
  have c1 : Hid (s - st < 0 → clampT s st l = 0) := fun h => by unfold clampT; rw [if_pos h]
  have c2 : Hid (¬ s - st < 0 → l < s - st → clampT s st l = l) := fun h h' => by unfold clampT; rw [if_neg h, if_pos h']
  have c3 : Hid (¬ s - st < 0 → ¬ l < s - st → clampT s st l = s - st) := fun h h' => by unfold clampT; rw [if_neg h, if_neg h']
  generalize clampT s st l = r at *
  by_cases g1 : s - st < 0
  · have E := Lib.hid (c1.out g1)
    go_enter Try.func69, Try.ntmps69
    go_wp2
    go_ret
    exact ⟨congrArg (fun z => Ending.returned (.int .i64 z)) E.out.symm, (Below.refl _ _).alloc (Nat.le_refl _) _⟩
  · by_cases g2 : l < s - st
    · have E := Lib.hid (c2.out g1 g2)
      go_enter Try.func69, Try.ntmps69
      go_wp2
      go_ret
      exact ⟨congrArg (fun z => Ending.returned (.int .i64 z)) E.out.symm, (Below.refl _ _).alloc (Nat.le_refl _) _⟩
    · have E := Lib.hid (c3.out g1 g2)
      go_enter Try.func69, Try.ntmps69
      go_wp2
      go_ret
      exact ⟨congrArg (fun z => Ending.returned (.int .i64 z)) E.out.symm, (Below.refl _ _).alloc (Nat.le_refl _) _⟩
set_option maxRecDepth 100000 in
set_option maxHeartbeats 1000000 in
theorem place_raw (x y p q l st t pt qt dx dy zx zy : Int) (w : World) (i1 : Hid (IntKind.i64.wrap (p * t) = pt)) (i2 : Hid (IntKind.i64.wrap (q * t) = qt)) (i3 : Hid (IntKind.i64.wrap (x + dx) = zx)) (i4 : Hid (IntKind.i64.wrap (y + dy) = zy))
    (fl1 : Hid (∀ W : World, Calls Try.prog 74 #[.int .i64 pt, .int .i64 l] W fun e w' => e = .returned (.int .i64 dx) ∧ W = w')) (fl2 : Hid (∀ W : World, Calls Try.prog 74 #[.int .i64 qt, .int .i64 l] W fun e w' => e = .returned (.int .i64 dy) ∧ W = w')) :
    Calls Try.prog 70 #[.agg #[.int .i64 x, .int .i64 y, .int .i64 p, .int .i64 q, .int .i64 l, .int .i64 st], .int .i64 t] w fun e w' => e = .returned (sp zx zy) ∧ Below w.heap.size w w' := by
  go_enter Try.func70, Try.ntmps70
  go_wp2
  have hbx := (BoxAt.new w 81 #[.int .i64 x, .int .i64 y, .int .i64 p, .int .i64 q, .int .i64 l, .int .i64 st]).alloc (.cells #[.int .i64 0, .int .i64 0] 43)
  have hbr := BoxAt.new (w.alloc (.cells #[.int .i64 x, .int .i64 y, .int .i64 p, .int .i64 q, .int .i64 l, .int .i64 st] 81)) 43 #[.int .i64 0, .int .i64 0]
  have hB0 : Below w.heap.size w ((w.alloc (.cells #[.int .i64 x, .int .i64 y, .int .i64 p, .int .i64 q, .int .i64 l, .int .i64 st] 81)).alloc (.cells #[.int .i64 0, .int .i64 0] 43)) := ((Below.refl _ _).alloc (Nat.le_refl _) _).alloc (by simp) _
  rw [World.size_alloc] at hbr
  generalize (w.alloc (.cells #[.int .i64 x, .int .i64 y, .int .i64 p, .int .i64 q, .int .i64 l, .int .i64 st] 81)).alloc (.cells #[.int .i64 0, .int .i64 0] 43) = w0 at hbx hbr hB0 ⊢
  have c0 : w0.cell? ⟨w.heap.size, 0, none⟩ = some (.int .i64 x) := hbx.cell 0
  have c1 : w0.cell? ⟨w.heap.size, 1, none⟩ = some (.int .i64 y) := hbx.cell 1
  have c2 : w0.cell? ⟨w.heap.size, 2, none⟩ = some (.int .i64 p) := hbx.cell 2
  have c3 : w0.cell? ⟨w.heap.size, 3, none⟩ = some (.int .i64 q) := hbx.cell 3
  have c4 : w0.cell? ⟨w.heap.size, 4, none⟩ = some (.int .i64 l) := hbx.cell 4
  have r0 : w0.cell? ⟨w.heap.size + 1, 0, none⟩ = some (.int .i64 0) := hbr.cell 0
  have r1 : w0.cell? ⟨w.heap.size + 1, 1, none⟩ = some (.int .i64 0) := hbr.cell 1
  have f0 : w0.frozen? ⟨w.heap.size + 1, 0, none⟩ = false := hbr.frozen 0
  have f1 : w0.frozen? ⟨w.heap.size + 1, 1, none⟩ = false := hbr.frozen 1
  have j1 := i1.out
  have j2 := i2.out
  have j3 := i3.out
  have j4 := i4.out
  go_region_held3 (fun w' => w'.cell? ⟨w.heap.size, 0, none⟩ = some (.int .i64 x) ∧ w'.cell? ⟨w.heap.size, 1, none⟩ = some (.int .i64 y) ∧ w'.cell? ⟨w.heap.size, 2, none⟩ = some (.int .i64 p) ∧ w'.cell? ⟨w.heap.size, 3, none⟩ = some (.int .i64 q) ∧ w'.cell? ⟨w.heap.size, 4, none⟩ = some (.int .i64 l))
    (go_keep)
    (first | (go_at_call 74; (with_reducible refine (fl1.out _).mono ?_); rintro e w1 ⟨rfl, rfl⟩) | (go_at_call 74; (with_reducible refine (fl2.out _).mono ?_); rintro e w1 ⟨rfl, rfl⟩))
  go_wp2
  have hz := ((hbr.set 0 (.int .i64 zx)).set 1 (.int .i64 zy)).drew
  have z0 := hz.cell 0
  have z1 := hz.cell 1
  have e : (((#[Value.int .i64 0, Value.int .i64 0] : Array Value).setIfInBounds 0 (.int .i64 zx)).setIfInBounds 1 (.int .i64 zy)) = #[.int .i64 zx, .int .i64 zy] := rfl
  rw [e] at z0 z1
  exact bodyPost_ret (v := sp zx zy) (by simp [results, Try.results70, go_sem, z0, z1]) rfl ⟨rfl, ((hB0.setCell (p := ⟨w.heap.size + 1, 0, none⟩) (by simp) _).setCell (p := ⟨w.heap.size + 1, 1, none⟩) (by simp) _).drew⟩

/-- The place of an offset within a piece. -/
theorem place_any (x y p q l st t : Int) (w : World) (hx : okc x) (hy : okc y) (hp : okd p) (hq : okd q) (hl : 0 < l) (hl' : l ≤ 67108864) (ht : 0 ≤ t) (ht' : t ≤ l) :
    Calls Try.prog 70 #[.agg #[.int .i64 x, .int .i64 y, .int .i64 p, .int .i64 q, .int .i64 l, .int .i64 st], .int .i64 t] w fun e w' => e = .returned (sp (x + p * t / l) (y + q * t / l)) ∧ Below w.heap.size w w' := by
  obtain ⟨hx1, hx2⟩ := hx
  obtain ⟨hy1, hy2⟩ := hy
  have key : ∀ p : Int, okd p → (-2251799813685248 ≤ p * t ∧ p * t ≤ 2251799813685248) ∧ -2251799813685248 ≤ p * t / l ∧ p * t / l ≤ 2251799813685248 := by
    intro p hp
    have m := mul_bound (a := p) (b := t) (A := 33554432) (B := 67108864) hp.1 hp.2 (by omega) (by omega)
    refine ⟨by omega, Int.le_ediv_of_mul_le hl (by omega), ?_⟩
    have h := Int.ediv_lt_of_lt_mul (a := p * t) (b := 2251799813685249) (c := l) hl (by omega)
    omega
  obtain ⟨⟨m1, m2⟩, m3, m4⟩ := key p hp
  obtain ⟨⟨n1, n2⟩, n3, n4⟩ := key q hq
  exact place_raw x y p q l st t (p * t) (q * t) (p * t / l) (q * t / l) _ _ w (IntWalk.i64_in _ (by omega)) (IntWalk.i64_in _ (by omega)) (IntWalk.i64_in _ (by omega)) (IntWalk.i64_in _ (by omega))
    (fun W => floor_any (p * t) l W (by omega) (by omega) hl (by omega)) (fun W => floor_any (q * t) l W (by omega) (by omega) hl (by omega))
end Go.Proofs.Ytglkpabcflecmaa
