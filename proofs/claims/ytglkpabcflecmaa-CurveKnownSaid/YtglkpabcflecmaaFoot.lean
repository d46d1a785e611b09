/- The foot of a spot on a piece, its distance, and what a half width may be. -/
import Derived.Test.YtglkpabcflecmaaAwk2
namespace Go.Proofs.Ytglkpabcflecmaa
open Go.RowKit Go.Shelf

abbrev pc6 (x y p q l s : Int) : Value := .agg #[.int .i64 x, .int .i64 y, .int .i64 p, .int .i64 q, .int .i64 l, .int .i64 s]

set_option maxHeartbeats 2000000 in
theorem foot_any (x y p q l s a b : Int) (w : World) (hx : okc x) (hy : okc y) (ha : okc a) (hb : okc b) (hp : okd p) (hq : okd q) :
    Calls Try.prog 72 #[pc6 x y p q l s, sp a b] w fun e w' => e = .returned (.int .i64 (p * (a - x) + q * (b - y))) ∧ Below w.heap.size w w' := by
  have M := fun W => minus_any a b x y W ha hb hx hy
  have D := fun W => dot_any p q (a - x) (b - y) W hp hq (okd_sub ha hx) (okd_sub hb hy)
  generalize p * (a - x) + q * (b - y) = f at *
  generalize a - x = u at *
  generalize b - y = v at *
  have HM := Lib.hid M
  have HD := Lib.hid D
  have hB0 : Below w.heap.size w ((w.alloc (.cells #[.int .i64 x, .int .i64 y, .int .i64 p, .int .i64 q, .int .i64 l, .int .i64 s] 81)).alloc (.cells #[.int .i64 a, .int .i64 b] 43)) := ((Below.refl _ _).alloc (Nat.le_refl _) _).alloc (by simp) _
  have hbx := (BoxAt.new w 81 #[.int .i64 x, .int .i64 y, .int .i64 p, .int .i64 q, .int .i64 l, .int .i64 s]).alloc (.cells #[.int .i64 a, .int .i64 b] 43)
  have hbr := BoxAt.new (w.alloc (.cells #[.int .i64 x, .int .i64 y, .int .i64 p, .int .i64 q, .int .i64 l, .int .i64 s] 81)) 43 #[.int .i64 a, .int .i64 b]
  rw [World.size_alloc] at hbr
  clear M D ha hb hx hy hp hq
  go_enter Try.func72, Try.ntmps72
  go_wp2
  generalize (w.alloc (.cells #[.int .i64 x, .int .i64 y, .int .i64 p, .int .i64 q, .int .i64 l, .int .i64 s] 81)).alloc (.cells #[.int .i64 a, .int .i64 b] 43) = w0 at *
  have c0 : w0.cell? ⟨w.heap.size, 0, none⟩ = some (.int .i64 x) := hbx.cell 0
  have c1 : w0.cell? ⟨w.heap.size, 1, none⟩ = some (.int .i64 y) := hbx.cell 1
  have c2 : w0.cell? ⟨w.heap.size, 2, none⟩ = some (.int .i64 p) := hbx.cell 2
  have c3 : w0.cell? ⟨w.heap.size, 3, none⟩ = some (.int .i64 q) := hbx.cell 3
  have d0 : w0.cell? ⟨w.heap.size + 1, 0, none⟩ = some (.int .i64 a) := hbr.cell 0
  have d1 : w0.cell? ⟨w.heap.size + 1, 1, none⟩ = some (.int .i64 b) := hbr.cell 1
  have l0 := hbx.lt
  have l1 := hbr.lt
  have hB := (Below.refl w0.heap.size w0).drew
  go_region_held3 (fun w' => w'.cell? ⟨w.heap.size, 0, none⟩ = some (.int .i64 x) ∧ w'.cell? ⟨w.heap.size, 1, none⟩ = some (.int .i64 y) ∧ w'.cell? ⟨w.heap.size, 2, none⟩ = some (.int .i64 p) ∧ w'.cell? ⟨w.heap.size, 3, none⟩ = some (.int .i64 q) ∧ w'.cell? ⟨w.heap.size + 1, 0, none⟩ = some (.int .i64 a) ∧ w'.cell? ⟨w.heap.size + 1, 1, none⟩ = some (.int .i64 b))
    (first | go_keep | (refine ⟨?_, ?_, ?_, ?_, ?_, ?_⟩ <;> exact (Below.cell hB (by assumption)).trans (by assumption)))
    (first
      | (go_at_call 78; (with_reducible refine (HM.out _).mono ?_); rintro e w1 ⟨rfl, hb1⟩; replace hB := below_step hB hb1)
      | (go_at_call 62; (with_reducible refine (HD.out _).mono ?_); rintro e w2 ⟨rfl, hb2⟩; replace hB := below_step hB hb2))
  go_wp2
  go_ret
  exact ⟨rfl, below_step hB0 hB⟩

set_option maxHeartbeats 2000000 in
theorem distance_any (x y p q l s a b : Int) (w : World) (hx : okc x) (hy : okc y) (ha : okc a) (hb : okc b) (hp : okd p) (hq : okd q) :
    Calls Try.prog 73 #[pc6 x y p q l s, sp a b] w fun e w' => e = .returned (.int .i64 (max (p * (b - y) - q * (a - x)) (-(p * (b - y) - q * (a - x))))) ∧ Below w.heap.size w w' := by
  have M := fun W => minus_any a b x y W ha hb hx hy
  have D := fun W => cross_any p q (a - x) (b - y) W hp hq (okd_sub ha hx) (okd_sub hb hy)
  obtain ⟨m1, m2⟩ := okd_mul hp (okd_sub hb hy)
  obtain ⟨m3, m4⟩ := okd_mul hq (okd_sub ha hx)
  have f1 : -2251799813685248 ≤ p * (b - y) - q * (a - x) := by omega
  have f2 : p * (b - y) - q * (a - x) ≤ 2251799813685248 := by omega
  generalize p * (b - y) - q * (a - x) = f at *
  clear m1 m2 m3 m4
  generalize a - x = u at *
  generalize b - y = v at *
  have HM := Lib.hid M
  have HD := Lib.hid D
  have hB0 : Below w.heap.size w ((w.alloc (.cells #[.int .i64 x, .int .i64 y, .int .i64 p, .int .i64 q, .int .i64 l, .int .i64 s] 81)).alloc (.cells #[.int .i64 a, .int .i64 b] 43)) := ((Below.refl _ _).alloc (Nat.le_refl _) _).alloc (by simp) _
  have hbx := (BoxAt.new w 81 #[.int .i64 x, .int .i64 y, .int .i64 p, .int .i64 q, .int .i64 l, .int .i64 s]).alloc (.cells #[.int .i64 a, .int .i64 b] 43)
  have hbr := BoxAt.new (w.alloc (.cells #[.int .i64 x, .int .i64 y, .int .i64 p, .int .i64 q, .int .i64 l, .int .i64 s] 81)) 43 #[.int .i64 a, .int .i64 b]
  rw [World.size_alloc] at hbr
  clear M D ha hb hx hy hp hq
  go_enter Try.func73, Try.ntmps73
  go_wp2
  generalize (w.alloc (.cells #[.int .i64 x, .int .i64 y, .int .i64 p, .int .i64 q, .int .i64 l, .int .i64 s] 81)).alloc (.cells #[.int .i64 a, .int .i64 b] 43) = w0 at *
  have c0 : w0.cell? ⟨w.heap.size, 0, none⟩ = some (.int .i64 x) := hbx.cell 0
  have c1 : w0.cell? ⟨w.heap.size, 1, none⟩ = some (.int .i64 y) := hbx.cell 1
  have c2 : w0.cell? ⟨w.heap.size, 2, none⟩ = some (.int .i64 p) := hbx.cell 2
  have c3 : w0.cell? ⟨w.heap.size, 3, none⟩ = some (.int .i64 q) := hbx.cell 3
  have d0 : w0.cell? ⟨w.heap.size + 1, 0, none⟩ = some (.int .i64 a) := hbr.cell 0
  have d1 : w0.cell? ⟨w.heap.size + 1, 1, none⟩ = some (.int .i64 b) := hbr.cell 1
  have l0 := hbx.lt
  have l1 := hbr.lt
  have hB := (Below.refl w0.heap.size w0).drew
  go_region_held3 (fun w' => w'.cell? ⟨w.heap.size, 0, none⟩ = some (.int .i64 x) ∧ w'.cell? ⟨w.heap.size, 1, none⟩ = some (.int .i64 y) ∧ w'.cell? ⟨w.heap.size, 2, none⟩ = some (.int .i64 p) ∧ w'.cell? ⟨w.heap.size, 3, none⟩ = some (.int .i64 q) ∧ w'.cell? ⟨w.heap.size + 1, 0, none⟩ = some (.int .i64 a) ∧ w'.cell? ⟨w.heap.size + 1, 1, none⟩ = some (.int .i64 b))
    (first | go_keep | (refine ⟨?_, ?_, ?_, ?_, ?_, ?_⟩ <;> exact (Below.cell hB (by assumption)).trans (by assumption)))
    (first
      | (go_at_call 78; (with_reducible refine (HM.out _).mono ?_); rintro e w1 ⟨rfl, hb1⟩; replace hB := below_step hB hb1)
      | (go_at_call 77; (with_reducible refine (HD.out _).mono ?_); rintro e w2 ⟨rfl, hb2⟩; replace hB := below_step hB hb2))
  have hBf := below_step hB0 hB
  go_upto_region 2 with fail
  go_cut [4] from 13 to 16 (fun v w' => v = .int .i64 (max f (-f)) ∧ Below w.heap.size w w')
  case first =>
    go_wp2
    all_goals go_meet
    all_goals exact ⟨congrArg (Value.int .i64) (by omega), hBf⟩
  case rest =>
    obtain ⟨wd, rfl⟩ : ∃ z : World, z = wc := ⟨_, rfl⟩
    obtain ⟨rfl, hbe⟩ := hcut
    go_wp2
    go_ret
    exact ⟨rfl, hbe⟩

set_option maxHeartbeats 2000000 in
theorem validHalf_any (h : Int) (w : World) : Calls Try.prog 76 #[.int .i64 h] w fun e w' => e = .returned (.bool (decide (0 ≤ h) && decide (h ≤ 4000))) ∧ Below w.heap.size w w' := by
  by_cases h0 : 0 ≤ h
  · by_cases h1 : h ≤ 4000
    · have e : (decide (0 ≤ h) && decide (h ≤ 4000)) = true := by simp [h0, h1]
      rw [e]; clear e
      go_enter Try.func76, Try.ntmps76
      go_wp2
      go_ret
      exact ⟨by first | rfl | (simp [h0, h1]), Below.refl _ _⟩
    · have e : (decide (0 ≤ h) && decide (h ≤ 4000)) = false := by simp [h1]
      rw [e]
      have e2 := Lib.hid e
      clear e
      go_enter Try.func76, Try.ntmps76
      go_wp2
      go_ret
      exact ⟨by first | rfl | (rw [e2.out]; rfl) | (simp [h0, h1]), Below.refl _ _⟩
  · have e : (decide (0 ≤ h) && decide (h ≤ 4000)) = false := by simp [h0]
    rw [e]
    have e2 := Lib.hid e
    clear e
    go_enter Try.func76, Try.ntmps76
    go_wp2
    go_ret
    exact ⟨by first | rfl | (rw [e2.out]; rfl) | (simp [h0]), Below.refl _ _⟩
end Go.Proofs.Ytglkpabcflecmaa
