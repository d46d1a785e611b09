/- The walk of the law CurveCorridors. -/
import Derived.Test.YtglkpabcflecmaaCoF
import Derived.Test.YtglkpabcflecmaaSCrs
import Derived.Test.YtglkpabcflecmaaPtsL
import Derived.StillTailTactics
namespace Go.Proofs.Ytglkpabcflecmaa
open Go.RowKit Go.Shelf

theorem sp_alloc1 {W : World} {A : Option Addr} {n : Nat} {X Y : Nat → Int} {o : Obj} (h : Spots W A n X Y) : Spots (W.alloc o) A n X Y := h.below ((Below.refl _ W).alloc (Nat.le_refl _) o)
theorem sp_drew1 {W : World} {A : Option Addr} {n : Nat} {X Y : Nat → Int} (h : Spots W A n X Y) : Spots W.drew A n X Y := h
theorem sp_set1 {W : World} {A : Option Addr} {n h : Nat} {X Y : Nat → Int} {v : Value} (hs : Spots W A n X Y) (hb : BoxAt W h 24 #[.slice none 0 0]) : Spots (W.setCell ⟨h, 0, none⟩ v) A n X Y := fun hn => by
  obtain ⟨b, off, e, hp⟩ := hs hn
  refine ⟨b, off, e, pts_set1 hp ?_⟩
  rintro rfl
  have h0 := (hp 0 hn).1
  rw [BoxAt.cell hb] at h0
  cases off <;> simp at h0
theorem crsF_len (c d : Crv) (ha hb : Int) : (crsF c d ha hb).length ≤ 1000000 := by
  unfold crsF
  split
  · rename_i h
    have h1 := outerL_len (corAt c ha) (corAt d hb) (d.n - 1) (c.n - 1)
    have h2 := (good_of h.1).hi
    have h3 := (good_of h.2.1).hi
    have h4 := Nat.mul_le_mul (show c.n - 1 ≤ 15 by omega) (show d.n - 1 ≤ 15 by omega)
    unfold crossL
    omega
  · simp
/-- The kit's Curve of these numbers, wherever it lies. -/
abbrev KitSpots (x y : Int) (B : Option Addr) (m bc : Nat) (S : Nat → Int) (d : Crv) : Prop :=
  ∀ W : World, Stps W B m S → Calls Try.prog 28 #[chv x y B m bc] W fun e w' => ∃ A c', e = .returned (.agg #[.slice A d.n c']) ∧ Spots w' A d.n d.X d.Y ∧ Below W.heap.size W w'
theorem kit_spots (x y : Int) (B : Option Addr) (m bc : Nat) (S : Nat → Int) : ∃ d, Mid d ∧ KitSpots x y B m bc S d := by
  obtain ⟨_, _, hx1, hx2⟩ := tmod_cases x 20001 (by decide)
  obtain ⟨_, _, hy1, hy2⟩ := tmod_cases y 20001 (by decide)
  refine ⟨chain (x.tmod 20001) (y.tmod 20001) m S, chain_mid m S (by omega) (by omega), fun W hW => (kcur_any x y B m bc S W hW).mono ?_⟩
  rintro e w' ⟨g, c', rfl, hp, hb, _⟩
  exact ⟨some ⟨g, 0, none⟩, c', rfl, fun _ => ⟨g, 0, rfl, hp⟩, hb⟩

set_option maxRecDepth 100000 in
set_option maxHeartbeats 8000000 in
theorem corr_long1 (A1 A2 : Option Addr) (c1 c2 : Nat) (a b : Crv) (x1 y1 : Int) (B1 : Option Addr) (m1 bc1 : Nat) (x2 y2 : Int) (B2 : Option Addr) (m2 bc2 : Nat) (ha hb : Int) (w : World) (h : 20 < a.n) :
    Calls Try.prog 7 #[.agg #[.slice A1 a.n c1], .agg #[.slice A2 b.n c2], chv x1 y1 B1 m1 bc1, chv x2 y2 B2 m2 bc2, .int .i64 ha, .int .i64 hb] w fun e w' => e = .returned (.bool true) ∧ Below w.heap.size w w' := by
  have hB : Below w.heap.size w ((((w.alloc (.cells #[.slice A1 a.n c1] 24)).alloc (.cells #[.slice A2 b.n c2] 24)).alloc (.cells #[.int .i64 x1, .int .i64 y1, .slice B1 m1 bc1] 37)).alloc (.cells #[.int .i64 x2, .int .i64 y2, .slice B2 m2 bc2] 37)) := ((((Below.refl _ w).alloc (Nat.le_refl _) _).alloc (by simp) _).alloc (by simp; omega) _).alloc (by simp; omega) _
  have f0 := (((BoxAt.new w 24 #[.slice A1 a.n c1]).alloc (.cells #[.slice A2 b.n c2] 24)).alloc (.cells #[.int .i64 x1, .int .i64 y1, .slice B1 m1 bc1] 37)).alloc (.cells #[.int .i64 x2, .int .i64 y2, .slice B2 m2 bc2] 37)
  have f1 := ((BoxAt.new (w.alloc (.cells #[.slice A1 a.n c1] 24)) 24 #[.slice A2 b.n c2]).alloc (.cells #[.int .i64 x1, .int .i64 y1, .slice B1 m1 bc1] 37)).alloc (.cells #[.int .i64 x2, .int .i64 y2, .slice B2 m2 bc2] 37)
  have f2 := (BoxAt.new ((w.alloc (.cells #[.slice A1 a.n c1] 24)).alloc (.cells #[.slice A2 b.n c2] 24)) 37 #[.int .i64 x1, .int .i64 y1, .slice B1 m1 bc1]).alloc (.cells #[.int .i64 x2, .int .i64 y2, .slice B2 m2 bc2] 37)
  have f3 := BoxAt.new (((w.alloc (.cells #[.slice A1 a.n c1] 24)).alloc (.cells #[.slice A2 b.n c2] 24)).alloc (.cells #[.int .i64 x1, .int .i64 y1, .slice B1 m1 bc1] 37)) 37 #[.int .i64 x2, .int .i64 y2, .slice B2 m2 bc2]
  rw [World.size_alloc] at f1
  rw [World.size_alloc, World.size_alloc] at f2
  rw [World.size_alloc, World.size_alloc, World.size_alloc] at f3
  have hl := long_any A1 a.n c1
  rw [decide_eq_true h] at hl
  have HL := Lib.hid hl
  clear hl h f0 f1 f2 f3
  go_enter Try.func7, Try.ntmps7
  go_wp2_with (first
    | (go_at_call 17; (with_reducible refine (HL.out _).mono ?_); rintro e w1 ⟨rfl, hb1⟩; replace hB := below_step hB hb1)
    | (go_at_call 18; (with_reducible refine (awake_any _).mono ?_); rintro e w2 ⟨rfl, hb2⟩; replace hB := below_step hB hb2))
  go_ret
  exact ⟨rfl, hB⟩

set_option maxRecDepth 100000 in
set_option maxHeartbeats 8000000 in
theorem corr_long2 (A1 A2 : Option Addr) (c1 c2 : Nat) (a b : Crv) (x1 y1 : Int) (B1 : Option Addr) (m1 bc1 : Nat) (x2 y2 : Int) (B2 : Option Addr) (m2 bc2 : Nat) (ha hb : Int) (w : World) (h1 : ¬ 20 < a.n) (h : 20 < b.n) :
    Calls Try.prog 7 #[.agg #[.slice A1 a.n c1], .agg #[.slice A2 b.n c2], chv x1 y1 B1 m1 bc1, chv x2 y2 B2 m2 bc2, .int .i64 ha, .int .i64 hb] w fun e w' => e = .returned (.bool true) ∧ Below w.heap.size w w' := by
  have hB : Below w.heap.size w ((((w.alloc (.cells #[.slice A1 a.n c1] 24)).alloc (.cells #[.slice A2 b.n c2] 24)).alloc (.cells #[.int .i64 x1, .int .i64 y1, .slice B1 m1 bc1] 37)).alloc (.cells #[.int .i64 x2, .int .i64 y2, .slice B2 m2 bc2] 37)) := ((((Below.refl _ w).alloc (Nat.le_refl _) _).alloc (by simp) _).alloc (by simp; omega) _).alloc (by simp; omega) _
  have f0 := (((BoxAt.new w 24 #[.slice A1 a.n c1]).alloc (.cells #[.slice A2 b.n c2] 24)).alloc (.cells #[.int .i64 x1, .int .i64 y1, .slice B1 m1 bc1] 37)).alloc (.cells #[.int .i64 x2, .int .i64 y2, .slice B2 m2 bc2] 37)
  have f1 := ((BoxAt.new (w.alloc (.cells #[.slice A1 a.n c1] 24)) 24 #[.slice A2 b.n c2]).alloc (.cells #[.int .i64 x1, .int .i64 y1, .slice B1 m1 bc1] 37)).alloc (.cells #[.int .i64 x2, .int .i64 y2, .slice B2 m2 bc2] 37)
  have f2 := (BoxAt.new ((w.alloc (.cells #[.slice A1 a.n c1] 24)).alloc (.cells #[.slice A2 b.n c2] 24)) 37 #[.int .i64 x1, .int .i64 y1, .slice B1 m1 bc1]).alloc (.cells #[.int .i64 x2, .int .i64 y2, .slice B2 m2 bc2] 37)
  have f3 := BoxAt.new (((w.alloc (.cells #[.slice A1 a.n c1] 24)).alloc (.cells #[.slice A2 b.n c2] 24)).alloc (.cells #[.int .i64 x1, .int .i64 y1, .slice B1 m1 bc1] 37)) 37 #[.int .i64 x2, .int .i64 y2, .slice B2 m2 bc2]
  rw [World.size_alloc] at f1
  rw [World.size_alloc, World.size_alloc] at f2
  rw [World.size_alloc, World.size_alloc, World.size_alloc] at f3
  have hl := long_any A1 a.n c1
  rw [decide_eq_false h1] at hl
  have HL := Lib.hid hl
  have hl2 := long_any A2 b.n c2
  rw [decide_eq_true h] at hl2
  have HL2 := Lib.hid hl2
  have HF := Lib.hid f1
  clear hl hl2 h h1 f0 f1 f2 f3
  go_enter Try.func7, Try.ntmps7
  go_wp2_with (first
    | (go_at_call 17; (with_reducible refine (HL.out _).mono ?_); rintro e w1 ⟨rfl, hb1⟩; replace hB := below_step hB hb1; have k1 : w1.cell? ⟨w.heap.size + 1, 0, none⟩ = some (.slice A2 b.n c2) := (box_step HF.out hb1).cell 0)
    | (go_at_call 17; (with_reducible refine (HL2.out _).mono ?_); rintro e w3 ⟨rfl, hb3⟩; replace hB := below_step hB hb3)
    | (go_at_call 18; (with_reducible refine (awake_any _).mono ?_); rintro e w2 ⟨rfl, hb2⟩; replace hB := below_step hB hb2))
  go_ret
  exact ⟨rfl, hB⟩

set_option maxRecDepth 100000 in
set_option maxHeartbeats 8000000 in
theorem corr_short (A1 A2 : Option Addr) (c1 c2 : Nat) (a b : Crv) (x1 y1 : Int) (B1 : Option Addr) (m1 bc1 : Nat) (S1 : Nat → Int) (x2 y2 : Int) (B2 : Option Addr) (m2 bc2 : Nat) (S2 : Nat → Int) (ha hb : Int) (w : World) (han : a.n ≤ 20) (hbn : b.n ≤ 20) (sa : Spots w A1 a.n a.X a.Y) (sb : Spots w A2 b.n b.X b.Y) (hS1 : Stps w B1 m1 S1) (hS2 : Stps w B2 m2 S2) :
    Calls Try.prog 7 #[.agg #[.slice A1 a.n c1], .agg #[.slice A2 b.n c2], chv x1 y1 B1 m1 bc1, chv x2 y2 B2 m2 bc2, .int .i64 ha, .int .i64 hb] w fun e w' => e = .returned (.bool true) ∧ Below w.heap.size w w' := by
  obtain ⟨c, mc, kc⟩ := kit_spots x1 y1 B1 m1 bc1 S1
  obtain ⟨d, md, kd⟩ := kit_spots x2 y2 B2 m2 bc2 S2
  have hB : Below w.heap.size w ((((w.alloc (.cells #[.slice A1 a.n c1] 24)).alloc (.cells #[.slice A2 b.n c2] 24)).alloc (.cells #[.int .i64 x1, .int .i64 y1, .slice B1 m1 bc1] 37)).alloc (.cells #[.int .i64 x2, .int .i64 y2, .slice B2 m2 bc2] 37)) := ((((Below.refl _ w).alloc (Nat.le_refl _) _).alloc (by simp) _).alloc (by simp; omega) _).alloc (by simp; omega) _
  have f0 := (((BoxAt.new w 24 #[.slice A1 a.n c1]).alloc (.cells #[.slice A2 b.n c2] 24)).alloc (.cells #[.int .i64 x1, .int .i64 y1, .slice B1 m1 bc1] 37)).alloc (.cells #[.int .i64 x2, .int .i64 y2, .slice B2 m2 bc2] 37)
  have f1 := ((BoxAt.new (w.alloc (.cells #[.slice A1 a.n c1] 24)) 24 #[.slice A2 b.n c2]).alloc (.cells #[.int .i64 x1, .int .i64 y1, .slice B1 m1 bc1] 37)).alloc (.cells #[.int .i64 x2, .int .i64 y2, .slice B2 m2 bc2] 37)
  have f2 := (BoxAt.new ((w.alloc (.cells #[.slice A1 a.n c1] 24)).alloc (.cells #[.slice A2 b.n c2] 24)) 37 #[.int .i64 x1, .int .i64 y1, .slice B1 m1 bc1]).alloc (.cells #[.int .i64 x2, .int .i64 y2, .slice B2 m2 bc2] 37)
  have f3 := BoxAt.new (((w.alloc (.cells #[.slice A1 a.n c1] 24)).alloc (.cells #[.slice A2 b.n c2] 24)).alloc (.cells #[.int .i64 x1, .int .i64 y1, .slice B1 m1 bc1] 37)) 37 #[.int .i64 x2, .int .i64 y2, .slice B2 m2 bc2]
  rw [World.size_alloc] at f1
  rw [World.size_alloc, World.size_alloc] at f2
  rw [World.size_alloc, World.size_alloc, World.size_alloc] at f3
  have hl := long_any A1 a.n c1
  rw [decide_eq_false (by omega : ¬ 20 < a.n)] at hl
  have HL := Lib.hid hl
  have hl2 := long_any A2 b.n c2
  rw [decide_eq_false (by omega : ¬ 20 < b.n)] at hl2
  have HL2 := Lib.hid hl2
  have HA := Lib.hid (sa.below hB)
  have HB := Lib.hid (sb.below hB)
  have HS1 := Lib.hid (hS1.below hB)
  have HS2 := Lib.hid (hS2.below hB)
  have KC := Lib.hid kc
  have KD := Lib.hid kd
  clear kc kd mc md sa sb hS1 hS2 hl hl2
  go_enter Try.func7, Try.ntmps7
  go_upto_region 1 with fail
  generalize ((((w.alloc (.cells #[.slice A1 a.n c1] 24)).alloc (.cells #[.slice A2 b.n c2] 24)).alloc (.cells #[.int .i64 x1, .int .i64 y1, .slice B1 m1 bc1] 37)).alloc (.cells #[.int .i64 x2, .int .i64 y2, .slice B2 m2 bc2] 37)) = w0 at *
  have g0 : w0.cell? ⟨w.heap.size, 0, none⟩ = some (.slice A1 a.n c1) := f0.cell 0
  have H0 := Lib.hid hB
  have HG : Hid (∀ W, Below w0.heap.size w0 W → BoxAt W w.heap.size 24 #[.slice A1 a.n c1] ∧ BoxAt W (w.heap.size + 1) 24 #[.slice A2 b.n c2] ∧ BoxAt W (w.heap.size + 1 + 1) 37 #[.int .i64 x1, .int .i64 y1, .slice B1 m1 bc1] ∧ BoxAt W (w.heap.size + 1 + 1 + 1) 37 #[.int .i64 x2, .int .i64 y2, .slice B2 m2 bc2] ∧ Spots W A1 a.n a.X a.Y ∧ Spots W A2 b.n b.X b.Y ∧ Stps W B1 m1 S1 ∧ Stps W B2 m2 S2) :=
    fun W hW => ⟨box_step f0 hW, box_step f1 hW, box_step f2 hW, box_step f3 hW, HA.out.below hW, HB.out.below hW, HS1.out.below hW, HS2.out.below hW⟩
  have hlt := f3.lt
  have hx : Below w0.heap.size w0 w0 := Below.refl _ _
  clear f0 f1 f2 f3 hB HA HB HS1 HS2
  go_upto_region 3 with (first
    | (go_at_call 17; (with_reducible refine (HL.out _).mono ?_); rintro e w1 ⟨rfl, hb1⟩; replace hx := below_step hx hb1; have k1 : w1.cell? ⟨w.heap.size + 1, 0, none⟩ = some (.slice A2 b.n c2) := (HG.out _ hx).2.1.cell 0)
    | (go_at_call 17; (with_reducible refine (HL2.out _).mono ?_); rintro e wr ⟨rfl, hb3⟩; replace hx := below_step hx hb3))
  have hz0 := hx.size
  obtain ⟨q1, q2, _⟩ := HG.out _ hx
  have j1 : wr.cell? ⟨w.heap.size, 0, none⟩ = some (.slice A1 a.n c1) := q1.cell 0
  have j2 : wr.cell? ⟨w.heap.size + 1, 0, none⟩ = some (.slice A2 b.n c2) := q2.cell 0
  have l1 := q1.lt
  have l2 := q2.lt
  have HX := Lib.hid hx
  have HPP1 : Hid (∀ W, Below wr.heap.size wr W → Spots W A1 a.n a.X a.Y) := Lib.hid (fun W hW => (HG.out W (below_step HX.out hW)).2.2.2.2.1)
  have HPP2 : Hid (∀ W, Below wr.heap.size wr W → Spots W A2 b.n b.X b.Y) := Lib.hid (fun W hW => (HG.out W (below_step HX.out hW)).2.2.2.2.2.1)
  clear q1 q2 hx hb1 hb3 k1 g0
  go_cut [13, 14] from 24 to 27 (fun v v2 w' => ∃ Lx Ly Ax cx Ay cy, v = .pointer (some ⟨Lx, 0, none⟩) ∧ v2 = .pointer (some ⟨Ly, 0, none⟩) ∧ BoxAt w' Lx 24 #[.slice Ax a.n cx] ∧ BoxAt w' Ly 24 #[.slice Ay b.n cy] ∧ Spots w' Ax a.n a.X a.Y ∧ Spots w' Ay b.n b.X b.Y ∧ Below wr.heap.size wr w')
  case first =>
    go_region_held3 (fun w' => w'.cell? ⟨w.heap.size, 0, none⟩ = some (.slice A1 a.n c1) ∧ w'.cell? ⟨w.heap.size + 1, 0, none⟩ = some (.slice A2 b.n c2))
      (first | (refine ⟨?_, ?_⟩ <;> (refine (Below.cell (w := wr) (B := wr.heap.size) ?_ (by assumption)).trans (by assumption); (repeat (first | (with_reducible exact Below.refl _ _) | ((with_reducible refine bset ?_ ?_ _); (first | exact Nat.le_refl _ | omega | (simp; omega) | simp)) | ((with_reducible refine balloc ?_ ?_ _); (first | exact Nat.le_refl _ | omega | (simp; omega) | simp)) | (with_reducible refine Below.drew ?_) | (with_reducible refine below_step ?_ hb4) | (with_reducible refine below_step ?_ hb3))))) | go_keep)
      (first
        | (go_at_call 19; (with_reducible refine Calls.mono (own_any A1 a.n c1 a.X a.Y han _ ?_) ?_); (refine HPP1.out _ ?_; (repeat (first | (with_reducible exact Below.refl _ _) | ((with_reducible refine bset ?_ ?_ _); (first | exact Nat.le_refl _ | omega | (simp; omega) | simp)) | ((with_reducible refine balloc ?_ ?_ _); (first | exact Nat.le_refl _ | omega | (simp; omega) | simp)) | (with_reducible refine Below.drew ?_) | (with_reducible refine below_step ?_ hb4) | (with_reducible refine below_step ?_ hb3)))); rintro e w3 ⟨Ax, cx, rfl, hPx, hb3⟩; have HPx := Lib.hid hPx; clear hPx; have hz3 := hb3.size; (try simp at hz3); obtain ⟨hc3, hf3⟩ := bcell hb3; (try have y1 : wr.heap.size < w3.heap.size := by omega); (try have y2 : wr.heap.size + 1 < w3.heap.size := by omega); (try have y3 : wr.heap.size < w3.heap.size + 1 := by omega); (try have y4 : wr.heap.size + 1 < w3.heap.size + 1 := by omega); (try have y5 : wr.heap.size < w3.heap.size + 1 + 1 := by omega))
        | (go_at_call 19; (with_reducible refine Calls.mono (own_any A2 b.n c2 b.X b.Y hbn _ ?_) ?_); (refine HPP2.out _ ?_; (repeat (first | (with_reducible exact Below.refl _ _) | ((with_reducible refine bset ?_ ?_ _); (first | exact Nat.le_refl _ | omega | (simp; omega) | simp)) | ((with_reducible refine balloc ?_ ?_ _); (first | exact Nat.le_refl _ | omega | (simp; omega) | simp)) | (with_reducible refine Below.drew ?_) | (with_reducible refine below_step ?_ hb4) | (with_reducible refine below_step ?_ hb3)))); rintro e w4 ⟨Ay, cy, rfl, hPy, hb4⟩; have HPy := Lib.hid hPy; clear hPy; have hz4 := hb4.size; (try simp at hz4); obtain ⟨hc4, hf4⟩ := bcell hb4; (try have x1 : wr.heap.size < w4.heap.size := by omega); (try have x2 : wr.heap.size + 1 < w4.heap.size := by omega); (try have x3 : wr.heap.size < w4.heap.size + 1 := by omega); (try have x4 : wr.heap.size + 1 < w4.heap.size + 1 := by omega); (try have x5 : wr.heap.size < w4.heap.size + 1 + 1 := by omega); (try have x6 : w3.heap.size < w4.heap.size := by omega); (try have x7 : w3.heap.size + 1 < w4.heap.size := by omega); (try have x8 : w3.heap.size < w4.heap.size + 1 := by omega)))
    all_goals go_wp2
    all_goals go_meet
    all_goals (refine ⟨_, _, Ax, cx, Ay, cy, rfl, rfl, ?_, ?_, ?_, ?_, ?_⟩)
    all_goals (repeat (first
      | (with_reducible exact HPx.out)
      | (with_reducible exact HPy.out)
      | (with_reducible exact BoxAt.new _ _ _)
      | (with_reducible exact box_new2 _ _ _ _)
      | (with_reducible exact box_new4 _ _ _ _ _)
      | (with_reducible refine box_set1 ?_)
      | (with_reducible refine box_other1 ?_ (by omega))
      | (with_reducible refine box_step ?_ hb4)
      | (with_reducible refine box_step ?_ hb3)
      | (with_reducible refine BoxAt.alloc ?_ _)
      | (with_reducible refine BoxAt.drew ?_)
      | (with_reducible refine Spots.below ?_ hb4)
      | (with_reducible refine Spots.below ?_ hb3)
      | (with_reducible refine sp_alloc1 ?_)
      | (with_reducible refine sp_drew1 ?_)
      | (with_reducible refine sp_set1 ?_ ?_)
      | (with_reducible exact Below.refl _ _)
      | (with_reducible refine bset ?_ ?_ _; (first | exact Nat.le_refl _ | omega | (simp; omega) | simp))
      | (with_reducible refine balloc ?_ ?_ _; (first | exact Nat.le_refl _ | omega | (simp; omega) | simp))
      | (with_reducible refine Below.drew ?_)
      | (with_reducible refine below_step ?_ hb4)
      | (with_reducible refine below_step ?_ hb3)))
  case rest =>
    obtain ⟨w3, rfl⟩ : ∃ x : World, x = wc := ⟨_, rfl⟩
    obtain ⟨Lx, Ly, Ax, cx, Ay, cy, rfl, rfl, bx, by', px, py, hb3⟩ := hcut
    have HX3 := Lib.hid (below_step HX.out hb3)
    have HW3 : Hid (∀ W, Below w3.heap.size w3 W → (W.cell? ⟨Lx, 0, none⟩ = some (.slice Ax a.n cx) ∧ W.cell? ⟨Ly, 0, none⟩ = some (.slice Ay b.n cy) ∧ W.cell? ⟨w.heap.size, 0, none⟩ = some (.slice A1 a.n c1) ∧ W.cell? ⟨w.heap.size + 1, 0, none⟩ = some (.slice A2 b.n c2)) ∧ (Spots W Ax a.n a.X a.Y ∧ Spots W Ay b.n b.X b.Y) ∧ (Spots W A1 a.n a.X a.Y ∧ Spots W A2 b.n b.X b.Y)) := fun W hW => by
      obtain ⟨u1, u2, _, _, u5, u6, _⟩ := HG.out W (below_step HX3.out hW)
      exact ⟨⟨(box_step bx hW).cell 0, (box_step by' hW).cell 0, u1.cell 0, u2.cell 0⟩, ⟨px.below hW, py.below hW⟩, u5, u6⟩
    have lx := bx.lt
    have ly := by'.lt
    have l1' : w.heap.size < w3.heap.size := by have := hb3.size; omega
    have l2' : w.heap.size + 1 < w3.heap.size := by have := hb3.size; omega
    obtain ⟨⟨n1, n2, n3, n4⟩, _⟩ := HW3.out _ (Below.refl _ _)
    obtain ⟨L, hL⟩ : ∃ L, L = crsF a b ha hb := ⟨_, rfl⟩
    have hlen := crsF_len a b ha hb
    have K1 : Hid (∀ W, Below w3.heap.size w3 W → Calls Try.prog 46 #[.agg #[.slice Ax a.n cx], .int .i64 ha, .agg #[.slice Ay b.n cy], .int .i64 hb] W (CrsPost L W)) := fun W hW => by
      rw [hL]; exact crs_any Ax Ay cx cy a b ha hb W (HW3.out W hW).2.1.1 (HW3.out W hW).2.1.2
    have K2 : Hid (∀ W, Below w3.heap.size w3 W → Calls Try.prog 47 #[.agg #[.slice A1 a.n c1], .int .i64 ha, .agg #[.slice A2 b.n c2], .int .i64 hb] W (CrsPost L W)) := fun W hW => by
      rw [hL]; exact rcrs_any A1 A2 c1 c2 a b ha hb W (HW3.out W hW).2.2.1 (HW3.out W hW).2.2.2
    rw [← hL] at hlen
    clear hL hb3 bx by' px py HPP1 HPP2 j1 j2 l1 l2
    go_upto_region 4 with fail
    have hBx : Below w3.heap.size w3 w3.drew := (Below.refl _ _).drew
    go_region_held3 (fun w' => w'.cell? ⟨Lx, 0, none⟩ = some (.slice Ax a.n cx) ∧ w'.cell? ⟨Ly, 0, none⟩ = some (.slice Ay b.n cy) ∧ w'.cell? ⟨w.heap.size, 0, none⟩ = some (.slice A1 a.n c1) ∧ w'.cell? ⟨w.heap.size + 1, 0, none⟩ = some (.slice A2 b.n c2))
      (first | exact (HW3.out _ hBx).1 | go_keep)
      (first
        | (go_at_call 46; (with_reducible refine (K1.out _ hBx).mono ?_); rintro e w5 ⟨v1, rfl, hO1, hb5⟩; obtain ⟨R1, cp1, rfl, hq1⟩ := qs_of_own hO1; clear hO1; have HQ1 := Lib.hid hq1; clear hq1; replace hBx := below_step hBx hb5)
        | (go_at_call 47; (with_reducible refine (K2.out _ hBx).mono ?_); rintro e w6 ⟨v2, rfl, hO2, hb6⟩; obtain ⟨R2, cp2, rfl, hq2⟩ := qs_of_own hO2; clear hO2; have HQ2 := Lib.hid hq2; clear hq2; replace HQ1 := Lib.hid (HQ1.out.below hb6); replace hBx := below_step hBx hb6)
        | (go_at_call 45; (with_reducible refine (same_crs R1 R2 cp1 cp2 L _ hlen HQ1.out HQ2.out).mono ?_); rintro e w7 ⟨rfl, hb7⟩; replace hBx := below_step hBx hb7)
        | (go_at_call 27; (with_reducible refine (same_spots_any Ax A1 a.n cx c1 a.X a.Y han _ (HW3.out _ hBx).2.1.1 (HW3.out _ hBx).2.2.1).mono ?_); rintro e w8 ⟨rfl, hb8⟩; replace hBx := below_step hBx hb8)
        | (go_at_call 27; (with_reducible refine (same_spots_any Ay A2 b.n cy c2 b.X b.Y hbn _ (HW3.out _ hBx).2.1.2 (HW3.out _ hBx).2.2.2).mono ?_); rintro e w9 ⟨rfl, hb9⟩; replace hBx := below_step hBx hb9))
    have HX9 := Lib.hid (below_step HX3.out hBx)
    clear hBx K1 K2 HQ1 HQ2 hb5 hb6 hb7 hb8 hb9 n1 n2 n3 n4 lx ly l1' l2' HW3
    go_upto_region 6 with fail
    obtain ⟨wr, rfl⟩ : ∃ x : World, x = w9 := ⟨_, rfl⟩
    have hz9 := HX9.out.size
    obtain ⟨_, _, q3, q4, _⟩ := HG.out _ HX9.out
    have k1 : wr.cell? ⟨w.heap.size + 1 + 1, 0, none⟩ = some (.int .i64 x1) := q3.cell 0
    have k2 : wr.cell? ⟨w.heap.size + 1 + 1, 1, none⟩ = some (.int .i64 y1) := q3.cell 1
    have k3 : wr.cell? ⟨w.heap.size + 1 + 1, 2, none⟩ = some (.slice B1 m1 bc1) := q3.cell 2
    have k4 : wr.cell? ⟨w.heap.size + 1 + 1 + 1, 0, none⟩ = some (.int .i64 x2) := q4.cell 0
    have k5 : wr.cell? ⟨w.heap.size + 1 + 1 + 1, 1, none⟩ = some (.int .i64 y2) := q4.cell 1
    have k6 : wr.cell? ⟨w.heap.size + 1 + 1 + 1, 2, none⟩ = some (.slice B2 m2 bc2) := q4.cell 2
    have l1 := q3.lt
    have l2 := q4.lt
    have HPP1 : Hid (∀ W, Below wr.heap.size wr W → Stps W B1 m1 S1) := Lib.hid (fun W hW => (HG.out W (below_step HX9.out hW)).2.2.2.2.2.2.1)
    have HPP2 : Hid (∀ W, Below wr.heap.size wr W → Stps W B2 m2 S2) := Lib.hid (fun W hW => (HG.out W (below_step HX9.out hW)).2.2.2.2.2.2.2)
    clear q3 q4
    go_cut [15, 16] from 56 to 59 (fun v v2 w' => ∃ Lx Ly Ax cx Ay cy, v = .pointer (some ⟨Lx, 0, none⟩) ∧ v2 = .pointer (some ⟨Ly, 0, none⟩) ∧ BoxAt w' Lx 24 #[.slice Ax c.n cx] ∧ BoxAt w' Ly 24 #[.slice Ay d.n cy] ∧ Spots w' Ax c.n c.X c.Y ∧ Spots w' Ay d.n d.X d.Y ∧ Below wr.heap.size wr w')
    case first =>
      go_region_held3 (fun w' => w'.cell? ⟨w.heap.size + 1 + 1, 0, none⟩ = some (.int .i64 x1) ∧ w'.cell? ⟨w.heap.size + 1 + 1, 1, none⟩ = some (.int .i64 y1) ∧ w'.cell? ⟨w.heap.size + 1 + 1, 2, none⟩ = some (.slice B1 m1 bc1) ∧ w'.cell? ⟨w.heap.size + 1 + 1 + 1, 0, none⟩ = some (.int .i64 x2) ∧ w'.cell? ⟨w.heap.size + 1 + 1 + 1, 1, none⟩ = some (.int .i64 y2) ∧ w'.cell? ⟨w.heap.size + 1 + 1 + 1, 2, none⟩ = some (.slice B2 m2 bc2))
        (first | (refine ⟨?_, ?_, ?_, ?_, ?_, ?_⟩ <;> (refine (Below.cell (w := wr) (B := wr.heap.size) ?_ (by assumption)).trans (by assumption); (repeat (first | (with_reducible exact Below.refl _ _) | ((with_reducible refine bset ?_ ?_ _); (first | exact Nat.le_refl _ | omega | (simp; omega) | simp)) | ((with_reducible refine balloc ?_ ?_ _); (first | exact Nat.le_refl _ | omega | (simp; omega) | simp)) | (with_reducible refine Below.drew ?_) | (with_reducible refine below_step ?_ hb4) | (with_reducible refine below_step ?_ hb3))))) | go_keep)
        (first
          | (go_at_call 28; (with_reducible refine Calls.mono (KC.out _ ?_) ?_); (refine HPP1.out _ ?_; (repeat (first | (with_reducible exact Below.refl _ _) | ((with_reducible refine bset ?_ ?_ _); (first | exact Nat.le_refl _ | omega | (simp; omega) | simp)) | ((with_reducible refine balloc ?_ ?_ _); (first | exact Nat.le_refl _ | omega | (simp; omega) | simp)) | (with_reducible refine Below.drew ?_) | (with_reducible refine below_step ?_ hb4) | (with_reducible refine below_step ?_ hb3)))); rintro e w3 ⟨Ax, cx, rfl, hPx, hb3⟩; have HPx := Lib.hid hPx; clear hPx; have hz3 := hb3.size; (try simp at hz3); obtain ⟨hc3, hf3⟩ := bcell hb3; (try have y1 : wr.heap.size < w3.heap.size := by omega); (try have y2 : wr.heap.size + 1 < w3.heap.size := by omega); (try have y3 : wr.heap.size < w3.heap.size + 1 := by omega); (try have y4 : wr.heap.size + 1 < w3.heap.size + 1 := by omega); (try have y5 : wr.heap.size < w3.heap.size + 1 + 1 := by omega))
          | (go_at_call 28; (with_reducible refine Calls.mono (KD.out _ ?_) ?_); (refine HPP2.out _ ?_; (repeat (first | (with_reducible exact Below.refl _ _) | ((with_reducible refine bset ?_ ?_ _); (first | exact Nat.le_refl _ | omega | (simp; omega) | simp)) | ((with_reducible refine balloc ?_ ?_ _); (first | exact Nat.le_refl _ | omega | (simp; omega) | simp)) | (with_reducible refine Below.drew ?_) | (with_reducible refine below_step ?_ hb4) | (with_reducible refine below_step ?_ hb3)))); rintro e w4 ⟨Ay, cy, rfl, hPy, hb4⟩; have HPy := Lib.hid hPy; clear hPy; have hz4 := hb4.size; (try simp at hz4); obtain ⟨hc4, hf4⟩ := bcell hb4; (try have x1 : wr.heap.size < w4.heap.size := by omega); (try have x2 : wr.heap.size + 1 < w4.heap.size := by omega); (try have x3 : wr.heap.size < w4.heap.size + 1 := by omega); (try have x4 : wr.heap.size + 1 < w4.heap.size + 1 := by omega); (try have x5 : wr.heap.size < w4.heap.size + 1 + 1 := by omega); (try have x6 : w3.heap.size < w4.heap.size := by omega); (try have x7 : w3.heap.size + 1 < w4.heap.size := by omega); (try have x8 : w3.heap.size < w4.heap.size + 1 := by omega)))
      all_goals go_wp2
      all_goals go_meet
      all_goals (refine ⟨_, _, Ax, cx, Ay, cy, rfl, rfl, ?_, ?_, ?_, ?_, ?_⟩)
      all_goals (repeat (first
        | (with_reducible exact HPx.out)
        | (with_reducible exact HPy.out)
        | (with_reducible exact BoxAt.new _ _ _)
        | (with_reducible exact box_new2 _ _ _ _)
        | (with_reducible exact box_new4 _ _ _ _ _)
        | (with_reducible refine box_set1 ?_)
        | (with_reducible refine box_other1 ?_ (by omega))
        | (with_reducible refine box_step ?_ hb4)
        | (with_reducible refine box_step ?_ hb3)
        | (with_reducible refine BoxAt.alloc ?_ _)
        | (with_reducible refine BoxAt.drew ?_)
        | (with_reducible refine Spots.below ?_ hb4)
        | (with_reducible refine Spots.below ?_ hb3)
        | (with_reducible refine sp_alloc1 ?_)
        | (with_reducible refine sp_drew1 ?_)
        | (with_reducible refine sp_set1 ?_ ?_)
        | (with_reducible exact Below.refl _ _)
        | (with_reducible refine bset ?_ ?_ _; (first | exact Nat.le_refl _ | omega | (simp; omega) | simp))
        | (with_reducible refine balloc ?_ ?_ _; (first | exact Nat.le_refl _ | omega | (simp; omega) | simp))
        | (with_reducible refine Below.drew ?_)
        | (with_reducible refine below_step ?_ hb4)
        | (with_reducible refine below_step ?_ hb3)))
    case rest =>
      obtain ⟨w3, rfl⟩ : ∃ x : World, x = wc := ⟨_, rfl⟩
      obtain ⟨Lx, Ly, Ax, cx, Ay, cy, rfl, rfl, bx, by', px, py, hb3⟩ := hcut
      have HX3 := Lib.hid (below_step HX9.out hb3)
      have HW3 : Hid (∀ W, Below w3.heap.size w3 W → (W.cell? ⟨Lx, 0, none⟩ = some (.slice Ax c.n cx) ∧ W.cell? ⟨Ly, 0, none⟩ = some (.slice Ay d.n cy)) ∧ (Spots W Ax c.n c.X c.Y ∧ Spots W Ay d.n d.X d.Y)) := fun W hW => ⟨⟨(box_step bx hW).cell 0, (box_step by' hW).cell 0⟩, ⟨px.below hW, py.below hW⟩⟩
      have lx := bx.lt
      have ly := by'.lt
      obtain ⟨⟨n1, n2⟩, _⟩ := HW3.out _ (Below.refl _ _)
      obtain ⟨L, hL⟩ : ∃ L, L = crsF c d ha hb := ⟨_, rfl⟩
      have hlen := crsF_len c d ha hb
      have K1 : Hid (∀ W, Below w3.heap.size w3 W → Calls Try.prog 46 #[.agg #[.slice Ax c.n cx], .int .i64 ha, .agg #[.slice Ay d.n cy], .int .i64 hb] W (CrsPost L W)) := fun W hW => by
        rw [hL]; exact crs_any Ax Ay cx cy c d ha hb W (HW3.out W hW).2.1 (HW3.out W hW).2.2
      have K2 : Hid (∀ W, Below w3.heap.size w3 W → Calls Try.prog 47 #[.agg #[.slice Ax c.n cx], .int .i64 ha, .agg #[.slice Ay d.n cy], .int .i64 hb] W (CrsPost L W)) := fun W hW => by
        rw [hL]; exact rcrs_any Ax Ay cx cy c d ha hb W (HW3.out W hW).2.1 (HW3.out W hW).2.2
      rw [← hL] at hlen
      clear hL hb3 bx by' px py HPP1 HPP2 k1 k2 k3 k4 k5 k6 l1 l2
      go_upto_region 7 with fail
      have hBx : Below w3.heap.size w3 w3.drew := (Below.refl _ _).drew
      go_region_held3 (fun w' => w'.cell? ⟨Lx, 0, none⟩ = some (.slice Ax c.n cx) ∧ w'.cell? ⟨Ly, 0, none⟩ = some (.slice Ay d.n cy))
        (first | exact (HW3.out _ hBx).1 | go_keep)
        (first
          | (go_at_call 46; (with_reducible refine (K1.out _ hBx).mono ?_); rintro e w5 ⟨v1, rfl, hO1, hb5⟩; obtain ⟨R1, cp1, rfl, hq1⟩ := qs_of_own hO1; clear hO1; have HQ1 := Lib.hid hq1; clear hq1; replace hBx := below_step hBx hb5)
          | (go_at_call 47; (with_reducible refine (K2.out _ hBx).mono ?_); rintro e w6 ⟨v2, rfl, hO2, hb6⟩; obtain ⟨R2, cp2, rfl, hq2⟩ := qs_of_own hO2; clear hO2; have HQ2 := Lib.hid hq2; clear hq2; replace HQ1 := Lib.hid (HQ1.out.below hb6); replace hBx := below_step hBx hb6)
          | (go_at_call 45; (with_reducible refine (same_crs R1 R2 cp1 cp2 L _ hlen HQ1.out HQ2.out).mono ?_); rintro e w7 ⟨rfl, hb7⟩; replace hBx := below_step hBx hb7)
          | (go_at_call 18; (with_reducible refine (awake_any _).mono ?_); rintro e w8 ⟨rfl, hb8⟩; replace hBx := below_step hBx hb8))
      all_goals go_wp2
      all_goals go_ret
      all_goals exact ⟨rfl, below_step H0.out (below_step HX3.out hBx)⟩
end Go.Proofs.Ytglkpabcflecmaa
