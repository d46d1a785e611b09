/- The walk of the law CurveMoved. -/
import Derived.Test.YtglkpabcflecmaaMvM
import Derived.Test.YtglkpabcflecmaaMvd
import Derived.Test.YtglkpabcflecmaaSCrs
import Derived.Test.YtglkpabcflecmaaPtsL
import Derived.Test.YtglkpabcflecmaaLngW
import Derived.Test.YtglkpabcflecmaaRFlo
import Derived.StillTailTactics
namespace Go.Proofs.Ytglkpabcflecmaa
open Go.RowKit Go.Shelf

theorem mvd_boxes (w : World) (v1 v2 v3 v4 : Array Value) :
    ∃ W0, W0 = ((((w.alloc (.cells v1 37)).alloc (.cells v2 37)).alloc (.cells v3 43)).alloc (.cells v4 43)) ∧
      BoxAt W0 w.heap.size 37 v1 ∧ BoxAt W0 (w.heap.size + 1) 37 v2 ∧ BoxAt W0 (w.heap.size + 1 + 1) 43 v3 ∧ BoxAt W0 (w.heap.size + 1 + 1 + 1) 43 v4 ∧
      Below w.heap.size w W0 ∧ W0.heap.size = w.heap.size + 1 + 1 + 1 + 1 := by
  have h1 := BoxAt.new (w.alloc (.cells v1 37)) 37 v2
  have h2 := BoxAt.new ((w.alloc (.cells v1 37)).alloc (.cells v2 37)) 43 v3
  have h3 := BoxAt.new (((w.alloc (.cells v1 37)).alloc (.cells v2 37)).alloc (.cells v3 43)) 43 v4
  simp only [World.size_alloc] at h1 h2 h3
  exact ⟨_, rfl, (((BoxAt.new w 37 _).alloc _).alloc _).alloc _, (h1.alloc _).alloc _, h2.alloc _, h3, ((((Below.refl _ w).alloc (Nat.le_refl _) _).alloc (by simp) _).alloc (by simp; omega) _).alloc (by simp; omega) _, by simp⟩
theorem div_bd {x d M : Int} (hd : 0 < d) (h1 : -M ≤ x) (h2 : x ≤ M) (hM : 0 ≤ M) : -M ≤ x / d ∧ x / d ≤ M := by
  have a := Int.mul_ediv_add_emod x d
  have c := Int.emod_lt_of_pos x hd
  constructor
  · rcases Int.lt_or_le (x / d) (-M) with h | h
    · have m := Int.mul_le_mul_of_nonneg_left (show x / d ≤ -M - 1 by omega) (show 0 ≤ d by omega)
      have e : d * (-M - 1) = -(d * M) - d := by grind
      have f := Int.mul_le_mul_of_nonneg_right (show 1 ≤ d by omega) hM
      omega
    · exact h
  · exact Int.le_trans (Int.ediv_le_ediv hd h2) (Int.ediv_le_self _ hM)
theorem at_bd {c : Crv} (h : Good c) (s : Int) : (-40000000000000 ≤ atXF c s ∧ atXF c s ≤ 40000000000000) ∧ -40000000000000 ≤ atYF c s ∧ atYF c s ≤ 40000000000000 := by
  have hj := (pieceJ_in h.lo s).lt
  unfold atXF atYF atX atY
  rw [if_pos (of_good h), if_pos (of_good h)]
  generalize pieceJ c s = j at *
  obtain ⟨l0, l1, l2⟩ := h.len (i := j) (by omega)
  obtain ⟨t1, t2⟩ := clampT_bd (s := s) (st := c.st j) (l := c.len j) (by omega)
  generalize clampT s (c.st j) (c.len j) = t at *
  obtain ⟨x1, y1⟩ := h.ok j (by omega)
  have wx := Crv.okd_wx h.ok (i := j) (by omega)
  have wy := Crv.okd_wy h.ok (i := j) (by omega)
  unfold okc at x1 y1
  unfold okd at wx wy
  have px := mul_bd (t := c.wx j) (M := 33554432) (c := t) (K := 1048576) (by omega) (by omega) (by omega) (by omega)
  have py := mul_bd (t := c.wy j) (M := 33554432) (c := t) (K := 1048576) (by omega) (by omega) (by omega) (by omega)
  have dx := div_bd (d := c.len j) (by omega) px.1 px.2 (by omega)
  have dy := div_bd (d := c.len j) (by omega) py.1 py.2 (by omega)
  omega
theorem crsF_len2 (c d : Crv) (ha hb : Int) : (crsF c d ha hb).length ≤ 1000000 := by
  unfold crsF
  split
  · rename_i h
    have h1 := outerL_len (corAt c ha) (corAt d hb) (d.n - 1) (c.n - 1)
    have h2 := (good_of h.1).hi
    have h3 := (good_of h.2.1).hi
    have h4 := Nat.mul_le_mul (show c.n - 1 ≤ 15 by omega) (show d.n - 1 ≤ 15 by omega)
    unfold crossL
    omega
  · simp
theorem len_pos {c : Crv} (h : Good c) : 1000 ≤ lenF c := by
  unfold lenF
  rw [if_pos (of_good h)]
  have h0 := h.lo
  have h1 := (h.len (i := 0) (by omega)).2.1
  have h2 : c.st 1 = c.st 0 + c.len 0 := rfl
  have h3 : c.st 0 = 0 := rfl
  have h4 := Crv.st_mono (c := c) (show 1 ≤ c.n - 1 by omega)
  omega
theorem mid_moves {c : Crv} (h : Mid c) (p q : Int) (h1 : -10000000 ≤ p ∧ p ≤ 10000000) (h2 : -10000000 ≤ q ∧ q ≤ 10000000) : Good (mv c p q) :=
  mv_good h.good p q (fun i hi => by
    have a1 := h.bx i hi
    have a2 := h.bY i hi
    unfold okc
    omega)
theorem moved_mid (g cap : Nat) (c : Crv) (hc : Mid c) (p q : Int) (h1 : -10000000 ≤ p ∧ p ≤ 10000000) (h2 : -10000000 ≤ q ∧ q ≤ 10000000) (w : World) (hp : Pts w g 0 c.n c.X c.Y) :
    Calls Try.prog 57 #[cv g 0 c.n cap, sp p q] w fun e w' => ∃ g c', e = .returned (cv g 0 c.n c') ∧ Pts w' g 0 c.n (mv c p q).X (mv c p q).Y ∧ Below w.heap.size w w' ∧ w.heap.size ≤ g := by
  have h3 := hc.few
  have h4 := hc.good.lo
  refine (moved_any g 0 cap c p q w hp (by omega) (by omega) (fun i hi => ?_) (fun i hi => ?_) (by omega) (by omega) (by omega) (by omega)).mono ?_
  · have := hc.bx i hi; omega
  · have := hc.bY i hi; omega
  · rintro e w' ⟨g, c', h5, h6, h7, h8, _⟩
    exact ⟨g, c', h5, h6, h7, h8⟩

set_option maxRecDepth 100000 in
set_option maxHeartbeats 8000000 in
theorem moved_walk (x1 y1 : Int) (B1 : Option Addr) (m1 bc1 : Nat) (S1 : Nat → Int) (x2 y2 : Int) (B2 : Option Addr) (m2 bc2 : Nat) (S2 : Nat → Int) (ha0 hb0 s px0 py0 ux0 uy0 : Int) (hs1 : -9223372036854775808 ≤ s) (hs2 : s ≤ 9223372036854775807) (w : World) (hS1 : Stps w B1 m1 S1) (hS2 : Stps w B2 m2 S2) :
    Calls Try.prog 15 #[chv x1 y1 B1 m1 bc1, chv x2 y2 B2 m2 bc2, .int .i64 ha0, .int .i64 hb0, .int .i64 s, sp px0 py0, sp ux0 uy0] w fun e w' => e = .returned (.bool true) ∧ Below w.heap.size w w' := by
  obtain ⟨a, ma, ka⟩ := kit_makes x1 y1 B1 m1 bc1 S1
  obtain ⟨b, mb, kb⟩ := kit_makes x2 y2 B2 m2 bc2 S2
  obtain ⟨W0, hW0, f1, f2, f3, f4, hB0, hsz0⟩ := mvd_boxes w #[.int .i64 x1, .int .i64 y1, .slice B1 m1 bc1] #[.int .i64 x2, .int .i64 y2, .slice B2 m2 bc2] #[.int .i64 px0, .int .i64 py0] #[.int .i64 ux0, .int .i64 uy0]
  have HS1 := Lib.hid (hS1.below hB0)
  have HS2 := Lib.hid (hS2.below hB0)
  have KA := Lib.hid ka
  have KB := Lib.hid kb
  have MA := Lib.hid ma
  have MB := Lib.hid mb
  have na : 0 < a.n := by have := ma.good.lo; omega
  have nb : 0 < b.n := by have := mb.good.lo; omega
  have HSZ := Lib.hid hsz0
  clear ka kb ma mb hS1 hS2 hsz0
  go_enter Try.func15, Try.ntmps15
  go_upto_region 1 with fail
  rw [← hW0]
  clear hW0
  obtain ⟨wr, hwr⟩ : ∃ x : World, x = W0 := ⟨_, rfl⟩
  subst hwr
  have k0 : wr.cell? ⟨w.heap.size, 0, none⟩ = some (.int .i64 x1) := f1.cell 0
  have k1 : wr.cell? ⟨w.heap.size, 1, none⟩ = some (.int .i64 y1) := f1.cell 1
  have k2 : wr.cell? ⟨w.heap.size, 2, none⟩ = some (.slice B1 m1 bc1) := f1.cell 2
  have k3 : wr.cell? ⟨w.heap.size + 1, 0, none⟩ = some (.int .i64 x2) := f2.cell 0
  have k4 : wr.cell? ⟨w.heap.size + 1, 1, none⟩ = some (.int .i64 y2) := f2.cell 1
  have k5 : wr.cell? ⟨w.heap.size + 1, 2, none⟩ = some (.slice B2 m2 bc2) := f2.cell 2
  have l1 := f1.lt
  have l2 := f2.lt
  go_cut [15, 16] from 21 to 24 (fun v v2 w' => ∃ La Lb ga ca gb cb, v = .pointer (some ⟨La, 0, none⟩) ∧ v2 = .pointer (some ⟨Lb, 0, none⟩) ∧ BoxAt w' La 24 #[.slice (some ⟨ga, 0, none⟩) a.n ca] ∧ BoxAt w' Lb 24 #[.slice (some ⟨gb, 0, none⟩) b.n cb] ∧ Pts w' ga 0 a.n a.X a.Y ∧ Pts w' gb 0 b.n b.X b.Y ∧ Below wr.heap.size wr w' ∧ wr.heap.size ≤ La ∧ wr.heap.size ≤ Lb ∧ wr.heap.size ≤ ga ∧ wr.heap.size ≤ gb)
  case first =>
    go_region_held3 (fun w' => w'.cell? ⟨w.heap.size, 0, none⟩ = some (.int .i64 x1) ∧ w'.cell? ⟨w.heap.size, 1, none⟩ = some (.int .i64 y1) ∧ w'.cell? ⟨w.heap.size, 2, none⟩ = some (.slice B1 m1 bc1) ∧ w'.cell? ⟨w.heap.size + 1, 0, none⟩ = some (.int .i64 x2) ∧ w'.cell? ⟨w.heap.size + 1, 1, none⟩ = some (.int .i64 y2) ∧ w'.cell? ⟨w.heap.size + 1, 2, none⟩ = some (.slice B2 m2 bc2))
      (first | (refine ⟨?_, ?_, ?_, ?_, ?_, ?_⟩ <;> (refine (Below.cell (w := wr) (B := wr.heap.size) ?_ (by assumption)).trans (by assumption); (repeat (first | (with_reducible exact Below.refl _ _) | ((with_reducible refine bset ?_ ?_ _); (first | exact Nat.le_refl _ | omega | (simp; omega) | simp)) | ((with_reducible refine balloc ?_ ?_ _); (first | exact Nat.le_refl _ | omega | (simp; omega) | simp)) | (with_reducible refine Below.drew ?_) | (with_reducible refine below_step ?_ hb4) | (with_reducible refine below_step ?_ hb3))))) | go_keep)
      (first
        | (go_at_call 28; (with_reducible refine Calls.mono (KA.out _ ?_) ?_); (exact HS1.out.below (by (repeat (first | (with_reducible exact Below.refl _ _) | ((with_reducible refine bset ?_ ?_ _); (first | exact Nat.le_refl _ | omega | (simp; omega) | simp)) | ((with_reducible refine balloc ?_ ?_ _); (first | exact Nat.le_refl _ | omega | (simp; omega) | simp)) | (with_reducible refine Below.drew ?_) | (with_reducible refine below_step ?_ hb4) | (with_reducible refine below_step ?_ hb3))))); rintro e w3 ⟨ga, ca, rfl, hPa, hb3, hga⟩; have HPa := Lib.hid hPa; have hlhPa := hPa.lt na; clear hPa; (try simp at hga); have hz3 := hb3.size; (try simp at hz3); obtain ⟨hc3, hf3⟩ := bcell hb3; (try have y1 : wr.heap.size < w3.heap.size := by omega); (try have y2 : wr.heap.size + 1 < w3.heap.size := by omega); (try have y3 : wr.heap.size < w3.heap.size + 1 := by omega); (try have y4 : wr.heap.size + 1 < w3.heap.size + 1 := by omega); (try have y5 : wr.heap.size < w3.heap.size + 1 + 1 := by omega))
        | (go_at_call 28; (with_reducible refine Calls.mono (KB.out _ ?_) ?_); (exact HS2.out.below (by (repeat (first | (with_reducible exact Below.refl _ _) | ((with_reducible refine bset ?_ ?_ _); (first | exact Nat.le_refl _ | omega | (simp; omega) | simp)) | ((with_reducible refine balloc ?_ ?_ _); (first | exact Nat.le_refl _ | omega | (simp; omega) | simp)) | (with_reducible refine Below.drew ?_) | (with_reducible refine below_step ?_ hb4) | (with_reducible refine below_step ?_ hb3))))); rintro e w4 ⟨gb, cb, rfl, hPb, hb4, hgb⟩; have HPb := Lib.hid hPb; have hlhPb := hPb.lt nb; clear hPb; (try simp at hgb); have hz4 := hb4.size; (try simp at hz4); obtain ⟨hc4, hf4⟩ := bcell hb4; (try have x1 : wr.heap.size < w4.heap.size := by omega); (try have x2 : wr.heap.size + 1 < w4.heap.size := by omega); (try have x3 : wr.heap.size < w4.heap.size + 1 := by omega); (try have x4 : wr.heap.size + 1 < w4.heap.size + 1 := by omega); (try have x5 : wr.heap.size < w4.heap.size + 1 + 1 := by omega); (try have x6 : w3.heap.size < w4.heap.size := by omega); (try have x7 : w3.heap.size + 1 < w4.heap.size := by omega); (try have x8 : w3.heap.size < w4.heap.size + 1 := by omega)))
    all_goals go_wp2
    all_goals go_meet
    all_goals (refine ⟨_, _, ga, ca, gb, cb, rfl, rfl, ?_, ?_, ?_, ?_, ?_, (by omega), (by omega), (by omega), by omega⟩)
    all_goals (repeat (first
      | (with_reducible exact HPa.out)
      | (with_reducible exact HPb.out)
      | (with_reducible exact BoxAt.new _ _ _)
      | (with_reducible exact box_new2 _ _ _ _)
      | (with_reducible exact box_new4 _ _ _ _ _)
      | (with_reducible refine box_set1 ?_)
      | (with_reducible refine box_other1 ?_ (by omega))
      | (with_reducible refine box_step ?_ hb4)
      | (with_reducible refine box_step ?_ hb3)
      | (with_reducible refine BoxAt.alloc ?_ _)
      | (with_reducible refine BoxAt.drew ?_)
      | (with_reducible refine pts_set1 ?_ (by omega))
      | (with_reducible refine pts_step1 ?_ na hb4)
      | (with_reducible refine pts_step1 ?_ nb hb4)
      | (with_reducible refine pts_step1 ?_ na hb3)
      | (with_reducible refine pts_step1 ?_ nb hb3)
      | (with_reducible refine pts_alloc1 ?_ na)
      | (with_reducible refine pts_alloc1 ?_ nb)
      | (with_reducible refine pts_drew1 ?_)
      | (with_reducible exact Below.refl _ _)
      | (with_reducible refine bset ?_ ?_ _; (first | exact Nat.le_refl _ | omega | (simp; omega) | simp))
      | (with_reducible refine balloc ?_ ?_ _; (first | exact Nat.le_refl _ | omega | (simp; omega) | simp))
      | (with_reducible refine Below.drew ?_)
      | (with_reducible refine below_step ?_ hb4)
      | (with_reducible refine below_step ?_ hb3)))
  case rest =>
    obtain ⟨w1, rfl⟩ : ∃ x : World, x = wc := ⟨_, rfl⟩
    obtain ⟨La, Lb, ga, ca, gb, cb, rfl, rfl, qa, qb, qpa, qpb, hbw, u1, u2, u3, u4⟩ := hcut
    have q3 := box_step f3 hbw
    have q4 := box_step f4 hbw
    have hB1 := below_step hB0 hbw
    clear k0 k1 k2 k3 k4 k5 l1 l2 HS1 HS2 KA KB f1 f2 f3 f4 hB0
    obtain ⟨ux, hux⟩ : ∃ z, ux0.tmod 10000001 = z := ⟨_, rfl⟩
    obtain ⟨uy, huy⟩ : ∃ z, uy0.tmod 10000001 = z := ⟨_, rfl⟩
    obtain ⟨px, hpx⟩ : ∃ z, px0.tmod 40000 = z := ⟨_, rfl⟩
    obtain ⟨py, hpy⟩ : ∃ z, py0.tmod 40000 = z := ⟨_, rfl⟩
    have bux : -10000000 ≤ ux ∧ ux ≤ 10000000 := by have := tmod_cases ux0 10000001 (by decide); omega
    have buy : -10000000 ≤ uy ∧ uy ≤ 10000000 := by have := tmod_cases uy0 10000001 (by decide); omega
    have bpx : -40000 ≤ px ∧ px ≤ 40000 := by have := tmod_cases px0 40000 (by decide); omega
    have bpy : -40000 ≤ py ∧ py ≤ 40000 := by have := tmod_cases py0 40000 (by decide); omega
    have n1 : w1.cell? ⟨w.heap.size + 1 + 1, 0, none⟩ = some (.int .i64 px0) := q3.cell 0
    have n2 : w1.cell? ⟨w.heap.size + 1 + 1, 1, none⟩ = some (.int .i64 py0) := q3.cell 1
    have n3 : w1.cell? ⟨w.heap.size + 1 + 1 + 1, 0, none⟩ = some (.int .i64 ux0) := q4.cell 0
    have n4 : w1.cell? ⟨w.heap.size + 1 + 1 + 1, 1, none⟩ = some (.int .i64 uy0) := q4.cell 1
    have n5 : w1.frozen? ⟨w.heap.size + 1 + 1, 0, none⟩ = false := q3.frozen 0
    have n6 : w1.frozen? ⟨w.heap.size + 1 + 1, 1, none⟩ = false := q3.frozen 1
    have n7 : w1.frozen? ⟨w.heap.size + 1 + 1 + 1, 0, none⟩ = false := q4.frozen 0
    have n8 : w1.frozen? ⟨w.heap.size + 1 + 1 + 1, 1, none⟩ = false := q4.frozen 1
    go_upto_region 4 with fail
    have g1 := (BoxAt.set (BoxAt.set q4 0 (.int .i64 ux)) 1 (.int .i64 uy))
    have P5 := Lib.hid ((BoxAt.set (BoxAt.set (box_other2 (a := .int .i64 ux) (b := .int .i64 uy) (h := w.heap.size + 1 + 1 + 1) q3 (by omega)) 0 (.int .i64 px)) 1 (.int .i64 py)))
    have U5 := Lib.hid (box_other2 (a := .int .i64 px) (b := .int .i64 py) (h := w.heap.size + 1 + 1) g1 (by omega))
    have z0 := HSZ.out
    have A5 := Lib.hid (box_other2 (a := .int .i64 px) (b := .int .i64 py) (h := w.heap.size + 1 + 1) (box_other2 (a := .int .i64 ux) (b := .int .i64 uy) (h := w.heap.size + 1 + 1 + 1) qa (by omega)) (by omega))
    have B5 := Lib.hid (box_other2 (a := .int .i64 px) (b := .int .i64 py) (h := w.heap.size + 1 + 1) (box_other2 (a := .int .i64 ux) (b := .int .i64 uy) (h := w.heap.size + 1 + 1 + 1) qb (by omega)) (by omega))
    have PA5 := Lib.hid (pts_set2 (v := .int .i64 px) (v2 := .int .i64 py) (h := w.heap.size + 1 + 1) (pts_set2 (v := .int .i64 ux) (v2 := .int .i64 uy) (h := w.heap.size + 1 + 1 + 1) qpa (by omega)) (by omega))
    have PB5 := Lib.hid (pts_set2 (v := .int .i64 px) (v2 := .int .i64 py) (h := w.heap.size + 1 + 1) (pts_set2 (v := .int .i64 ux) (v2 := .int .i64 uy) (h := w.heap.size + 1 + 1 + 1) qpb (by omega)) (by omega))
    have HB5 := Lib.hid (below_set2 (below_set2 hB1 (h := w.heap.size + 1 + 1 + 1) (by omega) 0 1 (.int .i64 ux) (.int .i64 uy)) (h := w.heap.size + 1 + 1) (by omega) 0 1 (.int .i64 px) (.int .i64 py))
    clear g1 qa qb qpa qpb q3 q4 n1 n2 n3 n4 n5 n6 n7 n8 hB1 hbw HSZ z0 u1 u2 u3 u4 hux huy hpx hpy
    generalize (((w1.setCell ⟨w.heap.size + 1 + 1 + 1, 0, none⟩ (.int .i64 ux)).setCell ⟨w.heap.size + 1 + 1 + 1, 1, none⟩ (.int .i64 uy)).setCell ⟨w.heap.size + 1 + 1, 0, none⟩ (.int .i64 px)).setCell ⟨w.heap.size + 1 + 1, 1, none⟩ (.int .i64 py) = w5 at *
    have hm1 := Int.emod_nonneg ha0 (show (4001 : Int) ≠ 0 by omega)
    have hm2 := Int.emod_lt_of_pos ha0 (show (0 : Int) < 4001 by omega)
    have hm3 := Int.emod_nonneg hb0 (show (4001 : Int) ≠ 0 by omega)
    have hm4 := Int.emod_lt_of_pos hb0 (show (0 : Int) < 4001 by omega)
    have HM1 := Lib.hid (fun W => mod64_any ha0 4001 W (by omega) (by omega))
    have HM2 := Lib.hid (fun W => mod64_any hb0 4001 W (by omega) (by omega))
    obtain ⟨ha, hha⟩ : ∃ z, z = ha0 % 4001 := ⟨_, rfl⟩
    obtain ⟨hb, hhb⟩ : ∃ z, z = hb0 % 4001 := ⟨_, rfl⟩
    rw [← hha] at hm1 hm2 HM1
    rw [← hhb] at hm3 hm4 HM2
    clear hha hhb
    go_upto_region 5 with (first
      | (go_at_call 56; (with_reducible refine (HM1.out _).mono ?_); rintro e wm ⟨rfl, rfl⟩)
      | (go_at_call 56; (with_reducible refine (HM2.out _).mono ?_); rintro e wm2 ⟨rfl, rfl⟩))
    obtain ⟨wr, rfl⟩ : ∃ x : World, x = w5 := ⟨_, rfl⟩
    have Pp : Hid (BoxAt wr (w.heap.size + 1 + 1) 43 #[.int .i64 px, .int .i64 py]) := P5
    have Uu : Hid (BoxAt wr (w.heap.size + 1 + 1 + 1) 43 #[.int .i64 ux, .int .i64 uy]) := U5
    clear P5 U5 HM1 HM2
    obtain ⟨Lu, hLu⟩ : ∃ z, z = w.heap.size + 1 + 1 + 1 := ⟨_, rfl⟩
    obtain ⟨Lp, hLp⟩ : ∃ z, z = w.heap.size + 1 + 1 := ⟨_, rfl⟩
    rw [← hLu] at Uu ⊢
    rw [← hLp] at Pp ⊢
    clear hLu hLp
    have k0 : wr.cell? ⟨La, 0, none⟩ = some (.slice (some ⟨ga, 0, none⟩) a.n ca) := BoxAt.cell A5.out 0
    have k1 : wr.cell? ⟨Lb, 0, none⟩ = some (.slice (some ⟨gb, 0, none⟩) b.n cb) := BoxAt.cell B5.out 0
    have k2 : wr.cell? ⟨Lu, 0, none⟩ = some (.int .i64 ux) := BoxAt.cell Uu.out 0
    have k3 : wr.cell? ⟨Lu, 1, none⟩ = some (.int .i64 uy) := BoxAt.cell Uu.out 1
    have l1 := BoxAt.lt A5.out
    have l2 := BoxAt.lt B5.out
    have l3 := BoxAt.lt Uu.out
    have HPA : Hid (∀ W, Below wr.heap.size wr W → Pts W ga 0 a.n a.X a.Y) := Lib.hid (fun W hW => pts_step1 PA5.out na hW)
    have HPB : Hid (∀ W, Below wr.heap.size wr W → Pts W gb 0 b.n b.X b.Y) := Lib.hid (fun W hW => pts_step1 PB5.out nb hW)
    have KA := Lib.hid (fun W (hW : Pts W ga 0 a.n a.X a.Y) => moved_mid ga ca a MA.out ux uy bux buy W hW)
    have KB := Lib.hid (fun W (hW : Pts W gb 0 b.n b.X b.Y) => moved_mid gb cb b MB.out ux uy bux buy W hW)
    go_cut [17, 18] from 43 to 48 (fun v v2 w' => ∃ Lc Ld gc cc gd cd, v = .pointer (some ⟨Lc, 0, none⟩) ∧ v2 = .pointer (some ⟨Ld, 0, none⟩) ∧ BoxAt w' Lc 24 #[.slice (some ⟨gc, 0, none⟩) a.n cc] ∧ BoxAt w' Ld 24 #[.slice (some ⟨gd, 0, none⟩) b.n cd] ∧ Pts w' gc 0 a.n (mv a ux uy).X (mv a ux uy).Y ∧ Pts w' gd 0 b.n (mv b ux uy).X (mv b ux uy).Y ∧ Below wr.heap.size wr w' ∧ wr.heap.size ≤ Lc ∧ wr.heap.size ≤ Ld ∧ wr.heap.size ≤ gc ∧ wr.heap.size ≤ gd)
    case first =>
      go_region_held3 (fun w' => w'.cell? ⟨La, 0, none⟩ = some (.slice (some ⟨ga, 0, none⟩) a.n ca) ∧ w'.cell? ⟨Lb, 0, none⟩ = some (.slice (some ⟨gb, 0, none⟩) b.n cb) ∧ w'.cell? ⟨Lu, 0, none⟩ = some (.int .i64 ux) ∧ w'.cell? ⟨Lu, 1, none⟩ = some (.int .i64 uy))
        (first | (refine ⟨?_, ?_, ?_, ?_⟩ <;> (refine (Below.cell (w := wr) (B := wr.heap.size) ?_ (by assumption)).trans (by assumption); (repeat (first | (with_reducible exact Below.refl _ _) | ((with_reducible refine bset ?_ ?_ _); (first | exact Nat.le_refl _ | omega | (simp; omega) | simp)) | ((with_reducible refine balloc ?_ ?_ _); (first | exact Nat.le_refl _ | omega | (simp; omega) | simp)) | (with_reducible refine Below.drew ?_) | (with_reducible refine below_step ?_ hb4) | (with_reducible refine below_step ?_ hb3))))) | go_keep)
        (first
          | (go_at_call 57; (with_reducible refine Calls.mono (KA.out _ ?_) ?_); (exact HPA.out _ (by (repeat (first | (with_reducible exact Below.refl _ _) | ((with_reducible refine bset ?_ ?_ _); (first | exact Nat.le_refl _ | omega | (simp; omega) | simp)) | ((with_reducible refine balloc ?_ ?_ _); (first | exact Nat.le_refl _ | omega | (simp; omega) | simp)) | (with_reducible refine Below.drew ?_) | (with_reducible refine below_step ?_ hb4) | (with_reducible refine below_step ?_ hb3))))); rintro e w3 ⟨gc, cc, rfl, hPa, hb3, hga⟩; have HPa := Lib.hid hPa; have hlhPa := hPa.lt na; clear hPa; (try simp at hga); have hz3 := hb3.size; (try simp at hz3); obtain ⟨hc3, hf3⟩ := bcell hb3; (try have y1 : wr.heap.size < w3.heap.size := by omega); (try have y2 : wr.heap.size + 1 < w3.heap.size := by omega); (try have y3 : wr.heap.size < w3.heap.size + 1 := by omega); (try have y4 : wr.heap.size + 1 < w3.heap.size + 1 := by omega); (try have y5 : wr.heap.size < w3.heap.size + 1 + 1 := by omega))
          | (go_at_call 57; (with_reducible refine Calls.mono (KB.out _ ?_) ?_); (exact HPB.out _ (by (repeat (first | (with_reducible exact Below.refl _ _) | ((with_reducible refine bset ?_ ?_ _); (first | exact Nat.le_refl _ | omega | (simp; omega) | simp)) | ((with_reducible refine balloc ?_ ?_ _); (first | exact Nat.le_refl _ | omega | (simp; omega) | simp)) | (with_reducible refine Below.drew ?_) | (with_reducible refine below_step ?_ hb4) | (with_reducible refine below_step ?_ hb3))))); rintro e w4 ⟨gd, cd, rfl, hPb, hb4, hgb⟩; have HPb := Lib.hid hPb; have hlhPb := hPb.lt nb; clear hPb; (try simp at hgb); have hz4 := hb4.size; (try simp at hz4); obtain ⟨hc4, hf4⟩ := bcell hb4; (try have x1 : wr.heap.size < w4.heap.size := by omega); (try have x2 : wr.heap.size + 1 < w4.heap.size := by omega); (try have x3 : wr.heap.size < w4.heap.size + 1 := by omega); (try have x4 : wr.heap.size + 1 < w4.heap.size + 1 := by omega); (try have x5 : wr.heap.size < w4.heap.size + 1 + 1 := by omega); (try have x6 : w3.heap.size < w4.heap.size := by omega); (try have x7 : w3.heap.size + 1 < w4.heap.size := by omega); (try have x8 : w3.heap.size < w4.heap.size + 1 := by omega)))
      all_goals go_wp2
      all_goals go_meet
      all_goals (refine ⟨_, _, gc, cc, gd, cd, rfl, rfl, ?_, ?_, ?_, ?_, ?_, (by omega), (by omega), (by omega), by omega⟩)
      all_goals (repeat (first
        | (with_reducible exact HPa.out)
        | (with_reducible exact HPb.out)
        | (with_reducible exact BoxAt.new _ _ _)
        | (with_reducible exact box_new2 _ _ _ _)
        | (with_reducible exact box_new4 _ _ _ _ _)
        | (with_reducible refine box_set1 ?_)
        | (with_reducible refine box_other1 ?_ (by omega))
        | (with_reducible refine box_step ?_ hb4)
        | (with_reducible refine box_step ?_ hb3)
        | (with_reducible refine BoxAt.alloc ?_ _)
        | (with_reducible refine BoxAt.drew ?_)
        | (with_reducible refine pts_set1 ?_ (by omega))
        | (with_reducible refine pts_step1 ?_ na hb4)
        | (with_reducible refine pts_step1 ?_ nb hb4)
        | (with_reducible refine pts_step1 ?_ na hb3)
        | (with_reducible refine pts_step1 ?_ nb hb3)
        | (with_reducible refine pts_alloc1 ?_ na)
        | (with_reducible refine pts_alloc1 ?_ nb)
        | (with_reducible refine pts_drew1 ?_)
        | (with_reducible exact Below.refl _ _)
        | (with_reducible refine bset ?_ ?_ _; (first | exact Nat.le_refl _ | omega | (simp; omega) | simp))
        | (with_reducible refine balloc ?_ ?_ _; (first | exact Nat.le_refl _ | omega | (simp; omega) | simp))
        | (with_reducible refine Below.drew ?_)
        | (with_reducible refine below_step ?_ hb4)
        | (with_reducible refine below_step ?_ hb3)))
    case rest =>
      obtain ⟨w7, rfl⟩ : ∃ x : World, x = wc := ⟨_, rfl⟩
      obtain ⟨Lc, Ld, gc, cc, gd, cd, rfl, rfl, qc, qd, qpc, qpd, hbw, _⟩ := hcut
      have HB7 := Lib.hid (below_step HB5.out hbw)
      have HW7 : Hid (∀ W, Below w7.heap.size w7 W → (BoxAt W La 24 #[.slice (some ⟨ga, 0, none⟩) a.n ca] ∧ BoxAt W Lb 24 #[.slice (some ⟨gb, 0, none⟩) b.n cb] ∧ BoxAt W Lc 24 #[.slice (some ⟨gc, 0, none⟩) a.n cc] ∧ BoxAt W Ld 24 #[.slice (some ⟨gd, 0, none⟩) b.n cd] ∧ BoxAt W Lp 43 #[.int .i64 px, .int .i64 py] ∧ BoxAt W Lu 43 #[.int .i64 ux, .int .i64 uy]) ∧ Pts W ga 0 a.n a.X a.Y ∧ Pts W gb 0 b.n b.X b.Y ∧ Pts W gc 0 a.n (mv a ux uy).X (mv a ux uy).Y ∧ Pts W gd 0 b.n (mv b ux uy).X (mv b ux uy).Y) := Lib.hid (fun W hW =>
        ⟨⟨box_step (box_step A5.out hbw) hW, box_step (box_step B5.out hbw) hW, box_step qc hW, box_step qd hW, box_step (box_step Pp.out hbw) hW, box_step (box_step Uu.out hbw) hW⟩, pts_step1 (pts_step1 PA5.out na hbw) na hW, pts_step1 (pts_step1 PB5.out nb hbw) nb hW, pts_step1 qpc na hW, pts_step1 qpd nb hW⟩)
      clear A5 B5 Pp Uu PA5 PB5 HB5 k0 k1 k2 k3 l1 l2 l3 HPA HPB KA KB qc qd qpc qpd hbw
      obtain ⟨wr, rfl⟩ : ∃ x : World, x = w7 := ⟨_, rfl⟩
      have q0 := HW7.out _ (Below.refl _ _)
      obtain ⟨⟨q1, q2, q3, q4, q5, q6⟩, _⟩ := q0
      have k0 : wr.cell? ⟨La, 0, none⟩ = some (.slice (some ⟨ga, 0, none⟩) a.n ca) := q1.cell 0
      have k1 : wr.cell? ⟨Lp, 0, none⟩ = some (.int .i64 px) := q5.cell 0
      have k2 : wr.cell? ⟨Lp, 1, none⟩ = some (.int .i64 py) := q5.cell 1
      have k3 : wr.cell? ⟨Lu, 0, none⟩ = some (.int .i64 ux) := q6.cell 0
      have k4 : wr.cell? ⟨Lu, 1, none⟩ = some (.int .i64 uy) := q6.cell 1
      have l1 := q1.lt
      have l2 := q5.lt
      have l3 := q6.lt
      clear q1 q2 q3 q4 q5 q6
      obtain ⟨qx, hqx⟩ : ∃ z, z = px + ux := ⟨_, rfl⟩
      obtain ⟨qy, hqy⟩ : ∃ z, z = py + uy := ⟨_, rfl⟩
      have wqx : IntKind.i64.wrap (px + ux) = qx := by rw [hqx]; exact IntWalk.i64_in _ (by omega)
      have wqy : IntKind.i64.wrap (py + uy) = qy := by rw [hqy]; exact IntWalk.i64_in _ (by omega)
      have HQX := Lib.hid hqx
      have HQY := Lib.hid hqy
      clear hqx hqy
      have GC := Lib.hid (mid_moves MA.out ux uy bux buy)
      have GD := Lib.hid (mid_moves MB.out ux uy bux buy)
      obtain ⟨tx, htx⟩ : ∃ z, z = atXF (mv a ux uy) s := ⟨_, rfl⟩
      obtain ⟨ty, hty⟩ : ∃ z, z = atYF (mv a ux uy) s := ⟨_, rfl⟩
      obtain ⟨vx, hvx⟩ : ∃ z, z = atXF a s := ⟨_, rfl⟩
      obtain ⟨vy, hvy⟩ : ∃ z, z = atYF a s := ⟨_, rfl⟩
      have hmv := mv_atX ux uy s MA.out.good GC.out
      have hbd := at_bd MA.out.good s
      have HAT : Hid (∀ W, Pts W ga 0 a.n a.X a.Y → Calls Try.prog 31 #[cv ga 0 a.n ca, .int .i64 s] W fun e w' => e = .returned (sp vx vy) ∧ Below W.heap.size W w') := Lib.hid (fun W hW => by rw [hvx, hvy]; exact at_any _ ca a s hs1 hs2 W (fun _ => ⟨ga, 0, rfl, hW⟩))
      have HAC : Hid (∀ W, Pts W gc 0 a.n (mv a ux uy).X (mv a ux uy).Y → Calls Try.prog 31 #[cv gc 0 a.n cc, .int .i64 s] W fun e w' => e = .returned (sp tx ty) ∧ Below W.heap.size W w') := Lib.hid (fun W hW => by rw [htx, hty]; exact at_any _ cc (mv a ux uy) s hs1 hs2 W (fun _ => ⟨gc, 0, rfl, hW⟩))
      rw [← htx, ← hty, ← hvx, ← hvy] at hmv
      rw [← hvx, ← hvy] at hbd
      obtain ⟨hm5, hm6⟩ := hmv
      obtain ⟨hd5, hd6⟩ := hbd
      have wtx : IntKind.i64.wrap (vx + ux) = tx := by rw [hm5]; exact IntWalk.i64_in _ (by omega)
      have wty : IntKind.i64.wrap (vy + uy) = ty := by rw [hm6]; exact IntWalk.i64_in _ (by omega)
      clear hm5 hm6 htx hty hvx hvy hd5 hd6
      go_upto_region 6 with fail
      go_cut [19, 20] from 49 to 62 (fun v v2 w' => ∃ Lq Lt, v = .pointer (some ⟨Lq, 0, none⟩) ∧ v2 = .pointer (some ⟨Lt, 0, none⟩) ∧ BoxAt w' Lq 43 #[.int .i64 qx, .int .i64 qy] ∧ BoxAt w' Lt 43 #[.int .i64 vx, .int .i64 vy] ∧ Below wr.heap.size wr w')
      case first =>
        go_region_held3 (fun w' => w'.cell? ⟨La, 0, none⟩ = some (.slice (some ⟨ga, 0, none⟩) a.n ca) ∧ w'.cell? ⟨Lp, 0, none⟩ = some (.int .i64 px) ∧ w'.cell? ⟨Lp, 1, none⟩ = some (.int .i64 py) ∧ w'.cell? ⟨Lu, 0, none⟩ = some (.int .i64 ux) ∧ w'.cell? ⟨Lu, 1, none⟩ = some (.int .i64 uy))
          (first | (refine ⟨?_, ?_, ?_, ?_, ?_⟩ <;> (refine (Below.cell (w := wr) (B := wr.heap.size) ?_ (by assumption)).trans (by assumption); (repeat (first | (with_reducible exact Below.refl _ _) | ((with_reducible refine bset ?_ ?_ _); (first | exact Nat.le_refl _ | omega | (simp; omega) | simp)) | ((with_reducible refine balloc ?_ ?_ _); (first | exact Nat.le_refl _ | omega | (simp; omega) | simp)) | (with_reducible refine Below.drew ?_) | (with_reducible refine below_step ?_ hb3))))) | go_keep)
          (first
            | (go_at_call 31; (with_reducible refine Calls.mono (HAT.out _ ?_) ?_); (exact (HW7.out _ (by (repeat (first | (with_reducible exact Below.refl _ _) | ((with_reducible refine bset ?_ ?_ _); (first | exact Nat.le_refl _ | omega | (simp; omega) | simp)) | ((with_reducible refine balloc ?_ ?_ _); (first | exact Nat.le_refl _ | omega | (simp; omega) | simp)) | (with_reducible refine Below.drew ?_) | (with_reducible refine below_step ?_ hb3))))).2.1); rintro e w3 ⟨rfl, hb3⟩; have hz3 := hb3.size; (try simp at hz3); obtain ⟨hc3, hf3⟩ := bcell hb3; (try have y1 : wr.heap.size < w3.heap.size := by omega); (try have y2 : wr.heap.size + 1 < w3.heap.size := by omega); (try have y3 : wr.heap.size < w3.heap.size + 1 := by omega); (try have y4 : wr.heap.size + 1 < w3.heap.size + 1 := by omega); (try have y5 : wr.heap.size < w3.heap.size + 1 + 1 := by omega)))
        all_goals go_wp2
        all_goals go_meet
        all_goals (refine ⟨_, _, rfl, rfl, ?_, ?_, ?_⟩)
        all_goals (repeat (first
          | (with_reducible exact BoxAt.new _ _ _)
          | (with_reducible exact box_new2 _ _ _ _)
          | (with_reducible exact box_new3 _ _ _ _ _ _ _)
          | (with_reducible refine box_set2 ?_)
          | (with_reducible refine box_other2 ?_ (by omega))
          | (with_reducible refine box_step ?_ hb3)
          | (with_reducible refine BoxAt.alloc ?_ _)
          | (with_reducible refine BoxAt.drew ?_)
          | (with_reducible exact Below.refl _ _)
          | (with_reducible refine bset ?_ ?_ _; (first | exact Nat.le_refl _ | omega | (simp; omega) | simp))
          | (with_reducible refine balloc ?_ ?_ _; (first | exact Nat.le_refl _ | omega | (simp; omega) | simp))
          | (with_reducible refine Below.drew ?_)
          | (with_reducible refine below_step ?_ hb3)))
      case rest =>
        obtain ⟨w8, rfl⟩ : ∃ x : World, x = wc := ⟨_, rfl⟩
        obtain ⟨Lq, Lt, rfl, rfl, qq, qt, hbw⟩ := hcut
        have HB8 := Lib.hid (below_step HB7.out hbw)
        have HW8 : Hid (∀ W, Below w8.heap.size w8 W → (W.cell? ⟨La, 0, none⟩ = some (.slice (some ⟨ga, 0, none⟩) a.n ca) ∧ W.cell? ⟨Lc, 0, none⟩ = some (.slice (some ⟨gc, 0, none⟩) a.n cc) ∧ W.cell? ⟨Lt, 0, none⟩ = some (.int .i64 vx) ∧ W.cell? ⟨Lt, 1, none⟩ = some (.int .i64 vy) ∧ W.cell? ⟨Lu, 0, none⟩ = some (.int .i64 ux) ∧ W.cell? ⟨Lu, 1, none⟩ = some (.int .i64 uy)) ∧ (W.cell? ⟨La, 0, none⟩ = some (.slice (some ⟨ga, 0, none⟩) a.n ca) ∧ W.cell? ⟨Lb, 0, none⟩ = some (.slice (some ⟨gb, 0, none⟩) b.n cb) ∧ W.cell? ⟨Lc, 0, none⟩ = some (.slice (some ⟨gc, 0, none⟩) a.n cc) ∧ W.cell? ⟨Ld, 0, none⟩ = some (.slice (some ⟨gd, 0, none⟩) b.n cd) ∧ W.cell? ⟨Lp, 0, none⟩ = some (.int .i64 px) ∧ W.cell? ⟨Lp, 1, none⟩ = some (.int .i64 py) ∧ W.cell? ⟨Lq, 0, none⟩ = some (.int .i64 qx) ∧ W.cell? ⟨Lq, 1, none⟩ = some (.int .i64 qy)) ∧ Pts W ga 0 a.n a.X a.Y ∧ Pts W gb 0 b.n b.X b.Y ∧ Pts W gc 0 a.n (mv a ux uy).X (mv a ux uy).Y ∧ Pts W gd 0 b.n (mv b ux uy).X (mv b ux uy).Y) := Lib.hid (fun W hW => by
          obtain ⟨⟨y1, y2, y3, y4, y5, y6⟩, y7⟩ := HW7.out _ (below_step hbw hW)
          exact ⟨⟨y1.cell 0, y3.cell 0, (box_step qt hW).cell 0, (box_step qt hW).cell 1, y6.cell 0, y6.cell 1⟩, ⟨y1.cell 0, y2.cell 0, y3.cell 0, y4.cell 0, y5.cell 0, y5.cell 1, (box_step qq hW).cell 0, (box_step qq hW).cell 1⟩, y7⟩)
        have GA := Lib.hid MA.out.good
        have GB := Lib.hid MB.out.good
        have okpq : (okc px ∧ okc py) ∧ okc (px + ux) ∧ okc (py + uy) := by unfold okc; omega
        have hln := mv_lenF ux uy GA.out GC.out
        have hnr := mv_nearF ux uy px py ha GA.out GC.out okpq.1.1 okpq.1.2 okpq.2.1 okpq.2.2
        have hho := mv_holdF ux uy px py ha GA.out GC.out okpq.1.1 okpq.1.2 okpq.2.1 okpq.2.2
        have hcr := mv_crsF ux uy ha hb GA.out GB.out GC.out GD.out
        rw [← HQX.out, ← HQY.out] at hnr hho
        obtain ⟨N, hN⟩ : ∃ z, z = lenF a := ⟨_, rfl⟩
        obtain ⟨NL, hNL⟩ : ∃ z, z = nearF a px py ha := ⟨_, rfl⟩
        obtain ⟨HV, hHV⟩ : ∃ z, z = holdF a px py ha := ⟨_, rfl⟩
        obtain ⟨CL, hCL⟩ : ∃ z, z = crsF a b ha hb := ⟨_, rfl⟩
        rw [← hN] at hln
        rw [← hNL] at hnr
        rw [← hHV] at hho
        rw [← hCL] at hcr
        have nlen : NL.length ≤ 16 := by rw [hNL]; exact nearF_len a px py ha
        have clen : CL.length ≤ 1000000 := by rw [hCL]; exact crsF_len2 a b ha hb
        have hN0 : ¬ N ≤ 0 := by rw [hN]; have := len_pos GA.out; omega
        have hNb : decide (N ≤ 0) = false := decide_eq_false hN0
        have SA : Hid (∀ W, Below w8.heap.size w8 W → Spots W (some ⟨ga, 0, none⟩) a.n a.X a.Y) := Lib.hid (fun W hW => fun _ => ⟨ga, 0, rfl, (HW8.out W hW).2.2.1⟩)
        have SB : Hid (∀ W, Below w8.heap.size w8 W → Spots W (some ⟨gb, 0, none⟩) b.n b.X b.Y) := Lib.hid (fun W hW => fun _ => ⟨gb, 0, rfl, (HW8.out W hW).2.2.2.1⟩)
        have SC : Hid (∀ W, Below w8.heap.size w8 W → Spots W (some ⟨gc, 0, none⟩) (mv a ux uy).n (mv a ux uy).X (mv a ux uy).Y) := Lib.hid (fun W hW => fun _ => ⟨gc, 0, rfl, (HW8.out W hW).2.2.2.2.1⟩)
        have SD : Hid (∀ W, Below w8.heap.size w8 W → Spots W (some ⟨gd, 0, none⟩) (mv b ux uy).n (mv b ux uy).X (mv b ux uy).Y) := Lib.hid (fun W hW => fun _ => ⟨gd, 0, rfl, (HW8.out W hW).2.2.2.2.2⟩)
        have C1 : Hid (∀ W, Below w8.heap.size w8 W → Calls Try.prog 22 #[cv ga 0 a.n ca] W fun e w' => e = .returned (.int .i64 N) ∧ Below W.heap.size W w') := Lib.hid (fun W hW => by rw [hN]; exact len_any _ ca a W (SA.out W hW))
        have C2 : Hid (∀ W, Below w8.heap.size w8 W → Calls Try.prog 22 #[cv gc 0 a.n cc] W fun e w' => e = .returned (.int .i64 N) ∧ Below W.heap.size W w') := Lib.hid (fun W hW => by rw [← hln]; exact len_any _ cc (mv a ux uy) W (SC.out W hW))
        have C3 : Hid (∀ W, Below w8.heap.size w8 W → Calls Try.prog 33 #[cv ga 0 a.n ca, sp px py, .int .i64 ha] W (NearPost NL W)) := Lib.hid (fun W hW => by rw [hNL]; exact near_any _ ca a px py ha W (SA.out W hW))
        have C4 : Hid (∀ W, Below w8.heap.size w8 W → Calls Try.prog 33 #[cv gc 0 a.n cc, sp qx qy, .int .i64 ha] W (NearPost NL W)) := Lib.hid (fun W hW => by rw [← hnr]; exact near_any _ cc (mv a ux uy) qx qy ha W (SC.out W hW))
        have C5 : Hid (∀ W, Below w8.heap.size w8 W → Calls Try.prog 35 #[cv ga 0 a.n ca, .int .i64 ha, sp px py] W fun e w' => e = .returned (.bool HV) ∧ Below W.heap.size W w') := Lib.hid (fun W hW => by rw [hHV]; exact holds_any _ ca a px py ha W (SA.out W hW))
        have C6 : Hid (∀ W, Below w8.heap.size w8 W → Calls Try.prog 35 #[cv gc 0 a.n cc, .int .i64 ha, sp qx qy] W fun e w' => e = .returned (.bool HV) ∧ Below W.heap.size W w') := Lib.hid (fun W hW => by rw [← hho]; exact holds_any _ cc (mv a ux uy) qx qy ha W (SC.out W hW))
        have C7 : Hid (∀ W, Below w8.heap.size w8 W → Calls Try.prog 46 #[cv ga 0 a.n ca, .int .i64 ha, cv gb 0 b.n cb, .int .i64 hb] W (CrsPost CL W)) := Lib.hid (fun W hW => by rw [hCL]; exact crs_any _ _ ca cb a b ha hb W (SA.out W hW) (SB.out W hW))
        have C8 : Hid (∀ W, Below w8.heap.size w8 W → Calls Try.prog 46 #[cv gc 0 a.n cc, .int .i64 ha, cv gd 0 b.n cd, .int .i64 hb] W (CrsPost CL W)) := Lib.hid (fun W hW => by rw [← hcr]; exact crs_any _ _ cc cd (mv a ux uy) (mv b ux uy) ha hb W (SC.out W hW) (SD.out W hW))
        have C9 : Hid (∀ W, Below w8.heap.size w8 W → Calls Try.prog 31 #[cv gc 0 a.n cc, .int .i64 s] W fun e w' => e = .returned (sp tx ty) ∧ Below W.heap.size W w') := Lib.hid (fun W hW => HAC.out W (HW8.out W hW).2.2.2.2.1)
        clear hln hnr hho hcr hN hNL hHV hCL SA SB SC SD HAT HAC HQX HQY MA MB GA GB GC GD okpq qq qt hbw k0 k1 k2 k3 k4 l1 l2 l3 HW7 HB7 wqx wqy na nb hm1 hm2 hm3 hm4 bux buy bpx bpy
        go_upto_region 7 with fail
        have hBx : Below w8.heap.size w8 w8.drew := (Below.refl _ _).drew
        go_region_held3 (fun w' => w'.cell? ⟨La, 0, none⟩ = some (.slice (some ⟨ga, 0, none⟩) a.n ca) ∧ w'.cell? ⟨Lc, 0, none⟩ = some (.slice (some ⟨gc, 0, none⟩) a.n cc) ∧ w'.cell? ⟨Lt, 0, none⟩ = some (.int .i64 vx) ∧ w'.cell? ⟨Lt, 1, none⟩ = some (.int .i64 vy) ∧ w'.cell? ⟨Lu, 0, none⟩ = some (.int .i64 ux) ∧ w'.cell? ⟨Lu, 1, none⟩ = some (.int .i64 uy))
          (first | exact (HW8.out _ hBx).1 | go_keep)
          (first
            | (go_at_call 22; (with_reducible refine (C1.out _ hBx).mono ?_); rintro e wa ⟨rfl, hba⟩; replace hBx := below_step hBx hba)
            | (go_at_call 22; (with_reducible refine (C2.out _ hBx).mono ?_); rintro e wb ⟨rfl, hbb⟩; replace hBx := below_step hBx hbb)
            | (go_at_call 31; (with_reducible refine (C9.out _ hBx).mono ?_); rintro e wd ⟨rfl, hbd⟩; replace hBx := below_step hBx hbd))
        have HX9 := Lib.hid hBx
        clear hBx hba hbb hbd C1 C2 C9 wtx wty
        go_upto_region 9 with fail
        have hBx := HX9.out.drew
        go_region_held3 (fun w' => w'.cell? ⟨La, 0, none⟩ = some (.slice (some ⟨ga, 0, none⟩) a.n ca) ∧ w'.cell? ⟨Lb, 0, none⟩ = some (.slice (some ⟨gb, 0, none⟩) b.n cb) ∧ w'.cell? ⟨Lc, 0, none⟩ = some (.slice (some ⟨gc, 0, none⟩) a.n cc) ∧ w'.cell? ⟨Ld, 0, none⟩ = some (.slice (some ⟨gd, 0, none⟩) b.n cd) ∧ w'.cell? ⟨Lp, 0, none⟩ = some (.int .i64 px) ∧ w'.cell? ⟨Lp, 1, none⟩ = some (.int .i64 py) ∧ w'.cell? ⟨Lq, 0, none⟩ = some (.int .i64 qx) ∧ w'.cell? ⟨Lq, 1, none⟩ = some (.int .i64 qy))
          (first | exact (HW8.out _ hBx).2.1 | go_keep)
          (first
            | (go_at_call 33; (with_reducible refine (C3.out _ hBx).mono ?_); rintro e wa ⟨P1, cp1, rfl, hl1, hba⟩; have HL1 := Lib.hid hl1; clear hl1; replace hBx := below_step hBx hba)
            | (go_at_call 33; (with_reducible refine (C4.out _ hBx).mono ?_); rintro e wb ⟨P2, cp2, rfl, hl2, hbb⟩; have HL2 := Lib.hid hl2; clear hl2; replace HL1 := Lib.hid (HL1.out.below hbb); replace hBx := below_step hBx hbb)
            | (go_at_call 24; (with_reducible refine (same_longs_any P1 P2 NL.length cp1 cp2 (fun i => NL.getD i 0) nlen _ HL1.out HL2.out).mono ?_); rintro e wd2 ⟨rfl, hbd⟩; replace hBx := below_step hBx hbd)
            | (go_at_call 35; (with_reducible refine (C5.out _ hBx).mono ?_); rintro e we ⟨rfl, hbe⟩; replace hBx := below_step hBx hbe)
            | (go_at_call 35; (with_reducible refine (C6.out _ hBx).mono ?_); rintro e wf ⟨rfl, hbf⟩; replace hBx := below_step hBx hbf)
            | (go_at_call 46; (with_reducible refine (C7.out _ hBx).mono ?_); rintro e wg ⟨v1, rfl, hO1, hbg⟩; obtain ⟨R1, cq1, rfl, hq1⟩ := qs_of_own hO1; clear hO1; have HQ1 := Lib.hid hq1; clear hq1; replace hBx := below_step hBx hbg)
            | (go_at_call 46; (with_reducible refine (C8.out _ hBx).mono ?_); rintro e wh ⟨v2, rfl, hO2, hbh⟩; obtain ⟨R2, cq2, rfl, hq2⟩ := qs_of_own hO2; clear hO2; have HQ2 := Lib.hid hq2; clear hq2; replace HQ1 := Lib.hid (HQ1.out.below hbh); replace hBx := below_step hBx hbh)
            | (go_at_call 45; (with_reducible refine (same_crs R1 R2 cq1 cq2 CL _ clen HQ1.out HQ2.out).mono ?_); rintro e wi ⟨rfl, hbi⟩; replace hBx := below_step hBx hbi)
            | (go_at_call 18; (with_reducible refine (awake_any _).mono ?_); rintro e wj ⟨rfl, hbj⟩; replace hBx := below_step hBx hbj))
        all_goals go_wp2
        all_goals go_ret
        all_goals exact ⟨rfl, below_step HB8.out hBx⟩
end Go.Proofs.Ytglkpabcflecmaa
