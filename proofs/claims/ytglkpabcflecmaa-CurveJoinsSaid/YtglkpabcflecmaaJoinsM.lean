/- The walk of the law CurveJoins, at curves of at most 20 points. -/
import Derived.Test.YtglkpabcflecmaaJoinsL
namespace Go.Proofs.Ytglkpabcflecmaa
open Go.RowKit Go.Shelf

set_option maxRecDepth 100000 in
set_option maxHeartbeats 16000000 in
theorem joins_short (A1 A2 : Option Addr) (c1 c2 : Nat) (a b : Crv) (x1 y1 : Int) (B1 : Option Addr) (m1 bc1 : Nat) (S1 : Nat → Int) (x2 y2 : Int) (B2 : Option Addr) (m2 bc2 : Nat) (S2 : Nat → Int) (w : World)
    (han : a.n ≤ 20) (hbn : b.n ≤ 20) (hac : a.n ≤ c1) (hbc : b.n ≤ c2) (ha : Spots w A1 a.n a.X a.Y) (hb : Spots w A2 b.n b.X b.Y) (hS1 : Stps w B1 m1 S1) (hS2 : Stps w B2 m2 S2) :
    Calls Try.prog 8 #[.agg #[.slice A1 a.n c1], .agg #[.slice A2 b.n c2], chv x1 y1 B1 m1 bc1, chv x2 y2 B2 m2 bc2] w fun e w' => e = .returned (.bool true) ∧ Below w.heap.size w w' := by
  obtain ⟨c, mc, kc⟩ := kit_row x1 y1 B1 m1 bc1 S1
  obtain ⟨d, md, kd⟩ := kit_row x2 y2 B2 m2 bc2 S2
  have hB : Below w.heap.size w ((((w.alloc (.cells #[.slice A1 a.n c1] 24)).alloc (.cells #[.slice A2 b.n c2] 24)).alloc (.cells #[.int .i64 x1, .int .i64 y1, .slice B1 m1 bc1] 37)).alloc (.cells #[.int .i64 x2, .int .i64 y2, .slice B2 m2 bc2] 37)) := ((((Below.refl _ w).alloc (Nat.le_refl _) _).alloc (by simp) _).alloc (by simp; omega) _).alloc (by simp; omega) _
  have f0 := (((BoxAt.new w 24 #[.slice A1 a.n c1]).alloc (.cells #[.slice A2 b.n c2] 24)).alloc (.cells #[.int .i64 x1, .int .i64 y1, .slice B1 m1 bc1] 37)).alloc (.cells #[.int .i64 x2, .int .i64 y2, .slice B2 m2 bc2] 37)
  have f1 := ((BoxAt.new (w.alloc (.cells #[.slice A1 a.n c1] 24)) 24 #[.slice A2 b.n c2]).alloc (.cells #[.int .i64 x1, .int .i64 y1, .slice B1 m1 bc1] 37)).alloc (.cells #[.int .i64 x2, .int .i64 y2, .slice B2 m2 bc2] 37)
  have f2 := (BoxAt.new ((w.alloc (.cells #[.slice A1 a.n c1] 24)).alloc (.cells #[.slice A2 b.n c2] 24)) 37 #[.int .i64 x1, .int .i64 y1, .slice B1 m1 bc1]).alloc (.cells #[.int .i64 x2, .int .i64 y2, .slice B2 m2 bc2] 37)
  have f3 := BoxAt.new (((w.alloc (.cells #[.slice A1 a.n c1] 24)).alloc (.cells #[.slice A2 b.n c2] 24)).alloc (.cells #[.int .i64 x1, .int .i64 y1, .slice B1 m1 bc1] 37)) 37 #[.int .i64 x2, .int .i64 y2, .slice B2 m2 bc2]
  rw [World.size_alloc] at f1
  rw [World.size_alloc, World.size_alloc] at f2
  rw [World.size_alloc, World.size_alloc, World.size_alloc] at f3
  have hl := long_any A1 a.n c1
  rw [decide_eq_false (by omega : ¬ 20 < a.n)] at hl
  have HL := Lib.hid hl
  have hl2 := long_any A2 b.n c2
  rw [decide_eq_false (by omega : ¬ 20 < b.n)] at hl2
  have HL2 := Lib.hid hl2
  have HA := Lib.hid (ha.below hB)
  have HB := Lib.hid (hb.below hB)
  have HS1 := Lib.hid (hS1.below hB)
  have HS2 := Lib.hid (hS2.below hB)
  have KC := Lib.hid kc
  have KD := Lib.hid kd
  have MC := Lib.hid mc
  have MD := Lib.hid md
  have nc : 0 < c.n := by have := mc.good.lo; omega
  have nd : 0 < d.n := by have := md.good.lo; omega
  clear kc kd mc md ha hb hS1 hS2 hl hl2
  go_enter Try.func8, Try.ntmps8
  go_upto_region 1 with fail
  generalize (((w.alloc (.cells #[.slice A1 a.n c1] 24)).alloc (.cells #[.slice A2 b.n c2] 24)).alloc (.cells #[.int .i64 x1, .int .i64 y1, .slice B1 m1 bc1] 37)).alloc (.cells #[.int .i64 x2, .int .i64 y2, .slice B2 m2 bc2] 37) = w0 at *
  have g0 : w0.cell? ⟨w.heap.size, 0, none⟩ = some (.slice A1 a.n c1) := f0.cell 0
  have H0 := Lib.hid hB
  have HG : Hid (∀ W, Below w0.heap.size w0 W → BoxAt W w.heap.size 24 #[.slice A1 a.n c1] ∧ BoxAt W (w.heap.size + 1) 24 #[.slice A2 b.n c2] ∧ BoxAt W (w.heap.size + 1 + 1) 37 #[.int .i64 x1, .int .i64 y1, .slice B1 m1 bc1] ∧ BoxAt W (w.heap.size + 1 + 1 + 1) 37 #[.int .i64 x2, .int .i64 y2, .slice B2 m2 bc2] ∧ Spots W A1 a.n a.X a.Y ∧ Spots W A2 b.n b.X b.Y ∧ Stps W B1 m1 S1 ∧ Stps W B2 m2 S2) :=
    fun W hW => ⟨box_step f0 hW, box_step f1 hW, box_step f2 hW, box_step f3 hW, HA.out.below hW, HB.out.below hW, HS1.out.below hW, HS2.out.below hW⟩
  have hlt := f3.lt
  have hx : Below w0.heap.size w0 w0 := Below.refl _ _
  clear f0 f1 f2 f3 hB HA HB HS1 HS2
  go_upto_region 3 with (first
    | (go_at_call 17; (with_reducible refine (HL.out _).mono ?_); rintro e w1 ⟨rfl, hb1⟩; replace hx := below_step hx hb1; have k1 : w1.cell? ⟨w.heap.size + 1, 0, none⟩ = some (.slice A2 b.n c2) := (HG.out _ hx).2.1.cell 0)
    | (go_at_call 17; (with_reducible refine (HL2.out _).mono ?_); rintro e wr ⟨rfl, hb3⟩; replace hx := below_step hx hb3))
  have hz0 := hx.size
  obtain ⟨q1, q2, q3, q4, _⟩ := HG.out _ hx
  have k1 : wr.cell? ⟨w.heap.size + 1 + 1, 0, none⟩ = some (.int .i64 x1) := q3.cell 0
  have k2 : wr.cell? ⟨w.heap.size + 1 + 1, 1, none⟩ = some (.int .i64 y1) := q3.cell 1
  have k3 : wr.cell? ⟨w.heap.size + 1 + 1, 2, none⟩ = some (.slice B1 m1 bc1) := q3.cell 2
  have k4 : wr.cell? ⟨w.heap.size + 1 + 1 + 1, 0, none⟩ = some (.int .i64 x2) := q4.cell 0
  have k5 : wr.cell? ⟨w.heap.size + 1 + 1 + 1, 1, none⟩ = some (.int .i64 y2) := q4.cell 1
  have k6 : wr.cell? ⟨w.heap.size + 1 + 1 + 1, 2, none⟩ = some (.slice B2 m2 bc2) := q4.cell 2
  have l1 := q3.lt
  have l2 := q4.lt
  have HX := Lib.hid hx
  clear q1 q2 q3 q4 hx hb1 hb3 k1 g0
  have k1 : wr.cell? ⟨w.heap.size + 1 + 1, 0, none⟩ = some (.int .i64 x1) := (HG.out _ HX.out).2.2.1.cell 0
  go_cut [9, 10] from 31 to 34 (fun v v2 w' => ∃ Lc Ld gc cc gd cd, v = .pointer (some ⟨Lc, 0, none⟩) ∧ v2 = .pointer (some ⟨Ld, 0, none⟩) ∧ BoxAt w' Lc 24 #[.slice (some ⟨gc, 0, none⟩) c.n cc] ∧ BoxAt w' Ld 24 #[.slice (some ⟨gd, 0, none⟩) d.n cd] ∧ RowAt w' gc c.n c.X c.Y ∧ RowAt w' gd d.n d.X d.Y ∧ (Below wr.heap.size wr w' ∧ (Lc ≠ Ld ∧ gc ≠ gd ∧ wr.heap.size ≤ Ld ∧ wr.heap.size ≤ gd ∧ c.n ≤ cc ∧ d.n ≤ cd)))
  case first =>
    go_region_held3 (fun w' => w'.cell? ⟨w.heap.size + 1 + 1, 0, none⟩ = some (.int .i64 x1) ∧ w'.cell? ⟨w.heap.size + 1 + 1, 1, none⟩ = some (.int .i64 y1) ∧ w'.cell? ⟨w.heap.size + 1 + 1, 2, none⟩ = some (.slice B1 m1 bc1) ∧ w'.cell? ⟨w.heap.size + 1 + 1 + 1, 0, none⟩ = some (.int .i64 x2) ∧ w'.cell? ⟨w.heap.size + 1 + 1 + 1, 1, none⟩ = some (.int .i64 y2) ∧ w'.cell? ⟨w.heap.size + 1 + 1 + 1, 2, none⟩ = some (.slice B2 m2 bc2))
      (first | (refine ⟨?_, ?_, ?_, ?_, ?_, ?_⟩ <;> (refine (Below.cell (w := wr) (B := wr.heap.size) ?_ (by assumption)).trans (by assumption); (repeat (first | (with_reducible exact Below.refl _ _) | ((with_reducible refine bset ?_ ?_ _); (first | exact Nat.le_refl _ | omega | (simp; omega) | simp)) | ((with_reducible refine balloc ?_ ?_ _); (first | exact Nat.le_refl _ | omega | (simp; omega) | simp)) | (with_reducible refine Below.drew ?_) | (with_reducible refine below_step ?_ hb4) | (with_reducible refine below_step ?_ hb3))))) | go_keep)
      (first
        | (go_at_call 28; (with_reducible refine Calls.mono (KC.out _ ?_) ?_); (refine (HG.out _ (below_step HX.out ?_)).2.2.2.2.2.2.1; (repeat (first | (with_reducible exact Below.refl _ _) | ((with_reducible refine bset ?_ ?_ _); (first | exact Nat.le_refl _ | omega | (simp; omega) | simp)) | ((with_reducible refine balloc ?_ ?_ _); (first | exact Nat.le_refl _ | omega | (simp; omega) | simp)) | (with_reducible refine Below.drew ?_) | (with_reducible refine below_step ?_ hb4) | (with_reducible refine below_step ?_ hb3)))); rintro e w3 ⟨gc, cc, rfl, hPc, hb3, hgc, hcc⟩; have HPc := Lib.hid hPc; have hlc := hPc.lt; clear hPc; (try simp at hgc); have hz3 := hb3.size; (try simp at hz3); obtain ⟨hc3, hf3⟩ := bcell hb3; (try have y1 : wr.heap.size < w3.heap.size := by omega); (try have y2 : wr.heap.size + 1 < w3.heap.size := by omega); (try have y3 : wr.heap.size < w3.heap.size + 1 := by omega); (try have y4 : wr.heap.size + 1 < w3.heap.size + 1 := by omega); (try have y5 : wr.heap.size < w3.heap.size + 1 + 1 := by omega))
        | (go_at_call 28; (with_reducible refine Calls.mono (KD.out _ ?_) ?_); (refine (HG.out _ (below_step HX.out ?_)).2.2.2.2.2.2.2; (repeat (first | (with_reducible exact Below.refl _ _) | ((with_reducible refine bset ?_ ?_ _); (first | exact Nat.le_refl _ | omega | (simp; omega) | simp)) | ((with_reducible refine balloc ?_ ?_ _); (first | exact Nat.le_refl _ | omega | (simp; omega) | simp)) | (with_reducible refine Below.drew ?_) | (with_reducible refine below_step ?_ hb4) | (with_reducible refine below_step ?_ hb3)))); rintro e w4 ⟨gd, cd, rfl, hPd, hb4, hgd, hcd⟩; have HPd := Lib.hid hPd; have hld := hPd.lt; clear hPd; (try simp at hgd); have hz4 := hb4.size; (try simp at hz4); obtain ⟨hc4, hf4⟩ := bcell hb4; (try have x1 : wr.heap.size < w4.heap.size := by omega); (try have x2 : wr.heap.size + 1 < w4.heap.size := by omega); (try have x3 : wr.heap.size < w4.heap.size + 1 := by omega); (try have x4 : wr.heap.size + 1 < w4.heap.size + 1 := by omega); (try have x5 : wr.heap.size < w4.heap.size + 1 + 1 := by omega); (try have x6 : w3.heap.size < w4.heap.size := by omega); (try have x7 : w3.heap.size + 1 < w4.heap.size := by omega); (try have x8 : w3.heap.size < w4.heap.size + 1 := by omega)))
    all_goals go_wp2
    all_goals go_meet
    all_goals (refine ⟨_, _, gc, cc, gd, cd, rfl, rfl, ?_, ?_, ?_, ?_, ?_, (by omega), (by omega), (by omega), (by omega), hcc, hcd⟩)
    all_goals (repeat (first
      | (with_reducible exact HPc.out)
      | (with_reducible exact HPd.out)
      | (with_reducible exact BoxAt.new _ _ _)
      | (with_reducible exact box_new2 _ _ _ _)
      | (with_reducible exact box_new4 _ _ _ _ _)
      | (with_reducible refine box_set1 ?_)
      | (with_reducible refine box_other1 ?_ (by omega))
      | (with_reducible refine box_step ?_ hb4)
      | (with_reducible refine box_step ?_ hb3)
      | (with_reducible refine BoxAt.alloc ?_ _)
      | (with_reducible refine BoxAt.drew ?_)
      | (with_reducible refine RowAt.other ?_ (by omega) _ _)
      | (with_reducible refine RowAt.below ?_ hb4)
      | (with_reducible refine RowAt.below ?_ hb3)
      | (with_reducible refine row_alloc1 ?_)
      | (with_reducible refine row_drew1 ?_)
      | (with_reducible exact Below.refl _ _)
      | (with_reducible refine bset ?_ ?_ _; (first | exact Nat.le_refl _ | omega | (simp; omega) | simp))
      | (with_reducible refine balloc ?_ ?_ _; (first | exact Nat.le_refl _ | omega | (simp; omega) | simp))
      | (with_reducible refine Below.drew ?_)
      | (with_reducible refine below_step ?_ hb4)
      | (with_reducible refine below_step ?_ hb3)))
  case rest =>
    obtain ⟨wd, rfl⟩ : ∃ x : World, x = wc := ⟨_, rfl⟩
    obtain ⟨Lc, Ld, gc, cc, gd, cd, rfl, rfl, bc, bd, rc, rd, hbw, hLL, hgg, hLd, hgd, hcc, hcd⟩ := hcut
    have HD0 := Lib.hid (below_step HX.out hbw)
    have HX0 := Lib.hid HX.out.size
    have nc2 := MC.out.good.lo
    have nd2 := MD.out.good.lo
    have nc6 := MC.out.few
    have nd6 := MD.out.few
    obtain ⟨ax1, ax2⟩ := MC.out.bx (c.n - 1) (by omega)
    obtain ⟨ay1, ay2⟩ := MC.out.bY (c.n - 1) (by omega)
    obtain ⟨bx1, bx2⟩ := MD.out.bx 0 (by omega)
    obtain ⟨by1, by2⟩ := MD.out.bY 0 (by omega)
    obtain ⟨xa, ya⟩ := rc.pts (c.n - 1) (by omega)
    obtain ⟨xb, yb⟩ := rd.pts 0 (by omega)
    rw [Nat.zero_mul, Nat.add_zero] at xb yb
    rw [Nat.zero_add] at xa ya
    obtain ⟨ex, hex⟩ : ∃ z, z = c.X (c.n - 1) := ⟨_, rfl⟩
    obtain ⟨ey, hey⟩ : ∃ z, z = c.Y (c.n - 1) := ⟨_, rfl⟩
    obtain ⟨bx, hbx⟩ : ∃ z, z = d.X 0 := ⟨_, rfl⟩
    obtain ⟨by_, hby⟩ : ∃ z, z = d.Y 0 := ⟨_, rfl⟩
    rw [← hex] at xa ax1 ax2
    rw [← hey] at ya ay1 ay2
    rw [← hbx] at xb bx1 bx2
    rw [← hby] at yb by1 by2
    have yb2 : wd.cell? ⟨gd, 1, none⟩ = some (.int .i64 by_) := yb
    clear yb
    have oe1 : okc ex := by unfold okc; omega
    have oe2 : okc ey := by unfold okc; omega
    have ob1 : okc bx := by unfold okc; omega
    have ob2 : okc by_ := by unfold okc; omega
    have j2 : (0 : Int) ≤ (c.n : Int) - 1 := by omega
    have j3 : (c.n : Int) - 1 < (c.n : Int) := by omega
    have j4 : IntKind.i64.wrap ((c.n : Int) - 1) = (c.n : Int) - 1 := IntWalk.i64_in _ (by omega)
    have j5 : ((c.n : Int) - 1).toNat = c.n - 1 := by omega
    have j6 : (1 : Int) ≤ (c.n : Int) := by omega
    have j9 : 1 ≤ c.n := by omega
    have j10 : c.n - 1 < c.n := by omega
    have j11 : (0 : Int) < (d.n : Int) := by omega
    have a0 : wd.cell? ⟨Lc, 0, none⟩ = some (.slice (some ⟨gc, 0, none⟩) c.n cc) := bc.cell 0
    have b0 : wd.cell? ⟨Ld, 0, none⟩ = some (.slice (some ⟨gd, 0, none⟩) d.n cd) := bd.cell 0
    have lc := bc.lt
    have ld := bd.lt
    have lgc := rc.lt
    have lgd := rd.lt
    clear hex hey hbx hby ax1 ax2 ay1 ay2 bx1 bx2 by1 by2 HL HL2 KC KD k1 k2 k3 k4 k5 k6 l1 l2 HX hbw
    have BC := Lib.hid bc
    have BD := Lib.hid bd
    have RC := Lib.hid rc
    have RD := Lib.hid rd
    have OE1 := Lib.hid oe1
    have OE2 := Lib.hid oe2
    have OB1 := Lib.hid ob1
    have OB2 := Lib.hid ob2
    clear bc bd rc rd oe1 oe2 ob1 ob2
    go_upto_region 4 with fail
    go_cut [11] from 35 to 47 (fun v w' => ∃ L p q, v = .pointer (some ⟨L, 0, none⟩) ∧ wd.heap.size ≤ L ∧ BoxAt w' L 43 #[.int .i64 p, .int .i64 q] ∧ Below wd.heap.size wd w')
    case first =>
      go_region_held3 (fun w' => w'.cell? ⟨Lc, 0, none⟩ = some (.slice (some ⟨gc, 0, none⟩) c.n cc) ∧ w'.cell? ⟨Ld, 0, none⟩ = some (.slice (some ⟨gd, 0, none⟩) d.n cd) ∧ w'.cell? ⟨gc, (c.n - 1) * 2, none⟩ = some (.int .i64 ex) ∧ w'.cell? ⟨gc, (c.n - 1) * 2 + 1, none⟩ = some (.int .i64 ey) ∧
            w'.cell? ⟨gd, 0, none⟩ = some (.int .i64 bx) ∧ w'.cell? ⟨gd, 1, none⟩ = some (.int .i64 by_))
          (first | go_keep | (refine ⟨?_, ?_, ?_, ?_, ?_, ?_⟩ <;> (refine (Below.cell (w := wd) (B := wd.heap.size) ?_ (by assumption)).trans (by assumption); (repeat (first | (with_reducible exact hb1) | (with_reducible exact Below.refl _ _) | ((with_reducible refine bset ?_ ?_ _); (first | exact Nat.le_refl _ | omega | (simp; omega) | simp)) | ((with_reducible refine balloc ?_ ?_ _); (first | exact Nat.le_refl _ | omega | (simp; omega) | simp)) | (with_reducible refine Below.drew ?_) | (with_reducible refine below_step ?_ hb1))))))
          (first | (go_at_call 48; (with_reducible refine (rminus_any _ _ _ _ _ OE1.out OE2.out OB1.out OB2.out).mono ?_); rintro e w1 ⟨rfl, hb1⟩; have hz1 : wd.heap.size ≤ w1.heap.size := (by have := hb1.size; simp at this; omega); obtain ⟨hc1, hf1⟩ := bcell hb1))
      all_goals go_wp2
      all_goals go_meet
      all_goals (refine ⟨_, ex - bx, ey - by_, rfl, (by omega), ?_, ?_⟩)
      all_goals (repeat (first
        | (with_reducible exact BoxAt.new _ _ _)
        | (with_reducible refine box_set2 ?_)
        | (with_reducible refine box_step ?_ hb1)
        | (with_reducible refine BoxAt.drew ?_)
        | (with_reducible exact Below.refl _ _)
        | (with_reducible refine bset ?_ ?_ _; (first | exact Nat.le_refl _ | omega | (simp; omega) | simp))
        | (with_reducible refine balloc ?_ ?_ _; (first | exact Nat.le_refl _ | omega | (simp; omega) | simp))
        | (with_reducible refine Below.drew ?_)
        | (with_reducible refine below_step ?_ hb1)))
    case rest =>
      obtain ⟨we, rfl⟩ : ∃ x : World, x = wc := ⟨_, rfl⟩
      obtain ⟨Lt, p, q, rfl, hLt, bt, hbe⟩ := hcut
      have I : ∃ k : Nat, k ≤ d.n ∧ (Value.int .i64 0) = .int .i64 k ∧ Hid (∃ X' Y', RowAt we gd d.n X' Y') ∧ Hid (BoxAt we Ld 24 #[.slice (some ⟨gd, 0, none⟩) d.n cd]) ∧ Hid (BoxAt we Lt 43 #[.int .i64 p, .int .i64 q]) ∧ Hid (BoxAt we Lc 24 #[.slice (some ⟨gc, 0, none⟩) c.n cc]) ∧ Hid (RowAt we gc c.n c.X c.Y) ∧ Hid (Below w0.heap.size w0 we) :=
        ⟨0, Nat.zero_le _, rfl, Lib.hid ⟨_, _, RD.out.below hbe⟩, Lib.hid (box_step BD.out hbe), Lib.hid bt, Lib.hid (box_step BC.out hbe), Lib.hid (RC.out.below hbe), Lib.hid (below_step HD0.out hbe)⟩
      have hw0 := HD0.out.size
      have hz0' := HX0.out
      have n1 : gd ≠ Lt := by omega
      have n2 : gd ≠ Ld := RD.out.ne_box BD.out (by decide)
      have n3 : gd ≠ Lc := RD.out.ne_box BC.out (by decide)
      have n4 : w0.heap.size ≤ gd := by omega
      clear BC BD RC RD HD0 hbe bt a0 b0 lc ld lgc lgd xa ya xb yb2 j2 j3 j4 j5 OE1 OE2 OB1 OB2 hw0
      go_wp2
      go_loopw [12] (fun i wr => ∃ k : Nat, k ≤ d.n ∧ i = .int .i64 k ∧ Hid (∃ X' Y', RowAt wr gd d.n X' Y') ∧ Hid (BoxAt wr Ld 24 #[.slice (some ⟨gd, 0, none⟩) d.n cd]) ∧ Hid (BoxAt wr Lt 43 #[.int .i64 p, .int .i64 q]) ∧ Hid (BoxAt wr Lc 24 #[.slice (some ⟨gc, 0, none⟩) c.n cc]) ∧ Hid (RowAt wr gc c.n c.X c.Y) ∧ Hid (Below w0.heap.size w0 wr)) (fun i _ => 7 - (intOf i).toNat)
      case atStart => exact I
      case round =>
        clear I
        obtain ⟨k, hk, rfl, R1, R2, R3, R4, R5, R6⟩ := hrel
        have r0 : wr.cell? ⟨Ld, 0, none⟩ = some (.slice (some ⟨gd, 0, none⟩) d.n cd) := BoxAt.cell R2.out 0
        have hk6 : k ≤ 6 := by omega
        by_cases hkd : k < d.n
        · have hi1 : (0 : Int) ≤ (k : Int) := by omega
          have hi2 : (k : Int) < (d.n : Int) := by omega
          obtain ⟨X', Y', hr⟩ := R1.out
          obtain ⟨u0, u1⟩ := hr.pts k hkd
          rw [Nat.zero_add] at u0 u1
          have HR := Lib.hid hr
          clear hr R1
          have t0 : wr.cell? ⟨Lt, 0, none⟩ = some (.int .i64 p) := BoxAt.cell R3.out 0
          have t1 : wr.cell? ⟨Lt, 1, none⟩ = some (.int .i64 q) := BoxAt.cell R3.out 1
          have v0 : wr.frozen? ⟨gd, k * 2, none⟩ = false := RowAt.frozen HR.out _
          have v1 : wr.frozen? ⟨gd, k * 2 + 1, none⟩ = false := RowAt.frozen HR.out _
          go_upto_region 8 with fail
          go_still_tail 23, (by kernel_rfl)
          go_wp2
          go_roundw
          case rel => exact ⟨k + 1, by omega, by go_num, Lib.hid ⟨_, _, row_drew1 ((HR.out.setX hkd _).setY hkd _)⟩, Lib.hid (((BoxAt.other R2.out n2.symm _ _).other n2.symm _ _).drew), Lib.hid (((BoxAt.other R3.out n1.symm _ _).other n1.symm _ _).drew), Lib.hid (((BoxAt.other R4.out n3.symm _ _).other n3.symm _ _).drew), Lib.hid (row_drew1 ((R5.out.other hgg _ _).other hgg _ _)), Lib.hid (((R6.out.setCell (p := ⟨gd, k * 2, none⟩) n4 _).setCell (p := ⟨gd, k * 2 + 1, none⟩) n4 _).drew)⟩
          case measure => simp [intOf]; omega
        · have hi2 : ¬ (k : Int) < (d.n : Int) := by omega
          obtain rfl : k = d.n := by omega
          obtain ⟨q0, q1, _⟩ := HG.out _ R6.out
          have s0 : wr.cell? ⟨w.heap.size, 0, none⟩ = some (.slice A1 a.n c1) := q0.cell 0
          have s1 : wr.cell? ⟨w.heap.size + 1, 0, none⟩ = some (.slice A2 b.n c2) := q1.cell 0
          have s2 : wr.cell? ⟨Lc, 0, none⟩ = some (.slice (some ⟨gc, 0, none⟩) c.n cc) := BoxAt.cell R4.out 0
          clear q0 q1
          go_upto_region 10 with fail
          obtain ⟨X', Y', hr⟩ := R1.out
          have hw9 : Below wr.heap.size wr (wr.alloc (.cells #[.slice A1 a.n c1, .slice A2 b.n c2, .slice (some ⟨gc, 0, none⟩) c.n cc, .slice (some ⟨gd, 0, none⟩) d.n cd, .slice A1 a.n c1] 24)) := (Below.refl _ wr).alloc (Nat.le_refl _) _
          obtain ⟨_, _, _, _, sa, sb, _, _⟩ := HG.out _ R6.out
          obtain ⟨LA, LC, LK, hl, hln⟩ := list5 (a := a) (b := b) (c := c) (d := ⟨d.n, X', Y'⟩) (BoxAt.new wr 24 #[.slice A1 a.n c1, .slice A2 b.n c2, .slice (some ⟨gc, 0, none⟩) c.n cc, .slice (some ⟨gd, 0, none⟩) d.n cd, .slice A1 a.n c1])
            (sa.below hw9) (sb.below hw9) (Spots.below (fun _ => ⟨gc, 0, rfl, R5.out.pts⟩) hw9) (Spots.below (fun _ => ⟨gd, 0, rfl, hr.pts⟩) hw9) ⟨han, hac⟩ ⟨hbn, hbc⟩ ⟨by omega, hcc⟩ ⟨by show d.n ≤ 20; omega, hcd⟩
          have H9 := Lib.hid (below_step H0.out (below_step R6.out hw9))
          have HLst := Lib.hid hl
          have HLn := Lib.hid hln
          clear hl hln sa sb hr hw9 R1 R2 R3 R4 R5 R6 HG H0 s0 s1 s2 r0 n1 n2 n3 n4 hgg hLL hLd hgd hcc hcd hLt MC MD hi2 hk hac hbc hz0 hz0' hlt
          generalize wr.alloc (.cells #[.slice A1 a.n c1, .slice A2 b.n c2, .slice (some ⟨gc, 0, none⟩) c.n cc, .slice (some ⟨gd, 0, none⟩) d.n cd, .slice A1 a.n c1] 24) = w9 at *
          generalize wr.heap.size = LB at *
          have I : ∃ k : Nat, k ≤ 4 ∧ (Value.int .i64 0) = .int .i64 k ∧ Hid (Below w9.heap.size w9 w9) := ⟨0, by omega, rfl, Lib.hid (Below.refl _ _)⟩
          go_wp2
          go_loopw [14] (fun i wr => ∃ k : Nat, k ≤ 4 ∧ i = .int .i64 k ∧ Hid (Below w9.heap.size w9 wr)) (fun i _ => 5 - (intOf i).toNat)
          case atStart => exact I
          case round =>
            clear I
            obtain ⟨wl, rfl⟩ : ∃ x : World, x = wr := ⟨_, rfl⟩
            obtain ⟨k, hk, rfl, HB⟩ := hrel
            by_cases hk4 : k < 4
            · have hi1 : (0 : Int) ≤ (k : Int) := by omega
              have hi2 : (k : Int) < 5 := by omega
              have hi3 : (0 : Int) ≤ (k : Int) + 1 := by omega
              have hi4 : (k : Int) + 1 < 5 := by omega
              have hi5 : ((k : Int) + 1).toNat = k + 1 := by omega
              have wk : IntKind.i64.wrap ((k : Int) + 1) = (k : Int) + 1 := IntWalk.i64_in _ (by omega)
              obtain ⟨c1', p1'⟩ := HLst.out _ HB.out k (by omega)
              obtain ⟨c2', p2'⟩ := HLst.out _ HB.out (k + 1) (by omega)
              obtain ⟨xn, xc⟩ := HLn.out k (by omega)
              obtain ⟨yn, yc⟩ := HLn.out (k + 1) (by omega)
              have llb : LB < wl.heap.size := World.block_lt_of_cell? wl _ c1'
              go_upto_region 13 with fail
              have HLs := Lib.hid (fun W (hW : Below wl.heap.size wl W) => HLst.out W (below_step HB.out hW))
              obtain ⟨x, hx⟩ : ∃ x, x = LC k := ⟨_, rfl⟩
              obtain ⟨y, hy⟩ : ∃ y, y = LC (k + 1) := ⟨_, rfl⟩
              obtain ⟨A, hA⟩ : ∃ x, x = LA k := ⟨_, rfl⟩
              obtain ⟨B, hBB⟩ : ∃ x, x = LA (k + 1) := ⟨_, rfl⟩
              obtain ⟨ka, hka⟩ : ∃ x, x = LK k := ⟨_, rfl⟩
              obtain ⟨kb, hkb⟩ : ∃ x, x = LK (k + 1) := ⟨_, rfl⟩
              have HPP : Hid (∀ W, Below wl.heap.size wl W → (W.cell? ⟨LB, k, none⟩ = some (.slice A x.n ka) ∧ W.cell? ⟨LB, k + 1, none⟩ = some (.slice B y.n kb)) ∧ Spots W A x.n x.X x.Y ∧ Spots W B y.n y.X y.Y) := fun W hW => by
                rw [hx, hy, hA, hBB, hka, hkb]
                obtain ⟨u1, u2⟩ := HLs.out W hW k (by omega)
                obtain ⟨u3, u4⟩ := HLs.out W hW (k + 1) (by omega)
                exact ⟨⟨u1, u3⟩, u2, u4⟩
              rw [← hx] at c1' p1' xn xc
              rw [← hy] at c2' p2' yn yc
              rw [← hA] at c1' p1'
              rw [← hBB] at c2' p2'
              rw [← hka] at c1' xc
              rw [← hkb] at c2' yc
              clear p1' p2' HLs hx hy hA hBB hka hkb
              go_cut [15, 16] from 91 to 101 (fun v v2 w' => ∃ Lx Ly Ax cx Ay cy, v = .pointer (some ⟨Lx, 0, none⟩) ∧ v2 = .pointer (some ⟨Ly, 0, none⟩) ∧ BoxAt w' Lx 24 #[.slice Ax x.n cx] ∧ BoxAt w' Ly 24 #[.slice Ay y.n cy] ∧ Spots w' Ax x.n x.X x.Y ∧ Spots w' Ay y.n y.X y.Y ∧ (Below wl.heap.size wl w' ∧ (x.n ≤ cx ∧ y.n ≤ cy)))
              case first =>
                go_region_held3 (fun w' => w'.cell? ⟨LB, k, none⟩ = some (.slice A x.n ka) ∧ w'.cell? ⟨LB, k + 1, none⟩ = some (.slice B y.n kb))
                  (first | (refine ⟨?_, ?_⟩ <;> (refine (Below.cell (w := wl) (B := wl.heap.size) ?_ (by assumption)).trans (by assumption); (repeat (first | (with_reducible exact Below.refl _ _) | ((with_reducible refine bset ?_ ?_ _); (first | exact Nat.le_refl _ | omega | (simp; omega) | simp)) | ((with_reducible refine balloc ?_ ?_ _); (first | exact Nat.le_refl _ | omega | (simp; omega) | simp)) | (with_reducible refine Below.drew ?_) | (with_reducible refine below_step ?_ hb4) | (with_reducible refine below_step ?_ hb3))))) | go_keep)
                  (first
                    | (go_at_call 19; (with_reducible refine Calls.mono (own_cap A x.n ka x.X x.Y xn _ ?_) ?_); (refine (HPP.out _ ?_).2.1; (repeat (first | (with_reducible exact Below.refl _ _) | ((with_reducible refine bset ?_ ?_ _); (first | exact Nat.le_refl _ | omega | (simp; omega) | simp)) | ((with_reducible refine balloc ?_ ?_ _); (first | exact Nat.le_refl _ | omega | (simp; omega) | simp)) | (with_reducible refine Below.drew ?_) | (with_reducible refine below_step ?_ hb4) | (with_reducible refine below_step ?_ hb3)))); rintro e w3 ⟨Ax, cx, rfl, hPx, hb3, hcx⟩; have HPx := Lib.hid hPx; clear hPx; have hz3 := hb3.size; (try simp at hz3); obtain ⟨hc3, hf3⟩ := bcell hb3; (try have y1 : wl.heap.size < w3.heap.size := by omega); (try have y2 : wl.heap.size + 1 < w3.heap.size := by omega); (try have y3 : wl.heap.size < w3.heap.size + 1 := by omega); (try have y4 : wl.heap.size + 1 < w3.heap.size + 1 := by omega); (try have y5 : wl.heap.size < w3.heap.size + 1 + 1 := by omega))
                    | (go_at_call 19; (with_reducible refine Calls.mono (own_cap B y.n kb y.X y.Y yn _ ?_) ?_); (refine (HPP.out _ ?_).2.2; (repeat (first | (with_reducible exact Below.refl _ _) | ((with_reducible refine bset ?_ ?_ _); (first | exact Nat.le_refl _ | omega | (simp; omega) | simp)) | ((with_reducible refine balloc ?_ ?_ _); (first | exact Nat.le_refl _ | omega | (simp; omega) | simp)) | (with_reducible refine Below.drew ?_) | (with_reducible refine below_step ?_ hb4) | (with_reducible refine below_step ?_ hb3)))); rintro e w4 ⟨Ay, cy, rfl, hPy, hb4, hcy⟩; have HPy := Lib.hid hPy; clear hPy; have hz4 := hb4.size; (try simp at hz4); obtain ⟨hc4, hf4⟩ := bcell hb4; (try have x1 : wl.heap.size < w4.heap.size := by omega); (try have x2 : wl.heap.size + 1 < w4.heap.size := by omega); (try have x3 : wl.heap.size < w4.heap.size + 1 := by omega); (try have x4 : wl.heap.size + 1 < w4.heap.size + 1 := by omega); (try have x5 : wl.heap.size < w4.heap.size + 1 + 1 := by omega); (try have x6 : w3.heap.size < w4.heap.size := by omega); (try have x7 : w3.heap.size + 1 < w4.heap.size := by omega); (try have x8 : w3.heap.size < w4.heap.size + 1 := by omega)))
                all_goals go_wp2
                all_goals go_meet
                all_goals (refine ⟨_, _, Ax, cx, Ay, cy, rfl, rfl, ?_, ?_, ?_, ?_, ?_, hcx, hcy⟩)
                all_goals (repeat (first
                  | (with_reducible exact HPx.out)
                  | (with_reducible exact HPy.out)
                  | (with_reducible exact BoxAt.new _ _ _)
                  | (with_reducible exact box_new2 _ _ _ _)
                  | (with_reducible exact box_new4 _ _ _ _ _)
                  | (with_reducible refine box_set1 ?_)
                  | (with_reducible refine box_other1 ?_ (by omega))
                  | (with_reducible refine box_step ?_ hb4)
                  | (with_reducible refine box_step ?_ hb3)
                  | (with_reducible refine BoxAt.alloc ?_ _)
                  | (with_reducible refine BoxAt.drew ?_)
                  | (with_reducible refine Spots.below ?_ hb4)
                  | (with_reducible refine Spots.below ?_ hb3)
                  | (with_reducible refine spots_alloc1 ?_)
                  | (with_reducible refine spots_drew1 ?_)
                  | (with_reducible refine spots_set1 ?_ ?_)
                  | (with_reducible exact Below.refl _ _)
                  | (with_reducible refine bset ?_ ?_ _; (first | exact Nat.le_refl _ | omega | (simp; omega) | simp))
                  | (with_reducible refine balloc ?_ ?_ _; (first | exact Nat.le_refl _ | omega | (simp; omega) | simp))
                  | (with_reducible refine Below.drew ?_)
                  | (with_reducible refine below_step ?_ hb4)
                  | (with_reducible refine below_step ?_ hb3)))
              case rest =>
                obtain ⟨w3, rfl⟩ : ∃ x : World, x = wc := ⟨_, rfl⟩
                obtain ⟨Lx, Ly, Ax, cx, Ay, cy, rfl, rfl, bx, by', px, py, hb3, hcx, hcy⟩ := hcut
                have HB3 := Lib.hid (below_step HB.out hb3)
                have HW3 : Hid (∀ W, Below w3.heap.size w3 W → (W.cell? ⟨Lx, 0, none⟩ = some (.slice Ax x.n cx) ∧ W.cell? ⟨Ly, 0, none⟩ = some (.slice Ay y.n cy)) ∧ (W.cell? ⟨LB, k, none⟩ = some (.slice A x.n ka) ∧ W.cell? ⟨LB, k + 1, none⟩ = some (.slice B y.n kb)) ∧ (Spots W Ax x.n x.X x.Y ∧ Spots W Ay y.n y.X y.Y) ∧ (Spots W A x.n x.X x.Y ∧ Spots W B y.n y.X y.Y)) := fun W hW => by
                  obtain ⟨u1, u2⟩ := HPP.out W (below_step hb3 hW)
                  exact ⟨⟨(box_step bx hW).cell 0, (box_step by' hW).cell 0⟩, u1, ⟨px.below hW, py.below hW⟩, u2⟩
                obtain ⟨s, hs⟩ : ∃ s, s = sameB x y := ⟨_, rfl⟩
                have x1000 : x.n ≤ 1000 := by omega
                have y1000 : y.n ≤ 1000 := by omega
                have HSR : Hid (∀ W, Below w3.heap.size w3 W → Calls Try.prog 51 #[.agg #[.slice Ax x.n cx], .agg #[.slice Ay y.n cy]] W fun e w' => e = .returned (.bool s) ∧ Below W.heap.size W w') := fun W hW => by
                  rw [hs]; exact rsame_any Ax Ay cx cy x y x1000 W (HW3.out W hW).2.2.1.1 (HW3.out W hW).2.2.1.2
                have HSP : Hid (∀ W, Below w3.heap.size w3 W → Calls Try.prog 52 #[.agg #[.slice Ax x.n cx], .agg #[.slice Ay y.n cy]] W fun e w' => e = .returned (.bool s) ∧ Below W.heap.size W w') := fun W hW => by
                  rw [hs]; exact same_any Ax Ay cx cy x y x1000 W (HW3.out W hW).2.2.1.1 (HW3.out W hW).2.2.1.2
                have HSX : Hid (∀ W, Below w3.heap.size w3 W → Calls Try.prog 52 #[.agg #[.slice Ax x.n cx], .agg #[.slice Ax x.n cx]] W fun e w' => e = .returned (.bool true) ∧ Below W.heap.size W w') := fun W hW => by
                  rw [← sameB_self x]; exact same_any Ax Ax cx cx x x x1000 W (HW3.out W hW).2.2.1.1 (HW3.out W hW).2.2.1.1
                have HXL : Hid (∀ W, Below w3.heap.size w3 W → Calls Try.prog 51 #[.agg #[.slice Ax x.n cx], .agg #[.slice A x.n ka]] W fun e w' => e = .returned (.bool true) ∧ Below W.heap.size W w') := fun W hW => by
                  rw [← sameB_self x]; exact rsame_any Ax A cx ka x x x1000 W (HW3.out W hW).2.2.1.1 (HW3.out W hW).2.2.2.1
                have HYL : Hid (∀ W, Below w3.heap.size w3 W → Calls Try.prog 51 #[.agg #[.slice Ay y.n cy], .agg #[.slice B y.n kb]] W fun e w' => e = .returned (.bool true) ∧ Below W.heap.size W w') := fun W hW => by
                  rw [← sameB_self y]; exact rsame_any Ay B cy kb y y y1000 W (HW3.out W hW).2.2.1.2 (HW3.out W hW).2.2.2.2
                have HCP : Hid (∀ W, Below w3.heap.size w3 W → Calls Try.prog 53 #[.agg #[.slice Ax x.n cx]] W (CopyPost x W)) := fun W hW => copy_any Ax cx x (by omega) W (HW3.out W hW).2.2.1.1
                obtain ⟨J, hJ⟩ : ∃ J, J = jRes x y := ⟨_, rfl⟩
                obtain ⟨E, hE⟩ : ∃ E, E = jErr x y := ⟨_, rfl⟩
                have HJ : Hid (∀ W, Below w3.heap.size w3 W → Calls Try.prog 49 #[.agg #[.slice Ax x.n cx], .agg #[.slice Ay y.n cy]] W (JPost J E W)) := fun W hW => by
                  rw [hJ, hE]; exact join_any Ax Ay cx cy x y W (HW3.out W hW).2.2.1.1 (HW3.out W hW).2.2.1.2 hcy
                have HRJ : Hid (∀ W, Below w3.heap.size w3 W → Calls Try.prog 50 #[.agg #[.slice A x.n ka], .agg #[.slice B y.n kb]] W (JPost J E W)) := fun W hW => by
                  rw [hJ, hE]; exact rjoin_any A B ka kb x y W (HW3.out W hW).2.2.2.1 (HW3.out W hW).2.2.2.2 yc
                have hJ16 : J.n ≤ 16 := by rw [hJ]; exact jRes_le x y
                have l3 : LB < w3.heap.size := by have := hb3.size; omega
                have lx := bx.lt
                have ly := by'.lt
                have v1 : w3.cell? ⟨Lx, 0, none⟩ = some (.slice Ax x.n cx) := bx.cell 0
                have v2 : w3.cell? ⟨Ly, 0, none⟩ = some (.slice Ay y.n cy) := by'.cell 0
                clear hs hJ hE hb3 bx by' px py HPP c1' c2' hcx hcy xc yc llb HLst HLn
                go_upto_region 15 with (go_at_call 49; (with_reducible refine (HJ.out _ (Below.refl _ _)).mono ?_); rintro e w5 ⟨R, cp, rfl, hN, hb5⟩)
                have hz5 := hb5.size
                have HP : Hid (∀ W, Below (w5.alloc (.cells #[.slice R J.n cp] 24)).heap.size (w5.alloc (.cells #[.slice R J.n cp] 24)) W → BoxAt W w5.heap.size 24 #[.slice R J.n cp] ∧ Turned w3.heap.size W R J ∧ Spots W R J.n J.X J.Y) :=
                  fun W hW => ⟨box_step (BoxAt.new _ _ _) hW, ((turned_of_new hN (Nat.le_refl _)).allc).step hW, (spots_alloc1 (spots_of_new hN)).below hW⟩
                have H35 := Lib.hid (hb5.alloc hz5 (.cells #[.slice R J.n cp] 24))
                obtain ⟨Lp, hLp⟩ : ∃ z, z = w5.heap.size := ⟨_, rfl⟩
                have llp : Lp < (w5.alloc (.cells #[.slice R J.n cp] 24)).heap.size := by simp; omega
                have llp3 : w3.heap.size ≤ Lp := by omega
                have u1 : (w5.alloc (.cells #[.slice R J.n cp] 24)).cell? ⟨LB, k, none⟩ = some (.slice A x.n ka) := (HW3.out _ H35.out).2.1.1
                have u2 : (w5.alloc (.cells #[.slice R J.n cp] 24)).cell? ⟨LB, k + 1, none⟩ = some (.slice B y.n kb) := (HW3.out _ H35.out).2.1.2
                rw [← hLp] at HP ⊢
                clear hLp hN hb5 hz5 v1 v2
                generalize w5.alloc (.cells #[.slice R J.n cp] 24) = w14 at *
                have h314 := H35.out.size
                have l14 : LB < w14.heap.size := by omega
                go_cut [19, 20] from 109 to 118 (fun v v2 w' => ∃ Lq Rq cq, v = .pointer (some ⟨Lq, 0, none⟩) ∧ v2 = .int .i64 E ∧ BoxAt w' Lq 24 #[.slice Rq J.n cq] ∧ Spots w' Rq J.n J.X J.Y ∧ Below w14.heap.size w14 w')
                case first =>
                  go_region_held3 (fun w' => w'.cell? ⟨LB, k, none⟩ = some (.slice A x.n ka) ∧ w'.cell? ⟨LB, k + 1, none⟩ = some (.slice B y.n kb))
                    (first | (refine ⟨?_, ?_⟩ <;> (refine (Below.cell (w := w14) (B := w14.heap.size) ?_ (by assumption)).trans (by assumption); (repeat (first | (with_reducible exact Below.refl _ _) | ((with_reducible refine bset ?_ ?_ _); (first | exact Nat.le_refl _ | omega | (simp; omega) | simp)) | ((with_reducible refine balloc ?_ ?_ _); (first | exact Nat.le_refl _ | omega | (simp; omega) | simp)) | (with_reducible refine Below.drew ?_) | (with_reducible refine below_step ?_ hb6))))) | go_keep)
                    (first | (go_at_call 50; (with_reducible refine Calls.mono (HRJ.out _ ?_) ?_); (refine below_step H35.out ?_; (repeat (first | (with_reducible exact Below.refl _ _) | ((with_reducible refine bset ?_ ?_ _); (first | exact Nat.le_refl _ | omega | (simp; omega) | simp)) | ((with_reducible refine balloc ?_ ?_ _); (first | exact Nat.le_refl _ | omega | (simp; omega) | simp)) | (with_reducible refine Below.drew ?_) | (with_reducible refine below_step ?_ hb6)))); rintro e w6 ⟨Rq, cq, rfl, hN, hb6⟩; have HN := Lib.hid (spots_of_new hN); clear hN; have hz6 := hb6.size; (try simp at hz6); obtain ⟨hc6, hf6⟩ := bcell hb6; (try have y1 : w14.heap.size < w6.heap.size := by omega)))
                  all_goals go_wp2
                  all_goals go_meet
                  all_goals (refine ⟨_, Rq, cq, rfl, rfl, ?_, ?_, ?_⟩)
                  all_goals (repeat (first
                    | (with_reducible exact HN.out)
                    | (with_reducible exact BoxAt.new _ _ _)
                    | (with_reducible exact box_new4 _ _ _ _ _)
                    | (with_reducible refine box_set1 ?_)
                    | (with_reducible refine box_other1 ?_ (by omega))
                    | (with_reducible refine box_step ?_ hb6)
                    | (with_reducible refine BoxAt.alloc ?_ _)
                    | (with_reducible refine BoxAt.drew ?_)
                    | (with_reducible refine Spots.below ?_ hb6)
                    | (with_reducible refine spots_alloc1 ?_)
                    | (with_reducible refine spots_drew1 ?_)
                    | (with_reducible refine spots_set1 ?_ ?_)
                    | (with_reducible exact Below.refl _ _)
                    | (with_reducible refine bset ?_ ?_ _; (first | exact Nat.le_refl _ | omega | (simp; omega) | simp))
                    | (with_reducible refine balloc ?_ ?_ _; (first | exact Nat.le_refl _ | omega | (simp; omega) | simp))
                    | (with_reducible refine Below.drew ?_)
                    | (with_reducible refine below_step ?_ hb6)))
                case rest =>
                  obtain ⟨w15, rfl⟩ : ∃ x : World, x = wc := ⟨_, rfl⟩
                  obtain ⟨Lq, Rq, cq, rfl, rfl, bq, pq, hb15⟩ := hcut
                  have H15 := Lib.hid (below_step H35.out hb15)
                  have HQ : Hid (∀ W, Below w15.heap.size w15 W → Calls Try.prog 51 #[.agg #[.slice R J.n cp], .agg #[.slice Rq J.n cq]] W fun e w' => e = .returned (.bool true) ∧ Below W.heap.size W w') := fun W hW => by
                    rw [← sameB_self J]; exact rsame_any R Rq cp cq J J (by omega) W (HP.out W (below_step hb15 hW)).2.2 (pq.below hW)
                  have v1 : w15.cell? ⟨Lx, 0, none⟩ = some (.slice Ax x.n cx) := (HW3.out _ H15.out).1.1
                  have v2 : w15.cell? ⟨Ly, 0, none⟩ = some (.slice Ay y.n cy) := (HW3.out _ H15.out).1.2
                  have v3 : w15.cell? ⟨Lp, 0, none⟩ = some (.slice R J.n cp) := (HP.out _ hb15).1.cell 0
                  have v4 : w15.cell? ⟨Lq, 0, none⟩ = some (.slice Rq J.n cq) := bq.cell 0
                  have lq := bq.lt
                  have h1415 := hb15.size
                  have m1 : Lx < w15.heap.size := by omega
                  have m2 : Ly < w15.heap.size := by omega
                  have m3 : Lp < w15.heap.size := by omega
                  have HB15 := Lib.hid hb15
                  clear bq pq hb15 u1 u2
                  go_upto_region 16 with fail
                  go_cut [144] from 121 to 144 (fun v w' => v = .bool false ∧ Below w15.heap.size w15 w')
                  case first =>
                    have hBx : Below w15.heap.size w15 w15.drew := (Below.refl _ _).drew
                    go_region_held3 (fun w' => w'.cell? ⟨Lx, 0, none⟩ = some (.slice Ax x.n cx) ∧ w'.cell? ⟨Ly, 0, none⟩ = some (.slice Ay y.n cy) ∧ w'.cell? ⟨Lp, 0, none⟩ = some (.slice R J.n cp) ∧ w'.cell? ⟨Lq, 0, none⟩ = some (.slice Rq J.n cq))
                      (refine ⟨?_, ?_, ?_, ?_⟩ <;> exact (Below.cell hBx (by assumption)).trans (by assumption))
                      (first
                        | (go_at_call 51; (with_reducible refine (HQ.out _ hBx).mono ?_); rintro e w6 ⟨rfl, hb6⟩; replace hBx := below_step hBx hb6)
                        | (go_at_call 52; (with_reducible refine (HSP.out _ (below_step H15.out hBx)).mono ?_); rintro e w6 ⟨rfl, hb6⟩; replace hBx := below_step hBx hb6)
                        | (go_at_call 51; (with_reducible refine (HSR.out _ (below_step H15.out hBx)).mono ?_); rintro e w6 ⟨rfl, hb6⟩; replace hBx := below_step hBx hb6)
                        | (go_at_call 52; (with_reducible refine (HSX.out _ (below_step H15.out hBx)).mono ?_); rintro e w6 ⟨rfl, hb6⟩; replace hBx := below_step hBx hb6))
                    all_goals go_wp2
                    all_goals go_meet
                    all_goals exact ⟨rfl, hBx⟩
                  case rest =>
                    obtain ⟨w16, rfl⟩ : ∃ x : World, x = wc := ⟨_, rfl⟩
                    obtain ⟨rfl, hb16⟩ := hcut
                    have H1416 := Lib.hid (below_step HB15.out hb16)
                    have H16 := Lib.hid (below_step H35.out H1416.out)
                    have v5 : w16.cell? ⟨Lx, 0, none⟩ = some (.slice Ax x.n cx) := (HW3.out _ H16.out).1.1
                    have h16 := hb16.size
                    clear v1 v2 v3 v4 lq m1 m2 m3 hb16 HQ HSR HSP HSX HJ HRJ HB15 H15
                    go_upto_region 19 with (go_at_call 53; (with_reducible refine (HCP.out _ H16.out).mono ?_); rintro e w17 ⟨Rz, cz, rfl, hN, hb17⟩)
                    have hz17 := hb17.size
                    have H17 := Lib.hid (below_step H1416.out hb17)
                    have HBZ := Lib.hid (BoxAt.new w17 24 #[.slice Rz x.n cz])
                    have HTZ := Lib.hid ((turned_of_new hN (show w14.heap.size ≤ w16.heap.size by omega)).allc (o := .cells #[.slice Rz x.n cz] 24))
                    have HSZ := Lib.hid (spots_alloc1 (o := .cells #[.slice Rz x.n cz] 24) (spots_of_new hN))
                    have H18 := Lib.hid (H17.out.alloc (by omega) (.cells #[.slice Rz x.n cz] 24))
                    obtain ⟨Lz, hLz⟩ : ∃ z, z = w17.heap.size := ⟨_, rfl⟩
                    have hLz14 : w14.heap.size ≤ Lz := by omega
                    rw [← hLz] at HBZ ⊢
                    clear hLz hN hb17 hz17 H17 v5
                    generalize w17.alloc (.cells #[.slice Rz x.n cz] 24) = w18 at *
                    have HZX : Hid (∀ W, Below w18.heap.size w18 W → Calls Try.prog 51 #[.agg #[.slice Rz x.n cz], .agg #[.slice Ax x.n cx]] W fun e w' => e = .returned (.bool true) ∧ Below W.heap.size W w') := fun W hW => by
                      rw [← sameB_self x]; exact rsame_any Rz Ax cz cx x x (by omega) W (HSZ.out.below hW) (HW3.out W (below_step H35.out (below_step H18.out hW))).2.2.1.1
                    have v1 : w18.cell? ⟨Lz, 0, none⟩ = some (.slice Rz x.n cz) := BoxAt.cell HBZ.out 0
                    have v2 : w18.cell? ⟨Lx, 0, none⟩ = some (.slice Ax x.n cx) := (HW3.out _ (below_step H35.out H18.out)).1.1
                    go_upto_region 21 with (go_at_call 51; (with_reducible refine (HZX.out _ (Below.refl _ _)).mono ?_); rintro e w21 ⟨rfl, hb21⟩)
                    have I : ∃ j : Nat, j ≤ x.n ∧ (Value.int .i64 0) = .int .i64 j ∧ Hid (BoxAt w21 Lz 24 #[.slice Rz x.n cz]) ∧ Hid (Turned w14.heap.size w21 Rz x) ∧ Hid (Below w14.heap.size w14 w21) :=
                      ⟨0, Nat.zero_le _, rfl, Lib.hid (box_step HBZ.out hb21), Lib.hid (HTZ.out.step hb21), Lib.hid (below_step H18.out hb21)⟩
                    clear v1 v2 hb21 HZX HBZ HTZ HSZ H18 HCP h16
                    go_wp2
                    go_loopw [22] (fun i wr => ∃ j : Nat, j ≤ x.n ∧ i = .int .i64 j ∧ Hid (BoxAt wr Lz 24 #[.slice Rz x.n cz]) ∧ Hid (Turned w14.heap.size wr Rz x) ∧ Hid (Below w14.heap.size w14 wr)) (fun i _ => 21 - (intOf i).toNat)
                    case atStart => exact I
                    case round =>
                      clear I
                      obtain ⟨wz, rfl⟩ : ∃ x : World, x = wr := ⟨_, rfl⟩
                      obtain ⟨j, hj, rfl, Q1, Q2, Q3⟩ := hrel
                      have r0 : wz.cell? ⟨Lz, 0, none⟩ = some (.slice Rz x.n cz) := BoxAt.cell Q1.out 0
                      by_cases hjx : j < x.n
                      · have t1 : (0 : Int) ≤ (j : Int) := by omega
                        have t2 : (j : Int) < (x.n : Int) := by omega
                        obtain ⟨g, X', rfl, hg, hr⟩ := Q2.out (by omega)
                        obtain ⟨u0, _⟩ := hr.pts j hjx
                        rw [Nat.zero_add] at u0
                        have f0 : wz.frozen? ⟨g, j * 2, none⟩ = false := hr.frozen _
                        have hne : g ≠ Lz := hr.ne_box Q1.out (by decide)
                        have HR := Lib.hid hr
                        clear hr Q2
                        go_wp2
                        go_roundw
                        case rel => exact ⟨j + 1, by omega, by go_num, Lib.hid (BoxAt.other Q1.out hne.symm _ _), Lib.hid (fun _ => ⟨g, _, rfl, hg, HR.out.setX hjx _⟩), Lib.hid (Q3.out.setCell (p := ⟨g, j * 2, none⟩) hg _)⟩
                        case measure => simp [intOf]; omega
                      · have t2 : ¬ (j : Int) < (x.n : Int) := by omega
                        have H1z := Lib.hid (below_step H35.out Q3.out)
                        obtain ⟨e1, e2, _⟩ := HP.out _ Q3.out
                        have I : ∃ j : Nat, j ≤ J.n ∧ (Value.int .i64 0) = .int .i64 j ∧ Hid (BoxAt wz Lp 24 #[.slice R J.n cp]) ∧ Hid (Turned w3.heap.size wz R J) ∧ Hid (Below w3.heap.size w3 wz) :=
                          ⟨0, Nat.zero_le _, rfl, Lib.hid e1, Lib.hid e2, H1z⟩
                        go_upto_region 25 with fail
                        clear e1 e2 Q1 Q2 Q3 r0 H1z HP
                        go_wp2
                        go_loopw [23] (fun i wr => ∃ j : Nat, j ≤ J.n ∧ i = .int .i64 j ∧ Hid (BoxAt wr Lp 24 #[.slice R J.n cp]) ∧ Hid (Turned w3.heap.size wr R J) ∧ Hid (Below w3.heap.size w3 wr)) (fun i _ => 17 - (intOf i).toNat)
                        case atStart => exact I
                        case round =>
                          clear I
                          obtain ⟨wy, rfl⟩ : ∃ x : World, x = wr := ⟨_, rfl⟩
                          obtain ⟨i, hi, rfl, Q1, Q2, Q3⟩ := hrel
                          have r0 : wy.cell? ⟨Lp, 0, none⟩ = some (.slice R J.n cp) := BoxAt.cell Q1.out 0
                          by_cases hij : i < J.n
                          · have t1 : (0 : Int) ≤ (i : Int) := by omega
                            have t3 : (i : Int) < (J.n : Int) := by omega
                            obtain ⟨g, X', rfl, hg, hr⟩ := Q2.out (by omega)
                            obtain ⟨u0, _⟩ := hr.pts i hij
                            rw [Nat.zero_add] at u0
                            have f0 : wy.frozen? ⟨g, i * 2, none⟩ = false := hr.frozen _
                            have hne : g ≠ Lp := hr.ne_box Q1.out (by decide)
                            have HR := Lib.hid hr
                            clear hr Q2
                            go_wp2
                            go_roundw
                            case rel => exact ⟨i + 1, by omega, by go_num, Lib.hid (BoxAt.other Q1.out hne.symm _ _), Lib.hid (fun _ => ⟨g, _, rfl, hg, HR.out.setX hij _⟩), Lib.hid (Q3.out.setCell (p := ⟨g, i * 2, none⟩) hg _)⟩
                            case measure => simp [intOf]; omega
                          · have t3 : ¬ (i : Int) < (J.n : Int) := by omega
                            have HF := Lib.hid Q3.out
                            go_upto_region 29 with fail
                            obtain ⟨⟨v1, v2⟩, ⟨v3, v4⟩, _⟩ := HW3.out _ HF.out
                            have hz := HF.out.size
                            have m1 : Lx < wy.heap.size := by omega
                            have m2 : Ly < wy.heap.size := by omega
                            have m3 : LB < wy.heap.size := by omega
                            clear Q1 Q2 Q3 r0
                            go_cut [199] from 183 to 199 (fun v w' => v = .bool false ∧ Below wy.heap.size wy w')
                            case first =>
                              have hBx : Below wy.heap.size wy wy.drew := (Below.refl _ _).drew
                              go_region_held3 (fun w' => w'.cell? ⟨Lx, 0, none⟩ = some (.slice Ax x.n cx) ∧ w'.cell? ⟨Ly, 0, none⟩ = some (.slice Ay y.n cy) ∧ w'.cell? ⟨LB, k, none⟩ = some (.slice A x.n ka) ∧ w'.cell? ⟨LB, k + 1, none⟩ = some (.slice B y.n kb))
                                (refine ⟨?_, ?_, ?_, ?_⟩ <;> exact (Below.cell hBx (by assumption)).trans (by assumption))
                                (first
                                  | (go_at_call 51; (with_reducible refine (HXL.out _ (below_step HF.out hBx)).mono ?_); rintro e w6 ⟨rfl, hb6⟩; replace hBx := below_step hBx hb6)
                                  | (go_at_call 51; (with_reducible refine (HYL.out _ (below_step HF.out hBx)).mono ?_); rintro e w6 ⟨rfl, hb6⟩; replace hBx := below_step hBx hb6))
                              all_goals go_wp2
                              all_goals go_meet
                              all_goals exact ⟨rfl, hBx⟩
                            case rest =>
                              obtain ⟨w29, rfl⟩ : ∃ x : World, x = wc := ⟨_, rfl⟩
                              obtain ⟨rfl, hb29⟩ := hcut
                              have HZ := Lib.hid (below_step HB3.out (below_step HF.out hb29))
                              go_wp2
                              go_roundw
                              case rel => exact ⟨k + 1, by omega, by go_num, HZ⟩
                              case measure => simp [intOf]; omega
            · obtain rfl : k = 4 := by omega
              have hb := HB.out
              go_wp2_with (go_at_call 18; (with_reducible refine (awake_any _).mono ?_); rintro e wz ⟨rfl, hbz⟩; replace hb := below_step hb hbz)
              go_ret
              exact ⟨rfl, below_step H9.out hb⟩
end Go.Proofs.Ytglkpabcflecmaa
