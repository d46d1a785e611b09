/- The walk of the law CurveTogether. -/
import Derived.Test.YtglkpabcflecmaaJoinG
import Derived.Test.YtglkpabcflecmaaRNea
import Derived.StillTailTactics
namespace Go.Proofs.Ytglkpabcflecmaa
open Go.RowKit Go.Shelf

theorem box_set1 {W : World} {g : Nat} {v : Value} (h : BoxAt W g 24 #[.slice none 0 0]) : BoxAt (W.setCell ⟨g, 0, none⟩ v) g 24 #[v] := h.set 0 _
theorem box_other1 {W : World} {g h : Nat} {a : Value} {t : TypeId} {cs : Array Value} (hb : BoxAt W g t cs) (hne : g ≠ h) : BoxAt (W.setCell ⟨h, 0, none⟩ a) g t cs := hb.other hne 0 a
theorem box_new4 (W : World) (p1 : Addr) (v1 : Value) (t : TypeId) (cs : Array Value) : BoxAt ((W.setCell p1 v1).alloc (.cells cs t)) W.heap.size t cs := by
  have := BoxAt.new (W.setCell p1 v1) t cs
  simpa using this
theorem pts_set1 {W : World} {g off n h : Nat} {X Y : Nat → Int} {v : Value} (hp : Pts W g off n X Y) (hne : g ≠ h) : Pts (W.setCell ⟨h, 0, none⟩ v) g off n X Y := fun i hi =>
  ⟨(World.cell?_of_block (Below.heap_setCell _ _ _ _ hne)).trans (hp i hi).1, (World.cell?_of_block (Below.heap_setCell _ _ _ _ hne)).trans (hp i hi).2⟩
theorem pts_set2 {W : World} {g off n h : Nat} {X Y : Nat → Int} {v v2 : Value} (hp : Pts W g off n X Y) (hne : g ≠ h) : Pts ((W.setCell ⟨h, 0, none⟩ v).setCell ⟨h, 1, none⟩ v2) g off n X Y := fun i hi =>
  ⟨((World.cell?_of_block (Below.heap_setCell _ _ _ _ hne)).trans (World.cell?_of_block (Below.heap_setCell _ _ _ _ hne))).trans (hp i hi).1, ((World.cell?_of_block (Below.heap_setCell _ _ _ _ hne)).trans (World.cell?_of_block (Below.heap_setCell _ _ _ _ hne))).trans (hp i hi).2⟩
theorem pts_alloc1 {W : World} {g off n : Nat} {X Y : Nat → Int} {o : Obj} (hp : Pts W g off n X Y) (hn : 0 < n) : Pts (W.alloc o) g off n X Y := hp.below ((Below.refl _ W).alloc (Nat.le_refl _) o) (hp.lt hn)
theorem pts_drew1 {W : World} {g off n : Nat} {X Y : Nat → Int} (hp : Pts W g off n X Y) : Pts W.drew g off n X Y := hp
theorem pts_step1 {W W' : World} {g off n : Nat} {X Y : Nat → Int} (hp : Pts W g off n X Y) (hn : 0 < n) (hb : Below W.heap.size W W') : Pts W' g off n X Y := hp.below hb (hp.lt hn)

set_option maxRecDepth 100000 in
set_option maxHeartbeats 8000000 in
theorem together_walk (x1 y1 : Int) (B1 : Option Addr) (m1 bc1 : Nat) (S1 : Nat → Int) (x2 y2 : Int) (B2 : Option Addr) (m2 bc2 : Nat) (S2 : Nat → Int) (s0 : Int) (w : World) (hS1 : Stps w B1 m1 S1) (hS2 : Stps w B2 m2 S2) :
    Calls Try.prog 16 #[chv x1 y1 B1 m1 bc1, chv x2 y2 B2 m2 bc2, .int .i64 s0] w fun e w' => e = .returned (.bool true) ∧ Below w.heap.size w w' := by
  obtain ⟨a, ma, ka⟩ := kit_makes x1 y1 B1 m1 bc1 S1
  obtain ⟨b0, mb, kb⟩ := kit_makes x2 y2 B2 m2 bc2 S2
  have hB0 : Below w.heap.size w ((w.alloc (.cells #[.int .i64 x1, .int .i64 y1, .slice B1 m1 bc1] 37)).alloc (.cells #[.int .i64 x2, .int .i64 y2, .slice B2 m2 bc2] 37)) := ((Below.refl _ w).alloc (Nat.le_refl _) _).alloc (by simp) _
  have f1 := (BoxAt.new w 37 #[.int .i64 x1, .int .i64 y1, .slice B1 m1 bc1]).alloc (.cells #[.int .i64 x2, .int .i64 y2, .slice B2 m2 bc2] 37)
  have f2 := BoxAt.new (w.alloc (.cells #[.int .i64 x1, .int .i64 y1, .slice B1 m1 bc1] 37)) 37 #[.int .i64 x2, .int .i64 y2, .slice B2 m2 bc2]
  rw [World.size_alloc] at f2
  have HS1 := Lib.hid (hS1.below hB0)
  have HS2 := Lib.hid (hS2.below hB0)
  have KA := Lib.hid ka
  have KB := Lib.hid kb
  have MA := Lib.hid ma
  have MB := Lib.hid mb
  have na : 0 < a.n := by have := ma.good.lo; omega
  have nb : 0 < b0.n := by have := mb.good.lo; omega
  clear ka kb ma mb hS1 hS2
  go_enter Try.func16, Try.ntmps16
  go_upto_region 1 with fail
  generalize (w.alloc (.cells #[.int .i64 x1, .int .i64 y1, .slice B1 m1 bc1] 37)).alloc (.cells #[.int .i64 x2, .int .i64 y2, .slice B2 m2 bc2] 37) = wr at *
  have k0 : wr.cell? ⟨w.heap.size, 0, none⟩ = some (.int .i64 x1) := f1.cell 0
  have k1 : wr.cell? ⟨w.heap.size, 1, none⟩ = some (.int .i64 y1) := f1.cell 1
  have k2 : wr.cell? ⟨w.heap.size, 2, none⟩ = some (.slice B1 m1 bc1) := f1.cell 2
  have k3 : wr.cell? ⟨w.heap.size + 1, 0, none⟩ = some (.int .i64 x2) := f2.cell 0
  have k4 : wr.cell? ⟨w.heap.size + 1, 1, none⟩ = some (.int .i64 y2) := f2.cell 1
  have k5 : wr.cell? ⟨w.heap.size + 1, 2, none⟩ = some (.slice B2 m2 bc2) := f2.cell 2
  have l1 := f1.lt
  have l2 := f2.lt
  go_cut [7, 8] from 15 to 18 (fun v v2 w' => ∃ La Lb ga ca gb cb, v = .pointer (some ⟨La, 0, none⟩) ∧ v2 = .pointer (some ⟨Lb, 0, none⟩) ∧ BoxAt w' La 24 #[.slice (some ⟨ga, 0, none⟩) a.n ca] ∧ BoxAt w' Lb 24 #[.slice (some ⟨gb, 0, none⟩) b0.n cb] ∧ Pts w' ga 0 a.n a.X a.Y ∧ Pts w' gb 0 b0.n b0.X b0.Y ∧ (Below wr.heap.size wr w' ∧ (La ≠ Lb ∧ ga ≠ Lb ∧ wr.heap.size ≤ Lb)))
  case first =>
    go_region_held3 (fun w' => w'.cell? ⟨w.heap.size, 0, none⟩ = some (.int .i64 x1) ∧ w'.cell? ⟨w.heap.size, 1, none⟩ = some (.int .i64 y1) ∧ w'.cell? ⟨w.heap.size, 2, none⟩ = some (.slice B1 m1 bc1) ∧ w'.cell? ⟨w.heap.size + 1, 0, none⟩ = some (.int .i64 x2) ∧ w'.cell? ⟨w.heap.size + 1, 1, none⟩ = some (.int .i64 y2) ∧ w'.cell? ⟨w.heap.size + 1, 2, none⟩ = some (.slice B2 m2 bc2))
      (first | (refine ⟨?_, ?_, ?_, ?_, ?_, ?_⟩ <;> (refine (Below.cell (w := wr) (B := wr.heap.size) ?_ (by assumption)).trans (by assumption); (repeat (first | (with_reducible exact Below.refl _ _) | ((with_reducible refine bset ?_ ?_ _); (first | exact Nat.le_refl _ | omega | (simp; omega) | simp)) | ((with_reducible refine balloc ?_ ?_ _); (first | exact Nat.le_refl _ | omega | (simp; omega) | simp)) | (with_reducible refine Below.drew ?_) | (with_reducible refine below_step ?_ hb4) | (with_reducible refine below_step ?_ hb3))))) | go_keep)
      (first
        | (go_at_call 28; (with_reducible refine Calls.mono (KA.out _ ?_) ?_); (exact HS1.out.below (by (repeat (first | (with_reducible exact Below.refl _ _) | ((with_reducible refine bset ?_ ?_ _); (first | exact Nat.le_refl _ | omega | (simp; omega) | simp)) | ((with_reducible refine balloc ?_ ?_ _); (first | exact Nat.le_refl _ | omega | (simp; omega) | simp)) | (with_reducible refine Below.drew ?_) | (with_reducible refine below_step ?_ hb4) | (with_reducible refine below_step ?_ hb3))))); rintro e w3 ⟨ga, ca, rfl, hPa, hb3, hga⟩; have HPa := Lib.hid hPa; have hla := hPa.lt na; clear hPa; (try simp at hga); have hz3 := hb3.size; (try simp at hz3); obtain ⟨hc3, hf3⟩ := bcell hb3; (try have y1 : wr.heap.size < w3.heap.size := by omega); (try have y2 : wr.heap.size + 1 < w3.heap.size := by omega); (try have y3 : wr.heap.size < w3.heap.size + 1 := by omega); (try have y4 : wr.heap.size + 1 < w3.heap.size + 1 := by omega); (try have y5 : wr.heap.size < w3.heap.size + 1 + 1 := by omega))
        | (go_at_call 28; (with_reducible refine Calls.mono (KB.out _ ?_) ?_); (exact HS2.out.below (by (repeat (first | (with_reducible exact Below.refl _ _) | ((with_reducible refine bset ?_ ?_ _); (first | exact Nat.le_refl _ | omega | (simp; omega) | simp)) | ((with_reducible refine balloc ?_ ?_ _); (first | exact Nat.le_refl _ | omega | (simp; omega) | simp)) | (with_reducible refine Below.drew ?_) | (with_reducible refine below_step ?_ hb4) | (with_reducible refine below_step ?_ hb3))))); rintro e w4 ⟨gb, cb, rfl, hPb, hb4, hgb⟩; have HPb := Lib.hid hPb; have hlb := hPb.lt nb; clear hPb; (try simp at hgb); have hz4 := hb4.size; (try simp at hz4); obtain ⟨hc4, hf4⟩ := bcell hb4; (try have x1 : wr.heap.size < w4.heap.size := by omega); (try have x2 : wr.heap.size + 1 < w4.heap.size := by omega); (try have x3 : wr.heap.size < w4.heap.size + 1 := by omega); (try have x4 : wr.heap.size + 1 < w4.heap.size + 1 := by omega); (try have x5 : wr.heap.size < w4.heap.size + 1 + 1 := by omega); (try have x6 : w3.heap.size < w4.heap.size := by omega); (try have x7 : w3.heap.size + 1 < w4.heap.size := by omega); (try have x8 : w3.heap.size < w4.heap.size + 1 := by omega)))
    all_goals go_wp2
    all_goals go_meet
    all_goals (refine ⟨_, _, ga, ca, gb, cb, rfl, rfl, ?_, ?_, ?_, ?_, ?_, (by omega), (by omega), by omega⟩)
    all_goals (repeat (first
      | (with_reducible exact HPa.out)
      | (with_reducible exact HPb.out)
      | (with_reducible exact BoxAt.new _ _ _)
      | (with_reducible exact box_new2 _ _ _ _)
      | (with_reducible exact box_new4 _ _ _ _ _)
      | (with_reducible refine box_set1 ?_)
      | (with_reducible refine box_other1 ?_ (by omega))
      | (with_reducible refine box_step ?_ hb4)
      | (with_reducible refine box_step ?_ hb3)
      | (with_reducible refine BoxAt.alloc ?_ _)
      | (with_reducible refine BoxAt.drew ?_)
      | (with_reducible refine pts_set1 ?_ (by omega))
      | (with_reducible refine pts_step1 ?_ na hb4)
      | (with_reducible refine pts_step1 ?_ nb hb4)
      | (with_reducible refine pts_step1 ?_ na hb3)
      | (with_reducible refine pts_step1 ?_ nb hb3)
      | (with_reducible refine pts_alloc1 ?_ na)
      | (with_reducible refine pts_alloc1 ?_ nb)
      | (with_reducible refine pts_drew1 ?_)
      | (with_reducible exact Below.refl _ _)
      | (with_reducible refine bset ?_ ?_ _; (first | exact Nat.le_refl _ | omega | (simp; omega) | simp))
      | (with_reducible refine balloc ?_ ?_ _; (first | exact Nat.le_refl _ | omega | (simp; omega) | simp))
      | (with_reducible refine Below.drew ?_)
      | (with_reducible refine below_step ?_ hb4)
      | (with_reducible refine below_step ?_ hb3)))
  case rest =>
    obtain ⟨wd, rfl⟩ : ∃ x : World, x = wc := ⟨_, rfl⟩
    obtain ⟨La, Lb, ga, ca, gb, cb, rfl, rfl, ha, hb, hpa, hpb, hbw, hLL, hAB, hLw0⟩ := hcut
    have hLw : w.heap.size ≤ Lb := by have := hB0.size; omega
    have hBd := Lib.hid (below_step hB0 hbw)
    have GA := Lib.hid MA.out.good
    have na2 := GA.out.lo
    have nb2 := MB.out.good.lo
    have na6 := MA.out.few
    have nb6 := MB.out.few
    obtain ⟨ax1, ax2⟩ := MA.out.bx (a.n - 1) (by omega)
    obtain ⟨ay1, ay2⟩ := MA.out.bY (a.n - 1) (by omega)
    obtain ⟨bx1, bx2⟩ := MB.out.bx 0 (by omega)
    obtain ⟨by1, by2⟩ := MB.out.bY 0 (by omega)
    obtain ⟨xa, ya⟩ := hpa (a.n - 1) (by omega)
    obtain ⟨xb, yb⟩ := hpb 0 (by omega)
    rw [Nat.zero_mul, Nat.add_zero] at xb yb
    rw [Nat.zero_add] at xa ya
    obtain ⟨p, hp⟩ : ∃ p, p = a.X (a.n - 1) - b0.X 0 := ⟨_, rfl⟩
    obtain ⟨q, hq⟩ : ∃ q, q = a.Y (a.n - 1) - b0.Y 0 := ⟨_, rfl⟩
    obtain ⟨b, hbd⟩ : ∃ b, b = mv b0 p q := ⟨_, rfl⟩
    have hbn : b.n = b0.n := by rw [hbd]; rfl
    have hgb : Good b := by
      rw [hbd]
      refine mv_good MB.out.good p q (fun i hi => ?_)
      have h1 := MB.out.bx i hi
      have h2 := MB.out.bY i hi
      unfold okc
      omega
    have hjx : a.X (a.n - 1) = b.X 0 := by rw [hbd]; show _ = b0.X 0 + p; omega
    have hjy : a.Y (a.n - 1) = b.Y 0 := by rw [hbd]; show _ = b0.Y 0 + q; omega
    have HMV := Lib.hid (fun W (hW : Pts W gb 0 b0.n b0.X b0.Y) => moved_any gb 0 cb b0 p q W hW nb (by omega) (fun i hi => by have := MB.out.bx i hi; omega) (fun i hi => by have := MB.out.bY i hi; omega) (by omega) (by omega) (by omega) (by omega))
    have GB := Lib.hid hgb
    have HJX := Lib.hid hjx
    have HJY := Lib.hid hjy
    obtain ⟨ex, hex⟩ : ∃ z, z = a.X (a.n - 1) := ⟨_, rfl⟩
    obtain ⟨ey, hey⟩ : ∃ z, z = a.Y (a.n - 1) := ⟨_, rfl⟩
    obtain ⟨bx, hbx⟩ : ∃ z, z = b0.X 0 := ⟨_, rfl⟩
    obtain ⟨by_, hby⟩ : ∃ z, z = b0.Y 0 := ⟨_, rfl⟩
    rw [← hex] at xa ax1 ax2 hp
    rw [← hey] at ya ay1 ay2 hq
    rw [← hbx] at xb bx1 bx2 hp
    rw [← hby] at yb by1 by2 hq
    have wp : IntKind.i64.wrap (ex - bx) = p := by rw [hp]; exact IntWalk.i64_in _ (by omega)
    have wq : IntKind.i64.wrap (ey - by_) = q := by rw [hq]; exact IntWalk.i64_in _ (by omega)
    have HBD := Lib.hid hbd
    have HBN := Lib.hid hbn
    have j2 : (0 : Int) ≤ (a.n : Int) - 1 := by omega
    have j3 : (a.n : Int) - 1 < (a.n : Int) := by omega
    have j4 : IntKind.i64.wrap ((a.n : Int) - 1) = (a.n : Int) - 1 := IntWalk.i64_in _ (by omega)
    have j5 : ((a.n : Int) - 1).toNat = a.n - 1 := by omega
    have j6 : (1 : Int) ≤ (a.n : Int) := by omega
    have j9 : 1 ≤ a.n := by omega
    have j10 : a.n - 1 < a.n := by omega
    have j11 : (0 : Int) < (b0.n : Int) := by omega
    have a0 : wd.cell? ⟨La, 0, none⟩ = some (.slice (some ⟨ga, 0, none⟩) a.n ca) := ha.cell 0
    have HBX := Lib.hid hbx
    have HBY := Lib.hid hby
    clear hgb hjx hjy hex hey hbx hby hp hq hbd hbn k0 k1 k2 k3 k4 k5 l1 l2 f1 f2 HS1 HS2 KA KB hB0 hbw
    have la := ha.lt
    have lb := hb.lt
    have lpa := hpa.lt na
    have lpb := hpb.lt nb
    go_upto_region 3 with fail
    have E2 := Lib.hid (BoxAt.new wd 43 #[.int .i64 ex, .int .i64 ey])
    have A2 := Lib.hid (ha.alloc (.cells #[.int .i64 ex, .int .i64 ey] 43))
    have B2' := Lib.hid (hb.alloc (.cells #[.int .i64 ex, .int .i64 ey] 43))
    have PA2 := Lib.hid (pts_alloc1 (o := .cells #[.int .i64 ex, .int .i64 ey] 43) hpa na)
    have PB2 := Lib.hid (pts_alloc1 (o := .cells #[.int .i64 ex, .int .i64 ey] 43) hpb nb)
    have hB2 := Lib.hid (hBd.out.alloc hBd.out.size (.cells #[.int .i64 ex, .int .i64 ey] 43))
    obtain ⟨LE, hLE⟩ : ∃ z, z = wd.heap.size := ⟨_, rfl⟩
    have hle1 : La ≠ LE := by omega
    have hle2 : Lb ≠ LE := by omega
    have hle3 : ga ≠ LE := by omega
    have hle4 : gb ≠ LE := by omega
    rw [← hLE] at E2 ⊢
    clear ha hb hpa hpb la lb lpa lpb a0 hBd xa ya xb yb j2 j3 j4 j5 j6 j9 j10 hLE
    generalize wd.alloc (.cells #[.int .i64 ex, .int .i64 ey] 43) = W2 at *
    obtain ⟨xb, yb⟩ := PB2.out 0 (by omega)
    rw [← HBX.out, Nat.zero_mul, Nat.add_zero] at xb
    rw [← HBY.out, Nat.zero_mul, Nat.add_zero] at yb
    have e0 : W2.cell? ⟨LE, 0, none⟩ = some (.int .i64 ex) := BoxAt.cell E2.out 0
    have e1 : W2.cell? ⟨LE, 1, none⟩ = some (.int .i64 ey) := BoxAt.cell E2.out 1
    have b0' : W2.cell? ⟨Lb, 0, none⟩ = some (.slice (some ⟨gb, 0, none⟩) b0.n cb) := BoxAt.cell B2'.out 0
    have lE := BoxAt.lt E2.out
    have lB := BoxAt.lt B2'.out
    have lA := BoxAt.lt A2.out
    have lgb := PB2.out.lt nb
    go_still_tail 18, (by kernel_rfl)
    go_upto_region 4 with (go_at_call 57; (with_reducible refine Calls.mono (HMV.out _ ?_) ?_); (exact PB2.out); rintro e w5 ⟨gm, cm, rfl, hPm, hb5, hgm, hcm⟩; have hb5' : Below W2.heap.size W2 w5 := below_step ((Below.refl _ W2).drew) hb5; have A5 := Lib.hid (box_step A2.out hb5'); have B5 := Lib.hid (box_step B2'.out hb5'); have v0 : w5.cell? ⟨Lb, 0, none⟩ = some (.slice (some ⟨gb, 0, none⟩) b0.n cb) := BoxAt.cell B5.out 0; have v1 : w5.frozen? ⟨Lb, 0, none⟩ = false := BoxAt.frozen B5.out 0)
    have hgm2 : W2.heap.size ≤ gm := hgm
    have hB5 := Lib.hid (below_step hB2.out hb5')
    have PA5 := Lib.hid (pts_step1 PA2.out na hb5')
    have A6 := Lib.hid (box_other1 (h := Lb) (a := .slice (some ⟨gm, 0, none⟩) b0.n cm) A5.out hLL)
    have B6 := Lib.hid (BoxAt.set B5.out 0 (.slice (some ⟨gm, 0, none⟩) b0.n cm))
    have PA6 := Lib.hid (pts_set1 (h := Lb) (v := .slice (some ⟨gm, 0, none⟩) b0.n cm) PA5.out hAB)
    have PM6 := Lib.hid (pts_set1 (h := Lb) (v := .slice (some ⟨gm, 0, none⟩) b0.n cm) hPm (by omega))
    have hwL : w.heap.size ≤ Lb := hLw
    have hB6 := Lib.hid (hB5.out.setCell (p := ⟨Lb, 0, none⟩) hwL (.slice (some ⟨gm, 0, none⟩) b0.n cm))
    rw [← HBD.out, ← HBN.out] at PM6
    rw [← HBN.out] at A6 B6 PA6 hB6 hcm ⊢
    clear hgm hb5 hPm hb5' A5 B5 PA5 hB5 v0 v1 A2 B2' PA2 PB2 E2 hB2 e0 e1 b0' lE lB lA lgb xb yb hle1 hle2 hle3 hle4 hLw hwL hgm2 HMV
    generalize w5.setCell ⟨Lb, 0, none⟩ (.slice (some ⟨gm, 0, none⟩) b.n cm) = W6 at *
    obtain ⟨x, hx⟩ : ∃ x, x = a.st (a.n - 1) := ⟨_, rfl⟩
    obtain ⟨y, hy⟩ : ∃ y, y = b.st (b.n - 1) := ⟨_, rfl⟩
    have stb : ∀ c : Crv, Good c → 1000 ≤ c.st (c.n - 1) ∧ c.st (c.n - 1) ≤ 1073741824 := fun c hc => by
      have h0 := hc.lo
      have h1 := (hc.len (i := 0) (by omega)).2.1
      have h2 : c.st 1 = c.st 0 + c.len 0 := rfl
      have h3 : c.st 0 = 0 := rfl
      have h4 := Crv.st_mono (c := c) (show 1 ≤ c.n - 1 by omega)
      have h5 := Crv.st_lt hc.ok (i := c.n - 1) (by omega)
      have h6 := hc.hi
      omega
    obtain ⟨x1', x2'⟩ := stb a GA.out
    obtain ⟨y1', y2'⟩ := stb b GB.out
    have HLA := Lib.hid (fun W (hW : Pts W ga 0 a.n a.X a.Y) => length_good ga 0 ca a GA.out W hW)
    have HLB := Lib.hid (fun W (hW : Pts W gm 0 b.n b.X b.Y) => length_good gm 0 cm b GB.out W hW)
    rw [← hx] at HLA x1' x2'
    rw [← hy] at HLB y1' y2'
    have hsz2 : b.n ≤ 6 := by have := HBN.out; omega
    have hbl2 : 2 ≤ b.n := GB.out.lo
    have HX := Lib.hid hx
    have HY := Lib.hid hy
    have u0 : W6.cell? ⟨La, 0, none⟩ = some (.slice (some ⟨ga, 0, none⟩) a.n ca) := BoxAt.cell A6.out 0
    have u1 : W6.cell? ⟨Lb, 0, none⟩ = some (.slice (some ⟨gm, 0, none⟩) b.n cm) := BoxAt.cell B6.out 0
    have HAW : Hid (∀ W, Below W6.heap.size W6 W → (BoxAt W La 24 #[.slice (some ⟨ga, 0, none⟩) a.n ca] ∧ BoxAt W Lb 24 #[.slice (some ⟨gm, 0, none⟩) b.n cm]) ∧ Pts W ga 0 a.n a.X a.Y ∧ Pts W gm 0 b.n b.X b.Y) := fun W hW => ⟨⟨box_step A6.out hW, box_step B6.out hW⟩, pts_step1 PA6.out na hW, pts_step1 PM6.out (by omega) hW⟩
    have bLa := BoxAt.lt A6.out
    have bLb := BoxAt.lt B6.out
    clear stb hx hy ax1 ax2 ay1 ay2 bx1 bx2 by1 by2 wp wq A6 B6 PA6 PM6 j11
    go_cut [10, 11] from 46 to 49 (fun v v2 w' => v = .int .i64 x ∧ v2 = .int .i64 y ∧ Below W6.heap.size W6 w')
    case first =>
      have hBx : Below W6.heap.size W6 W6.drew := (Below.refl _ _).drew
      go_region_held3 (fun w' => w'.cell? ⟨La, 0, none⟩ = some (.slice (some ⟨ga, 0, none⟩) a.n ca) ∧ w'.cell? ⟨Lb, 0, none⟩ = some (.slice (some ⟨gm, 0, none⟩) b.n cm))
        (exact ⟨(HAW.out _ hBx).1.1.cell 0, (HAW.out _ hBx).1.2.cell 0⟩)
        (first
          | (go_at_call 22; (with_reducible refine (HLA.out _ (HAW.out _ hBx).2.1).mono ?_); rintro e w7 ⟨rfl, hb7⟩; replace hBx := below_step hBx hb7)
          | (go_at_call 22; (with_reducible refine (HLB.out _ (HAW.out _ hBx).2.2).mono ?_); rintro e w8 ⟨rfl, hb8⟩; replace hBx := below_step hBx hb8))
      all_goals go_wp2
      all_goals go_meet
      all_goals exact ⟨rfl, rfl, hBx⟩
    case rest =>
      obtain ⟨W7, rfl⟩ : ∃ x : World, x = wc := ⟨_, rfl⟩
      obtain ⟨rfl, rfl, hb7⟩ := hcut
      have HB7 := Lib.hid hb7
      have r0 : W7.cell? ⟨La, 0, none⟩ = some (.slice (some ⟨ga, 0, none⟩) a.n ca) := (HAW.out _ hb7).1.1.cell 0
      have r1 : W7.cell? ⟨Lb, 0, none⟩ = some (.slice (some ⟨gm, 0, none⟩) b.n cm) := (HAW.out _ hb7).1.2.cell 0
      have xx : ¬ x ≤ 0 := by omega
      have yy : ¬ y ≤ 0 := by omega
      have HJ := Lib.hid (fun W (q1 : Pts W ga 0 a.n a.X a.Y) (q2 : Pts W gm 0 b.n b.X b.Y) => join_good ga 0 ca gm 0 cm a b GA.out GB.out HJX.out HJY.out hcm W q1 q2)
      have hck := jn_chk HJX.out HJY.out GA.out GB.out (by omega)
      clear u0 u1 hb7
      rcases hck with hz | hz
      · have HJ1 : Hid (∀ W, Below W6.heap.size W6 W → Calls Try.prog 49 #[cv ga 0 a.n ca, cv gm 0 b.n cm] W fun e w' => ∃ g cap, e = .returned (.tuple #[cv g 0 (jn a b).n cap, .int .i64 0]) ∧ Pts w' g 0 (jn a b).n (jn a b).X (jn a b).Y ∧ Below W.heap.size W w') := fun W hW => by
          refine (HJ.out W (HAW.out _ hW).2.1 (HAW.out _ hW).2.2).mono ?_
          rintro e w' (⟨_, g, cap, h1, h2, h3, _⟩ | ⟨h0, _⟩)
          · exact ⟨g, cap, h1, h2, h3⟩
          · exact absurd hz h0
        have GJ := Lib.hid (good_of hz)
        have hjl := jn_len HJX.out HJY.out (by omega) hbl2
        rw [← HX.out, ← HY.out] at hjl
        have hm1 := Int.emod_nonneg s0 (show x + y + 1 ≠ 0 by omega)
        have hm2 := Int.emod_lt_of_pos s0 (show 0 < x + y + 1 by omega)
        have HM := Lib.hid (fun W => mod64_any s0 (x + y + 1) W (by omega) (by omega))
        generalize s0 % (x + y + 1) = s at *
        have HAB := Lib.hid (fun W (hW : Pts W gm 0 b.n b.X b.Y) => at_good gm 0 cm b GB.out (s - x) _ (pieceJ_in hbl2 (s - x)) (by omega) (by omega) W hW)
        have HLJ := Lib.hid (fun W g cap (hW : Pts W g 0 (jn a b).n (jn a b).X (jn a b).Y) => length_good g 0 cap (jn a b) GJ.out W hW)
        rw [hjl] at HLJ
        have wsx : IntKind.i64.wrap (s - x) = s - x := IntWalk.i64_in _ (by omega)
        have wxy : IntKind.i64.wrap (x + y) = x + y := IntWalk.i64_in _ (by omega)
        have wxy1 : IntKind.i64.wrap (x + y + 1) = x + y + 1 := IntWalk.i64_in _ (by omega)
        have njp : 0 < (jn a b).n := by have := GJ.out.lo; omega
        clear hjl hz HJ
        by_cases hs : s < x
        · have hja := pieceJ_in (c := a) GA.out.lo s
          obtain ⟨i1, e1, e2⟩ := jn_at1 (b := b) (by omega) hbl2 hja (by rw [← HX.out]; exact hs)
          have HAA := Lib.hid (fun W (hW : Pts W ga 0 a.n a.X a.Y) => at_good ga 0 ca a GA.out s _ hja (by omega) (by omega) W hW)
          have HAJ := Lib.hid (fun W g cap (hW : Pts W g 0 (jn a b).n (jn a b).X (jn a b).Y) => at_good g 0 cap (jn a b) GJ.out s _ i1 (by omega) (by omega) W hW)
          rw [e1, e2] at HAJ
          generalize atX a s (pieceJ a s) = vx at *
          generalize atY a s (pieceJ a s) = vy at *
          generalize atX b (s - x) (pieceJ b (s - x)) = ux at *
          generalize atY b (s - x) (pieceJ b (s - x)) = uy at *
          clear i1 e1 e2 hja
          go_upto_region 14 with (first
            | (go_at_call 49; (with_reducible refine (HJ1.out _ HB7.out).mono ?_); rintro e w8 ⟨g, cap, rfl, hPj, hb8⟩; have HPJ := Lib.hid hPj; clear hPj; replace HB7 := Lib.hid (below_step HB7.out hb8); have q1 : w8.cell? ⟨Lb, 0, none⟩ = some (.slice (some ⟨gm, 0, none⟩) b.n cm) := (HAW.out _ HB7.out).1.2.cell 0; have q2 := (HAW.out _ HB7.out).1.2.lt)
            | (go_at_call 56; (with_reducible refine (HM.out _).mono ?_); rintro e wm ⟨rfl, rfl⟩)
            | (go_at_call 31; (with_reducible refine Calls.mono (HAB.out _ ?_) ?_); (exact (HAW.out _ (HB7.out.alloc HB7.out.size _)).2.2); rintro e w9 ⟨rfl, hb9⟩; have HB9 := Lib.hid (below_step (HB7.out.alloc HB7.out.size _) hb9); have C9 := Lib.hid (box_step (BoxAt.new _ _ _) hb9); have HPJ9 := Lib.hid (pts_step1 (pts_alloc1 (o := .cells #[.slice (some ⟨g, 0, none⟩) (jn a b).n cap] 24) HPJ.out njp) njp hb9); have hz9 := hb9.size; (try simp at hz9); have p1 : w9.cell? ⟨La, 0, none⟩ = some (.slice (some ⟨ga, 0, none⟩) a.n ca) := (HAW.out _ HB9.out).1.1.cell 0; have p2 := (HAW.out _ HB9.out).1.1.lt)
            | (go_at_call 31; (with_reducible refine Calls.mono (HAA.out _ ?_) ?_); (exact (HAW.out _ (HB9.out.alloc HB9.out.size _)).2.1); rintro e w10 ⟨rfl, hb10⟩; have HB10 := Lib.hid (below_step (HB9.out.alloc HB9.out.size _) hb10); have C10 := Lib.hid (box_step (C9.out.alloc (.cells #[.int .i64 ux, .int .i64 uy] 43)) hb10); have D10 := Lib.hid (box_step (BoxAt.new _ _ _) hb10); have HPJ10 := Lib.hid (pts_step1 (pts_alloc1 (o := .cells #[.int .i64 ux, .int .i64 uy] 43) HPJ9.out njp) njp hb10); have o1 : w10.cell? ⟨w9.heap.size, 0, none⟩ = some (.int .i64 ux) := BoxAt.cell D10.out 0; have o2 : w10.cell? ⟨w9.heap.size, 1, none⟩ = some (.int .i64 uy) := BoxAt.cell D10.out 1; have o3 : w10.frozen? ⟨w9.heap.size, 0, none⟩ = false := BoxAt.frozen D10.out 0; have o4 : w10.frozen? ⟨w9.heap.size, 1, none⟩ = false := BoxAt.frozen D10.out 1))
          have hne89 : w8.heap.size ≠ w9.heap.size := by omega
          have hg8 := HPJ.out.lt njp
          have CF := Lib.hid (box_other2 (a := .int .i64 vx) (b := .int .i64 vy) C10.out hne89)
          have DF := Lib.hid ((D10.out.set 0 (.int .i64 vx)).set 1 (.int .i64 vy))
          have HPF := Lib.hid (pts_set2 (v := .int .i64 vx) (v2 := .int .i64 vy) HPJ10.out (h := w9.heap.size) (by omega))
          have HBF := Lib.hid ((HB10.out.setCell (p := ⟨w9.heap.size, 0, none⟩) HB9.out.size (.int .i64 vx)).setCell (p := ⟨w9.heap.size, 1, none⟩) HB9.out.size (.int .i64 vy))
          clear o1 o2 o3 o4 C10 D10 HPJ10 HB10 C9 HPJ9 HPJ p1 q1
          generalize (w10.setCell ⟨w9.heap.size, 0, none⟩ (.int .i64 vx)).setCell ⟨w9.heap.size, 1, none⟩ (.int .i64 vy) = Wf at *
          have HFW : Hid (∀ W, Below Wf.heap.size Wf W → (W.cell? ⟨w8.heap.size, 0, none⟩ = some (.slice (some ⟨g, 0, none⟩) (jn a b).n cap) ∧ W.cell? ⟨w9.heap.size, 0, none⟩ = some (.int .i64 vx) ∧ W.cell? ⟨w9.heap.size, 1, none⟩ = some (.int .i64 vy)) ∧ Pts W g 0 (jn a b).n (jn a b).X (jn a b).Y) := fun W hW => ⟨⟨(box_step CF.out hW).cell 0, (box_step DF.out hW).cell 0, (box_step DF.out hW).cell 1⟩, pts_step1 HPF.out njp hW⟩
          have hBx : Below Wf.heap.size Wf Wf.drew := (Below.refl _ _).drew
          go_region_held3 (fun w' => w'.cell? ⟨w8.heap.size, 0, none⟩ = some (.slice (some ⟨g, 0, none⟩) (jn a b).n cap) ∧ w'.cell? ⟨w9.heap.size, 0, none⟩ = some (.int .i64 vx) ∧ w'.cell? ⟨w9.heap.size, 1, none⟩ = some (.int .i64 vy))
            (exact (HFW.out _ hBx).1)
            (first
              | (go_at_call 22; (with_reducible refine (HLJ.out _ g cap (HFW.out _ hBx).2).mono ?_); rintro e wa ⟨rfl, hba⟩; replace hBx := below_step hBx hba)
              | (go_at_call 31; (with_reducible refine (HAJ.out _ g cap (HFW.out _ hBx).2).mono ?_); rintro e wb ⟨rfl, hbb⟩; replace hBx := below_step hBx hbb)
              | (go_at_call 18; (with_reducible refine (awake_any _).mono ?_); rintro e we ⟨rfl, hbe⟩; replace hBx := below_step hBx hbe))
          all_goals go_wp2
          all_goals go_ret
          all_goals exact ⟨by simp, below_step (below_step hB6.out HBF.out) hBx⟩
        · have hjb := pieceJ_in (c := b) hbl2 (s - x)
          rw [HX.out] at hjb
          obtain ⟨i1, e1, e2⟩ := jn_at2 HJX.out HJY.out (by omega) hbl2 hjb (by rw [← HX.out]; omega)
          have HAJ := Lib.hid (fun W g cap (hW : Pts W g 0 (jn a b).n (jn a b).X (jn a b).Y) => at_good g 0 cap (jn a b) GJ.out s _ i1 (by omega) (by omega) W hW)
          rw [e1, e2, ← HX.out] at HAJ
          generalize atX b (s - x) (pieceJ b (s - x)) = ux at *
          generalize atY b (s - x) (pieceJ b (s - x)) = uy at *
          clear i1 e1 e2 hjb
          go_upto_region 14 with (first
            | (go_at_call 49; (with_reducible refine (HJ1.out _ HB7.out).mono ?_); rintro e w8 ⟨g, cap, rfl, hPj, hb8⟩; have HPJ := Lib.hid hPj; clear hPj; replace HB7 := Lib.hid (below_step HB7.out hb8); have q1 : w8.cell? ⟨Lb, 0, none⟩ = some (.slice (some ⟨gm, 0, none⟩) b.n cm) := (HAW.out _ HB7.out).1.2.cell 0; have q2 := (HAW.out _ HB7.out).1.2.lt)
            | (go_at_call 56; (with_reducible refine (HM.out _).mono ?_); rintro e wm ⟨rfl, rfl⟩)
            | (go_at_call 31; (with_reducible refine Calls.mono (HAB.out _ ?_) ?_); (exact (HAW.out _ (HB7.out.alloc HB7.out.size _)).2.2); rintro e w9 ⟨rfl, hb9⟩; have HB9 := Lib.hid (below_step (HB7.out.alloc HB7.out.size _) hb9); have C9 := Lib.hid (box_step (BoxAt.new _ _ _) hb9); have HPJ9 := Lib.hid (pts_step1 (pts_alloc1 (o := .cells #[.slice (some ⟨g, 0, none⟩) (jn a b).n cap] 24) HPJ.out njp) njp hb9); have hz9 := hb9.size; (try simp at hz9); have p1 : w9.cell? ⟨La, 0, none⟩ = some (.slice (some ⟨ga, 0, none⟩) a.n ca) := (HAW.out _ HB9.out).1.1.cell 0; have p2 := (HAW.out _ HB9.out).1.1.lt))
          have CF := Lib.hid (C9.out.alloc (.cells #[.int .i64 ux, .int .i64 uy] 43))
          have DF := Lib.hid (BoxAt.new w9 43 #[.int .i64 ux, .int .i64 uy])
          have HPF := Lib.hid (pts_alloc1 (o := .cells #[.int .i64 ux, .int .i64 uy] 43) HPJ9.out njp)
          have HBF := Lib.hid (HB9.out.alloc HB9.out.size (.cells #[.int .i64 ux, .int .i64 uy] 43))
          clear C9 HPJ9 HPJ p1 q1
          generalize w9.alloc (.cells #[.int .i64 ux, .int .i64 uy] 43) = Wf at *
          have HFW : Hid (∀ W, Below Wf.heap.size Wf W → (W.cell? ⟨w8.heap.size, 0, none⟩ = some (.slice (some ⟨g, 0, none⟩) (jn a b).n cap) ∧ W.cell? ⟨w9.heap.size, 0, none⟩ = some (.int .i64 ux) ∧ W.cell? ⟨w9.heap.size, 1, none⟩ = some (.int .i64 uy)) ∧ Pts W g 0 (jn a b).n (jn a b).X (jn a b).Y) := fun W hW => ⟨⟨(box_step CF.out hW).cell 0, (box_step DF.out hW).cell 0, (box_step DF.out hW).cell 1⟩, pts_step1 HPF.out njp hW⟩
          have hBx : Below Wf.heap.size Wf Wf.drew := (Below.refl _ _).drew
          go_region_held3 (fun w' => w'.cell? ⟨w8.heap.size, 0, none⟩ = some (.slice (some ⟨g, 0, none⟩) (jn a b).n cap) ∧ w'.cell? ⟨w9.heap.size, 0, none⟩ = some (.int .i64 ux) ∧ w'.cell? ⟨w9.heap.size, 1, none⟩ = some (.int .i64 uy))
            (exact (HFW.out _ hBx).1)
            (first
              | (go_at_call 22; (with_reducible refine (HLJ.out _ g cap (HFW.out _ hBx).2).mono ?_); rintro e wa ⟨rfl, hba⟩; replace hBx := below_step hBx hba)
              | (go_at_call 31; (with_reducible refine (HAJ.out _ g cap (HFW.out _ hBx).2).mono ?_); rintro e wb ⟨rfl, hbb⟩; replace hBx := below_step hBx hbb)
              | (go_at_call 18; (with_reducible refine (awake_any _).mono ?_); rintro e we ⟨rfl, hbe⟩; replace hBx := below_step hBx hbe))
          all_goals go_wp2
          all_goals go_ret
          all_goals exact ⟨by simp, below_step (below_step hB6.out HBF.out) hBx⟩
      · have HJ2 : Hid (∀ W, Below W6.heap.size W6 W → Calls Try.prog 49 #[cv ga 0 a.n ca, cv gm 0 b.n cm] W fun e w' => e = .returned (.tuple #[.agg #[.slice none 0 0], .int .i64 12]) ∧ Below W.heap.size W w') := fun W hW => by
          refine (HJ.out W (HAW.out _ hW).2.1 (HAW.out _ hW).2.2).mono ?_
          rintro e w' (⟨h0, _⟩ | ⟨_, h1, h2⟩)
          · rw [hz] at h0; cases h0
          · rw [hz] at h1; exact ⟨h1, h2⟩
        clear hz HJ
        go_wp2_with (first
          | (go_at_call 49; (with_reducible refine (HJ2.out _ HB7.out).mono ?_); rintro e w8 ⟨rfl, hb8⟩; replace HB7 := Lib.hid (below_step HB7.out hb8); have hszz := Lib.hid HB7.out.size)
          | (go_at_call 18; (with_reducible refine (awake_any _).mono ?_); rintro e w9 ⟨rfl, hb9⟩))
        go_ret
        exact ⟨rfl, below_step ((below_step hB6.out HB7.out).alloc (by have := hB6.out.size; have := HB7.out.size; omega) _) hb9⟩
end Go.Proofs.Ytglkpabcflecmaa
