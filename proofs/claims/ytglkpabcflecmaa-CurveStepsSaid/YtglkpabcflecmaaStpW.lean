/- The walk of the law CurveSteps. -/
import Derived.Test.YtglkpabcflecmaaStpM
import Derived.Test.YtglkpabcflecmaaNear
import Derived.Test.YtglkpabcflecmaaRNea
namespace Go.Proofs.Ytglkpabcflecmaa
open Go.RowKit Go.Shelf

/-- Is one of the first k numbers within 2 of s? -/
def closeB (L : List Int) (s : Int) (k : Nat) : Bool := (L.take k).any fun z => decide (s - 2 ≤ z) && decide (z ≤ s + 2)
theorem closeB_succ (L : List Int) (s : Int) {k : Nat} (hk : k < L.length) : closeB L s (k + 1) = (closeB L s k || (decide (s - 2 ≤ L.getD k 0) && decide (L.getD k 0 ≤ s + 2))) := by
  unfold closeB
  rw [List.take_succ_eq_append_getElem hk, List.any_append]
  simp [hk]
theorem closeB_all {L : List Int} {s z : Int} (hz : z ∈ L) (h1 : s - 2 ≤ z) (h2 : z ≤ s + 2) : closeB L s L.length = true := by
  unfold closeB
  rw [List.take_length, List.any_eq_true]
  exact ⟨z, hz, by simp [h1, h2]⟩

theorem two_bound {l z : Int} (hl : 0 < l) {t : Int} (t0 : 0 ≤ t) (t1 : t ≤ l) (h1 : -l ≤ z) (h2 : z ≤ l) : -l ≤ z * t / l ∧ z * t / l ≤ l := by
  have a1 := Int.mul_le_mul_of_nonneg_right h2 t0
  have a2 := Int.mul_le_mul_of_nonneg_right h1 t0
  have a3 := Int.mul_le_mul_of_nonneg_left t1 (show 0 ≤ l by omega)
  have a4 : -l * t = -(l * t) := Int.neg_mul _ _
  have a5 : -l * l = -(l * l) := Int.neg_mul _ _
  have a6 : (l + 1) * l = l * l + l := by grind
  constructor
  · exact Int.le_ediv_of_mul_le hl (by omega)
  · have := Int.ediv_lt_of_lt_mul (a := z * t) (b := l + 1) hl (by omega)
    omega

set_option maxRecDepth 100000 in
set_option maxHeartbeats 8000000 in
theorem steps_walk (x y : Int) (B : Option Addr) (m bc : Nat) (S : Nat → Int) (s0 r0 : Int) (w : World) (hS : Stps w B m S) :
    Calls Try.prog 11 #[chv x y B m bc, .int .i64 s0, .int .i64 r0] w fun e w' => e = .returned (.bool true) ∧ Below w.heap.size w w' := by
  have hB : Below w.heap.size w (w.alloc (.cells #[.int .i64 x, .int .i64 y, .slice B m bc] 37)) := (Below.refl _ w).alloc (Nat.le_refl _) _
  obtain ⟨d, hm, hk⟩ := kit_makes x y B m bc S
  have hg := hm.good
  have HG := Lib.hid hg
  have HK := Lib.hid hk
  have HS := Lib.hid (hS.below hB)
  have hd2 : 0 < d.n := by have := hg.lo; omega
  obtain ⟨n, hn⟩ : ∃ n, n = d.st (d.n - 1) := ⟨_, rfl⟩
  have hn1 : 1000 ≤ n := by
    have h1 := (hg.len (i := 0) (by have := hg.lo; omega)).2.1
    have h2 : d.st 1 = d.st 0 + d.len 0 := rfl
    have h3 : d.st 0 = 0 := rfl
    have h4 := Crv.st_mono (c := d) (show 1 ≤ d.n - 1 by have := hg.lo; omega)
    omega
  have hn2 : n ≤ 4294967296 := by
    have := Crv.st_lt hg.ok (i := d.n - 1) (by omega)
    have h5 := hm.few
    omega
  have hmod1 := Int.emod_nonneg s0 (show n ≠ 0 by omega)
  have hmod2 := Int.emod_lt_of_pos s0 (show 0 < n by omega)
  have HM1 := Lib.hid (fun W => mod64_any s0 n W (by omega) hn2)
  generalize s0 % n = s at *
  have hr1 := Int.emod_nonneg r0 (show (999 : Int) ≠ 0 by omega)
  have hr2 := Int.emod_lt_of_pos r0 (show (0 : Int) < 999 by omega)
  have HM2 := Lib.hid (fun W => mod64_any r0 999 W (by omega) (by omega))
  generalize r0 % 999 = r at *
  obtain ⟨j, t, hj, t0, t1, hst, ⟨hj1, ea1, ea2⟩, j2, hj2, eb1, eb2⟩ := steps_at hg hmod1 (by rw [← hn]; exact hmod2)
  obtain ⟨z, hz1, hz2, hz3⟩ := steps_near hg (r := 2 + r) hj t0 t1 hst (by omega)
  obtain ⟨hls, l1, l2⟩ := hg.len hj
  obtain ⟨px1, px2⟩ := abs_le_of_sq (l := d.len j) (a := d.wx j) (b := d.wy j) (by omega) hls
  obtain ⟨py1, py2⟩ := abs_le_of_sq (l := d.len j) (a := d.wy j) (b := d.wx j) (by omega) (hls.trans (Int.add_comm _ _))
  obtain ⟨fx1, fx2⟩ := floor_step (l := d.len j) (t := t) (by omega) px1 px2
  obtain ⟨fy1, fy2⟩ := floor_step (l := d.len j) (t := t) (by omega) py1 py2
  obtain ⟨bx1, bx2⟩ := two_bound (l := d.len j) (by omega) t0 (by omega) px1 px2
  obtain ⟨by1, by2⟩ := two_bound (l := d.len j) (by omega) t0 (by omega) py1 py2
  have lj := hm.pc j hj
  obtain ⟨X1, X2⟩ := hm.bx j (by omega)
  obtain ⟨Y1, Y2⟩ := hm.bY j (by omega)
  have HA := Lib.hid (fun W g c' (hp : Pts W g 0 d.n d.X d.Y) => at_good g 0 c' d hg s j hj1 (by omega) (by omega) W hp)
  have HB2 := Lib.hid (fun W g c' (hp : Pts W g 0 d.n d.X d.Y) => at_good g 0 c' d hg (s + 1) j2 hj2 (by omega) (by omega) W hp)
  rw [ea1, ea2] at HA
  rw [eb1, eb2] at HB2
  obtain ⟨ax, hax⟩ : ∃ z, z = d.X j + d.wx j * t / d.len j := ⟨_, rfl⟩
  obtain ⟨ay, hay⟩ : ∃ z, z = d.Y j + d.wy j * t / d.len j := ⟨_, rfl⟩
  obtain ⟨bx, hbx⟩ : ∃ z, z = d.X j + d.wx j * (t + 1) / d.len j := ⟨_, rfl⟩
  obtain ⟨by_, hby⟩ : ∃ z, z = d.Y j + d.wy j * (t + 1) / d.len j := ⟨_, rfl⟩
  rw [← hax, ← hay] at HA hz1
  rw [← hbx, ← hby] at HB2
  have qx1 : -1 ≤ bx - ax ∧ bx - ax ≤ 1 := by omega
  have qy1 : -1 ≤ by_ - ay ∧ by_ - ay ≤ 1 := by omega
  have qx2 : -50000 ≤ ax ∧ ax ≤ 50000 := by omega
  have qy2 : -50000 ≤ ay ∧ ay ≤ 50000 := by omega
  clear hax hay hbx hby fx1 fx2 fy1 fy2 bx1 bx2 by1 by2 X1 X2 Y1 Y2 lj px1 px2 py1 py2 l1 l2 hls hj hj1 hj2 ea1 ea2 eb1 eb2 t0 t1 hst
  obtain ⟨qx11, qx12⟩ := qx1
  obtain ⟨qy11, qy12⟩ := qy1
  obtain ⟨qx21, qx22⟩ := qx2
  obtain ⟨qy21, qy22⟩ := qy2
  have oax : okc ax := ⟨by omega, by omega⟩
  have oay : okc ay := ⟨by omega, by omega⟩
  have HN := Lib.hid (fun W g c' (hp : Pts W g 0 d.n d.X d.Y) => near_good g 0 c' d hg ax ay (2 + r) oax oay (by omega) (by omega) W hp)
  have hlen : (nearL d ax ay (2 + r) (d.n - 1)).length ≤ 16 := by have := nearL_len d ax ay (2 + r) (d.n - 1); have := hm.few; omega
  generalize nearL d ax ay (2 + r) (d.n - 1) = NL at *
  have HZ := Lib.hid (closeB_all hz1 hz2 hz3)
  have HLn := Lib.hid (fun W g c' (hp : Pts W g 0 d.n d.X d.Y) => length_good g 0 c' d hg W hp)
  rw [← hn] at HLn
  have n1 : decide (1 < bx - ax) = false := decide_eq_false (by omega)
  have n2 : decide (1 < ax - bx) = false := decide_eq_false (by omega)
  have n3 : decide (1 < by_ - ay) = false := decide_eq_false (by omega)
  have n4 : decide (1 < ay - by_) = false := decide_eq_false (by omega)
  have hsw : IntKind.i64.wrap (s + 1) = s + 1 := IntWalk.i64_in _ (by omega)
  have hrw : IntKind.i64.wrap (2 + r) = 2 + r := IntWalk.i64_in _ (by omega)
  clear hz1 hz2 hz3 hk hS hg hm hn oax oay
  go_enter Try.func11, Try.ntmps11
  go_upto_region 2 with (go_at_call 28; (with_reducible refine (HK.out _ HS.out).mono ?_); rintro e w1 ⟨g, c', rfl, hP, hb1, hgl⟩; have HP := Lib.hid hP; clear hP; replace hB := below_step hB hb1)
  have hlg := HP.out.lt hd2
  have hbox := BoxAt.new w1 24 #[.slice (some ⟨g, 0, none⟩) d.n c']
  have hb2 : Below w1.heap.size w1 (w1.alloc (.cells #[.slice (some ⟨g, 0, none⟩) d.n c'] 24)) := (Below.refl _ w1).alloc (Nat.le_refl _) _
  have HP2 := Lib.hid (HP.out.below hb2 hlg)
  replace hB := below_step hB hb2
  generalize w1.alloc (.cells #[.slice (some ⟨g, 0, none⟩) d.n c'] 24) = w2 at *
  have k0 : w2.cell? ⟨w1.heap.size, 0, none⟩ = some (.slice (some ⟨g, 0, none⟩) d.n c') := hbox.cell 0
  have hl2 := hbox.lt
  clear HP hlg
  go_upto_region 6 with (first
    | (go_at_call 22; (with_reducible refine (HLn.out _ g c' HP2.out).mono ?_); rintro e w3 ⟨rfl, hb3⟩; have hbx3 := box_step hbox hb3; have HP3 := Lib.hid (HP2.out.below hb3 (HP2.out.lt hd2)); replace hB := below_step hB hb3)
    | (go_at_call 56; (with_reducible refine (HM1.out _).mono ?_); rintro e w4 ⟨rfl, rfl⟩))
  have hl3 := hbx3.lt
  have hboxW : Hid (∀ W, Below w3.heap.size w3 W → W.cell? ⟨w1.heap.size, 0, none⟩ = some (.slice (some ⟨g, 0, none⟩) d.n c')) := fun W hW => (BoxAt.below hbx3 hW hbx3.lt).cell 0
  have hpt : Hid (∀ W, Below w3.heap.size w3 W → Pts W g 0 d.n d.X d.Y) := fun W hW => HP3.out.below hW (HP3.out.lt hd2)
  have hB3 := Lib.hid hB
  have k3 : w3.cell? ⟨w1.heap.size, 0, none⟩ = some (.slice (some ⟨g, 0, none⟩) d.n c') := hbx3.cell 0
  clear hbox hbx3 HP2 HP3 k0 hl2 HK HS hB hb1 hb2 hb3 hgl HLn HM1
  go_cut [9, 10] from 23 to 29 (fun v v2 w' => ∃ g h, v = .pointer (some ⟨g, 0, none⟩) ∧ v2 = .pointer (some ⟨h, 0, none⟩) ∧ BoxAt w' g 43 #[.int .i64 ax, .int .i64 ay] ∧ BoxAt w' h 43 #[.int .i64 bx, .int .i64 by_] ∧ Below w3.heap.size w3 w')
  case first =>
    go_region_held3 (fun w' => w'.cell? ⟨w1.heap.size, 0, none⟩ = some (.slice (some ⟨g, 0, none⟩) d.n c'))
      (first | (refine (Below.cell (w := w3) (B := w3.heap.size) ?_ (by assumption)).trans (by assumption); (repeat (first | (with_reducible exact Below.refl _ _) | ((with_reducible refine bset ?_ ?_ _); (first | exact Nat.le_refl _ | omega | (simp; omega) | simp)) | ((with_reducible refine balloc ?_ ?_ _); (first | exact Nat.le_refl _ | omega | (simp; omega) | simp)) | (with_reducible refine Below.drew ?_) | (with_reducible refine below_step ?_ hb6) | (with_reducible refine below_step ?_ hb5)))) | go_keep)
      (first
        | (go_at_call 31; (with_reducible refine Calls.mono (HA.out _ g c' ?_) ?_); (exact hpt.out _ (by (repeat (first | (with_reducible exact Below.refl _ _) | ((with_reducible refine bset ?_ ?_ _); (first | exact Nat.le_refl _ | omega | (simp; omega) | simp)) | ((with_reducible refine balloc ?_ ?_ _); (first | exact Nat.le_refl _ | omega | (simp; omega) | simp)) | (with_reducible refine Below.drew ?_) | (with_reducible refine below_step ?_ hb6) | (with_reducible refine below_step ?_ hb5))))); rintro e w5 ⟨rfl, hb5⟩; have hz5 := hb5.size; (try simp at hz5); obtain ⟨hc5, hf5⟩ := bcell hb5; (try have y1 : w3.heap.size < w5.heap.size := by omega); (try have y2 : w3.heap.size + 1 < w5.heap.size := by omega); (try have y3 : w3.heap.size < w5.heap.size + 1 := by omega); (try have y4 : w3.heap.size + 1 < w5.heap.size + 1 := by omega); (try have y5 : w3.heap.size < w5.heap.size + 1 + 1 := by omega))
        | (go_at_call 31; (with_reducible refine Calls.mono (HB2.out _ g c' ?_) ?_); (exact hpt.out _ (by (repeat (first | (with_reducible exact Below.refl _ _) | ((with_reducible refine bset ?_ ?_ _); (first | exact Nat.le_refl _ | omega | (simp; omega) | simp)) | ((with_reducible refine balloc ?_ ?_ _); (first | exact Nat.le_refl _ | omega | (simp; omega) | simp)) | (with_reducible refine Below.drew ?_) | (with_reducible refine below_step ?_ hb6) | (with_reducible refine below_step ?_ hb5))))); rintro e w6 ⟨rfl, hb6⟩; have hz6 := hb6.size; (try simp at hz6); obtain ⟨hc6, hf6⟩ := bcell hb6; (try have x1 : w3.heap.size < w6.heap.size := by omega); (try have x2 : w3.heap.size + 1 < w6.heap.size := by omega); (try have x3 : w3.heap.size < w6.heap.size + 1 := by omega); (try have x4 : w3.heap.size + 1 < w6.heap.size + 1 := by omega); (try have x5 : w3.heap.size < w6.heap.size + 1 + 1 := by omega); (try have x6 : w5.heap.size < w6.heap.size := by omega); (try have x7 : w5.heap.size + 1 < w6.heap.size := by omega); (try have x8 : w5.heap.size < w6.heap.size + 1 := by omega)))
    all_goals go_wp2
    all_goals go_meet
    all_goals (refine ⟨_, _, rfl, rfl, ?_, ?_, ?_⟩)
    all_goals (repeat (first
      | (with_reducible exact BoxAt.new _ _ _)
      | (with_reducible exact box_new2 _ _ _ _)
      | (with_reducible exact box_new3 _ _ _ _ _ _ _)
      | (with_reducible exact box_new5 _ _ _ _ _ _ _)
      | (with_reducible refine box_set2 ?_)
      | (with_reducible refine box_other2 ?_ (by omega))
      | (with_reducible refine box_step ?_ hb6)
      | (with_reducible refine box_step ?_ hb5)
      | (with_reducible refine BoxAt.alloc ?_ _)
      | (with_reducible refine BoxAt.drew ?_)
      | (with_reducible exact Below.refl _ _)
      | (with_reducible refine bset ?_ ?_ _; (first | exact Nat.le_refl _ | omega | (simp; omega) | simp))
      | (with_reducible refine balloc ?_ ?_ _; (first | exact Nat.le_refl _ | omega | (simp; omega) | simp))
      | (with_reducible refine Below.drew ?_)
      | (with_reducible refine below_step ?_ hb6)
      | (with_reducible refine below_step ?_ hb5)))
  case rest =>
    obtain ⟨wd, rfl⟩ : ∃ x : World, x = wc := ⟨_, rfl⟩
    obtain ⟨ga, gb, rfl, rfl, hba, hbb, hbw⟩ := hcut
    have a0 : wd.cell? ⟨ga, 0, none⟩ = some (.int .i64 ax) := hba.cell 0
    have a1 : wd.cell? ⟨ga, 1, none⟩ = some (.int .i64 ay) := hba.cell 1
    have b0 : wd.cell? ⟨gb, 0, none⟩ = some (.int .i64 bx) := hbb.cell 0
    have b1 : wd.cell? ⟨gb, 1, none⟩ = some (.int .i64 by_) := hbb.cell 1
    have kd := hboxW.out _ hbw
    go_upto_region 9 with fail
    go_cut [11] from 60 to 65 (fun v w' => ∃ A cap1, v = .slice A NL.length cap1 ∧ Hid (Lst w' A NL.length (fun i => NL.getD i 0)) ∧ Below w3.heap.size w3 w')
    case first =>
      have hBx := Lib.hid hbw.drew
      have hBy : Below wd.heap.size wd wd.drew := (Below.refl _ _).drew
      go_region_held3 (fun w' => w'.cell? ⟨w1.heap.size, 0, none⟩ = some (.slice (some ⟨g, 0, none⟩) d.n c') ∧ w'.cell? ⟨ga, 0, none⟩ = some (.int .i64 ax) ∧ w'.cell? ⟨ga, 1, none⟩ = some (.int .i64 ay))
        (first | exact ⟨hboxW.out _ hBx.out, (Below.cell hBy (by exact hba.lt)).trans a0, (Below.cell hBy (by exact hba.lt)).trans a1⟩)
        (first
          | (go_at_call 56; (with_reducible refine (HM2.out _).mono ?_); rintro e w5 ⟨rfl, rfl⟩)
          | (go_at_call 33; (with_reducible refine (HN.out _ g c' (hpt.out _ hBx.out)).mono ?_); rintro e w6 ⟨A, cap1, rfl, hL, hb6⟩; have HL := Lib.hid hL; clear hL; replace hBx := Lib.hid (below_step hBx.out hb6); replace hBy := below_step hBy hb6))
      all_goals go_wp2
      all_goals go_meet
      all_goals exact ⟨A, cap1, rfl, HL, hBx.out⟩
    case rest =>
      obtain ⟨we, rfl⟩ : ∃ x : World, x = wc := ⟨_, rfl⟩
      obtain ⟨A, cap1, rfl, HL, hbe⟩ := hcut
      have hBe := Lib.hid (below_step hB3.out hbe)
      clear a0 a1 b0 b1 kd hba hbb hbw hbe k3 hl3 hboxW hpt hB3 HM2 HN HA HB2 n1 n2 n3 n4 hrw
      have sw1 : IntKind.i64.wrap (s - 2) = s - 2 := IntWalk.i64_in _ (by omega)
      have sw2 : IntKind.i64.wrap (s + 2) = s + 2 := IntWalk.i64_in _ (by omega)
      go_wp2
      go_loopw [12, 13] (fun v i wr => ∃ k : Nat, k ≤ NL.length ∧ v = .bool (closeB NL s k) ∧ i = .int .i64 k ∧ Below we.heap.size we wr) (fun _ i _ => 17 - (intOf i).toNat)
      case atStart => exact ⟨0, Nat.zero_le _, by simp [closeB], rfl, Below.refl _ _⟩
      case round =>
        obtain ⟨k, hk, rfl, rfl, hBr⟩ := hrel
        by_cases hlt : k < NL.length
        · have i0 : (0 : Int) ≤ (k : Int) := Int.natCast_nonneg _
          have i1 : (k : Int) < (NL.length : Int) := by omega
          obtain ⟨gl, rfl, hI⟩ := HL.out (by omega)
          have c0 : wr.cell? ⟨gl, k, none⟩ = some (.int .i64 (NL.getD k 0)) := (hI.below hBr) k hlt
          have hsc := closeB_succ NL s hlt
          obtain ⟨zk, hzk⟩ : ∃ z, z = NL.getD k 0 := ⟨_, rfl⟩
          rw [← hzk] at c0 hsc
          obtain ⟨nb, hnb⟩ : ∃ z, z = closeB NL s k := ⟨_, rfl⟩
          rw [← hnb] at hsc ⊢
          have HSC := Lib.hid hsc
          clear hzk hnb hsc hI
          cases nb with
          | true =>
            have e : Hid (closeB NL s (k + 1) = true) := by show _ = _; rw [HSC.out]; rfl
            go_wp2
            go_roundw
            case rel => exact ⟨k + 1, by omega, congrArg Value.bool e.out.symm, by go_num, hBr⟩
            case measure => simp [intOf]; omega
          | false =>
            by_cases z1 : s - 2 ≤ zk
            · by_cases z2 : zk ≤ s + 2
              · have e : Hid (closeB NL s (k + 1) = true) := by show _ = _; rw [HSC.out]; simp [z1, z2]
                have y1 : decide (s - 2 ≤ zk) = true := decide_eq_true z1
                have y2 : decide (zk ≤ s + 2) = true := decide_eq_true z2
                go_wp2
                go_roundw
                case rel => exact ⟨k + 1, by omega, congrArg Value.bool e.out.symm, by go_num, hBr⟩
                case measure => simp [intOf]; omega
              · have e : Hid (closeB NL s (k + 1) = false) := by show _ = _; rw [HSC.out]; simp [z2]
                have y1 : decide (s - 2 ≤ zk) = true := decide_eq_true z1
                have y2 : decide (zk ≤ s + 2) = false := decide_eq_false z2
                go_wp2
                go_roundw
                case rel => exact ⟨k + 1, by omega, congrArg Value.bool e.out.symm, by go_num, hBr⟩
                case measure => simp [intOf]; omega
            · have e : Hid (closeB NL s (k + 1) = false) := by show _ = _; rw [HSC.out]; simp [z1]
              have y1 : decide (s - 2 ≤ zk) = false := decide_eq_false z1
              go_wp2
              go_roundw
              case rel => exact ⟨k + 1, by omega, congrArg Value.bool e.out.symm, by go_num, hBr⟩
              case measure => simp [intOf]; omega
        · obtain rfl : k = NL.length := by omega
          have i1 : ¬ ((NL.length : Nat) : Int) < (NL.length : Int) := by omega
          have e := HZ.out
          rw [e]
          clear e
          go_wp2_with (go_at_call 18; (with_reducible refine (awake_any _).mono ?_); rintro e w7 ⟨rfl, hb7⟩; replace hBr := below_step hBr hb7)
          go_ret
          exact ⟨rfl, below_step hBe.out hBr⟩
end Go.Proofs.Ytglkpabcflecmaa
