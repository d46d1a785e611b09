/- The reference's Near of a valid curve. -/
import Derived.Test.YtglkpabcflecmaaNear
import Derived.Test.YtglkpabcflecmaaRFlo
namespace Go.Proofs.Ytglkpabcflecmaa
open Go.RowKit Go.Shelf

theorem box_set2 {W : World} {g : Nat} {a b : Int} (h : BoxAt W g 43 #[.int .i64 0, .int .i64 0]) : BoxAt ((W.setCell ⟨g, 0, none⟩ (.int .i64 a)).setCell ⟨g, 1, none⟩ (.int .i64 b)) g 43 #[.int .i64 a, .int .i64 b] := (h.set 0 _).set 1 _
theorem box_other2 {W : World} {g h : Nat} {a b : Value} {t : TypeId} {cs : Array Value} (hb : BoxAt W g t cs) (hne : g ≠ h) : BoxAt ((W.setCell ⟨h, 0, none⟩ a).setCell ⟨h, 1, none⟩ b) g t cs := (hb.other hne 0 a).other hne 1 b
theorem box_new2 (W : World) (o : Obj) (t : TypeId) (cs : Array Value) : BoxAt ((W.alloc o).alloc (.cells cs t)) (W.heap.size + 1) t cs := by
  have := BoxAt.new (W.alloc o) t cs
  rwa [World.size_alloc] at this
theorem box_new3 (W : World) (p1 p2 : Addr) (v1 v2 : Value) (t : TypeId) (cs : Array Value) : BoxAt (((W.setCell p1 v1).setCell p2 v2).alloc (.cells cs t)) W.heap.size t cs := by
  have := BoxAt.new ((W.setCell p1 v1).setCell p2 v2) t cs
  simpa using this

theorem rpcs_named (b off cap : Nat) (c : Crv) (hg : Good c) (N : Nat) (hN : c.n - 1 = N) (w : World) (hp : Pts w b off c.n c.X c.Y) :
    Calls Try.prog 26 #[cv b off c.n cap] w fun e w' => ∃ g cap', e = .returned (.slice (some ⟨g, 0, none⟩) N cap') ∧ Ints w' g N c.len ∧ Below w.heap.size w w' := by
  subst hN; exact rpieces_good b off cap c hg w hp

set_option maxRecDepth 100000 in
set_option maxHeartbeats 4000000 in
theorem rnear_good (b off cap : Nat) (c : Crv) (hg : Good c) (p q r : Int) (hp1 : okc p) (hq1 : okc q) (hr0 : 0 ≤ r) (hr1 : r ≤ 16777216) (w : World) (hp : Pts w b off c.n c.X c.Y) :
    Calls Try.prog 34 #[cv b off c.n cap, sp p q, .int .i64 r] w (NearPost (nearL c p q r (c.n - 1)) w) := by
  obtain ⟨i0_, hi0, hz0, hz1, hz2⟩ := info_parts Try.info2
  have hI0 := Lib.hid hi0
  have hZ0 := Lib.hid hz0
  have hZ1 := Lib.hid hz1
  have hZ2 := Lib.hid hz2
  clear hi0 hz0 hz1 hz2
  have HG := Lib.hid hg
  obtain ⟨hn, hn', hok, _⟩ := id hg
  have hb := hp.lt (by omega)
  have HV : Hid (vp (p, q) = true) := (vp_iff _).2 ⟨hp1, hq1⟩
  have e1 : decide (r < 0) = false := decide_eq_false (by omega)
  have e2 : decide (16777216 < r) = false := decide_eq_false (by omega)
  have hB : Below w.heap.size w ((w.alloc (.cells #[.slice (some ⟨b, off, none⟩) c.n cap] 24)).alloc (.cells #[.int .i64 p, .int .i64 q] 43)) := ((Below.refl _ w).alloc (Nat.le_refl _) _).alloc (by simp) _
  have b24 := (BoxAt.new w 24 #[.slice (some ⟨b, off, none⟩) c.n cap]).alloc (.cells #[.int .i64 p, .int .i64 q] 43)
  have b43 := BoxAt.new (w.alloc (.cells #[.slice (some ⟨b, off, none⟩) c.n cap] 24)) 43 #[.int .i64 p, .int .i64 q]
  rw [World.size_alloc] at b43
  obtain ⟨N, hN⟩ : ∃ N, c.n - 1 = N := ⟨_, rfl⟩
  have hN1 : 0 < N := by omega
  have hN2 : N ≤ 15 := by omega
  have HN := Lib.hid hN
  have hcn1 : (c.n : Int) ≤ 16 := by omega
  rw [hN]
  clear hN
  go_enter Try.func34, Try.ntmps34
  go_upto_region 5 with (first
    | (go_at_call 63; (with_reducible refine (rvalid_any p q true _ HV).mono ?_); rintro e w1 ⟨rfl, hb1⟩; have c24 := box_step b24 hb1; have c43 := box_step b43 hb1; replace hB := below_step hB hb1; have k0 : w1.cell? ⟨w.heap.size, 0, none⟩ = some (.slice (some ⟨b, off, none⟩) c.n cap) := c24.cell 0)
    | (go_at_call 26; (with_reducible refine (rpcs_named b off cap c HG.out N HN.out _ (hp.below hB hb)).mono ?_); rintro e w2 ⟨gP, capP, rfl, hI2, hb2⟩; have HI2 := Lib.hid hI2; clear hI2; have d24 := box_step c24 hb2; have d43 := box_step c43 hb2; replace hB := below_step hB hb2))
  have hl2 := d24.lt
  have h24 : Hid (∀ W, Below w2.heap.size w2 W → W.cell? ⟨w.heap.size, 0, none⟩ = some (.slice (some ⟨b, off, none⟩) c.n cap)) := fun W hW => (BoxAt.below d24 hW d24.lt).cell 0
  have h43 : Hid (∀ W, Below w2.heap.size w2 W → W.cell? ⟨w.heap.size + 1, 0, none⟩ = some (.int .i64 p) ∧ W.cell? ⟨w.heap.size + 1, 1, none⟩ = some (.int .i64 q)) := fun W hW => ⟨(BoxAt.below d43 hW d43.lt).cell 0, (BoxAt.below d43 hW d43.lt).cell 1⟩
  have hpt : Hid (∀ W, Below w2.heap.size w2 W → Pts W b off c.n c.X c.Y) := fun W hW => hp.below (below_step hB hW) hb
  have hln : Hid (∀ W, Below w2.heap.size w2 W → Ints W gP N c.len) := fun W hW => HI2.out.below hW
  have hB2 := Lib.hid hB
  have l24 := d24.lt
  have l43 := d43.lt
  have lgP : gP < w2.heap.size := World.block_lt_of_cell? w2 _ (HI2.out 0 hN1)
  have lbb : b < w2.heap.size := by have := hB.size; omega
  clear b24 b43 c24 c43 d24 d43 HI2 hb1 hb2 hB k0 hp HV hl2
  go_wp2
  go_loopw [7, 9, 10] (fun v u i wr => ∃ k : Nat, k ≤ N ∧ u = .int .i64 (c.st k) ∧ i = .int .i64 k ∧ Hid (wr.ownsRow w2.heap.size 2 1 v (nearL c p q r k).length ((nearL c p q r k).map (.int .i64))) ∧ Below w2.heap.size w2 wr) (fun _ _ i _ => 16 - (intOf i).toNat)
  case atStart => exact ⟨0, Nat.zero_le _, rfl, rfl, World.ownsRow_nil _ _ _ _, Below.refl _ _⟩
  case round =>
    obtain ⟨k, hk, rfl, rfl, HO, hBr⟩ := hrel
    by_cases hlt : k < N
    · have hcn := HN.out
      have hi : k + 1 < c.n := by omega
      obtain ⟨-, l1, l2'⟩ := hg.len hi
      obtain ⟨f1, f2⟩ := foot_bd c hok p q hp1 hq1 hi
      obtain ⟨d1, d2'⟩ := dist_bd c hok p q hp1 hq1 hi
      obtain ⟨s1, s2⟩ : 0 ≤ c.st k ∧ c.st k ≤ 100000000000000 := by
        have h2 := Crv.st_nonneg (c := c) k
        have h3 := Crv.st_lt hok (i := k) (by omega)
        exact ⟨h2, by omega⟩
      obtain ⟨hx0, hy0⟩ := hpt.out _ hBr k (by omega)
      obtain ⟨hx1, hy1⟩ := hpt.out _ hBr (k + 1) (by omega)
      have ox0 := hok k (by omega)
      have ox1 := hok (k + 1) (by omega)
      have i0 : (0 : Int) ≤ (k : Int) := Int.natCast_nonneg _
      have i1 : (k : Int) < (c.n : Int) := by omega
      have i1N : (k : Int) < (N : Int) := by omega
      have i2 : (0 : Int) ≤ (k : Int) + 1 := by omega
      have i3 : (k : Int) + 1 < (c.n : Int) := by omega
      have i4 : IntKind.i64.wrap ((k : Int) + 1) = (k : Int) + 1 := IntWalk.i64_in _ (by omega)
      have i5 : ((k : Int) + 1).toNat = k + 1 := by omega
      have b0 := h24.out _ hBr
      obtain ⟨b1, b2⟩ := h43.out _ hBr
      have z1 : w.heap.size < wr.heap.size := by have := hBr.size; omega
      have z2 : w.heap.size + 1 < wr.heap.size := by have := hBr.size; omega
      have z3 : b < wr.heap.size := by have := hBr.size; omega
      clear hcn
      go_upto_region 9 with fail
      go_cut [11, 12] from 28 to 126 (fun v v2 w' => ∃ g h, v = .pointer (some ⟨g, 0, none⟩) ∧ v2 = .pointer (some ⟨h, 0, none⟩) ∧ BoxAt w' g 43 #[.int .i64 (c.wx k), .int .i64 (c.wy k)] ∧ BoxAt w' h 43 #[.int .i64 (p - c.X k), .int .i64 (q - c.Y k)] ∧ Below wr.heap.size wr w')
      case first =>
        go_region_held3 (fun w' => w'.cell? ⟨w.heap.size, 0, none⟩ = some (.slice (some ⟨b, off, none⟩) c.n cap) ∧ w'.cell? ⟨b, off + k * 2, none⟩ = some (.int .i64 (c.X k)) ∧ w'.cell? ⟨b, off + k * 2 + 1, none⟩ = some (.int .i64 (c.Y k)) ∧
            w'.cell? ⟨b, off + (k + 1) * 2, none⟩ = some (.int .i64 (c.X (k + 1))) ∧ w'.cell? ⟨b, off + (k + 1) * 2 + 1, none⟩ = some (.int .i64 (c.Y (k + 1))) ∧ w'.cell? ⟨w.heap.size + 1, 0, none⟩ = some (.int .i64 p) ∧ w'.cell? ⟨w.heap.size + 1, 1, none⟩ = some (.int .i64 q))
          (first | (refine ⟨?_, ?_, ?_, ?_, ?_, ?_, ?_⟩ <;> (refine (Below.cell (w := wr) (B := wr.heap.size) ?_ (by assumption)).trans (by assumption); (repeat (first | (with_reducible exact Below.refl _ _) | ((with_reducible refine bset ?_ ?_ _); (first | exact Nat.le_refl _ | omega | (simp; omega) | simp)) | ((with_reducible refine balloc ?_ ?_ _); (first | exact Nat.le_refl _ | omega | (simp; omega) | simp)) | (with_reducible refine Below.drew ?_) | (with_reducible refine below_step ?_ hb4) | (with_reducible refine below_step ?_ hb3))))) | go_keep)
          (first
            | (go_at_call 48; (with_reducible refine (rminus_any (c.X (k + 1)) (c.Y (k + 1)) (c.X k) (c.Y k) _ ox1.1 ox1.2 ox0.1 ox0.2).mono ?_); rintro e w3 ⟨rfl, hb3⟩; have hz3 := hb3.size; (try simp at hz3); obtain ⟨hc3, hf3⟩ := bcell hb3; (try have y1 : wr.heap.size < w3.heap.size := by omega); (try have y2 : wr.heap.size + 1 < w3.heap.size := by omega); (try have y3 : wr.heap.size < w3.heap.size + 1 := by omega); (try have y4 : wr.heap.size + 1 < w3.heap.size + 1 := by omega); (try have y5 : wr.heap.size < w3.heap.size + 1 + 1 := by omega))
            | (go_at_call 48; (with_reducible refine (rminus_any p q (c.X k) (c.Y k) _ hp1 hq1 ox0.1 ox0.2).mono ?_); rintro e w4 ⟨rfl, hb4⟩; have hz4 := hb4.size; (try simp at hz4); obtain ⟨hc4, hf4⟩ := bcell hb4; (try have x1 : wr.heap.size < w4.heap.size := by omega); (try have x2 : wr.heap.size + 1 < w4.heap.size := by omega); (try have x3 : wr.heap.size < w4.heap.size + 1 := by omega); (try have x4 : wr.heap.size + 1 < w4.heap.size + 1 := by omega); (try have x5 : wr.heap.size < w4.heap.size + 1 + 1 := by omega); (try have x6 : w3.heap.size < w4.heap.size := by omega); (try have x7 : w3.heap.size + 1 < w4.heap.size := by omega); (try have x8 : w3.heap.size < w4.heap.size + 1 := by omega)))
        all_goals go_wp2
        all_goals go_meet
        all_goals (refine ⟨_, _, rfl, rfl, ?_, ?_, ?_⟩)
        all_goals (try show BoxAt _ _ 43 #[.int .i64 (c.X (k + 1) - c.X k), .int .i64 (c.Y (k + 1) - c.Y k)])
        all_goals (repeat (first
          | (with_reducible exact BoxAt.new _ _ _)
          | (with_reducible exact box_new2 _ _ _ _)
          | (with_reducible exact box_new3 _ _ _ _ _ _ _)
          | (with_reducible refine box_set2 ?_)
          | (with_reducible refine box_other2 ?_ (by omega))
          | (with_reducible refine box_step ?_ hb4)
          | (with_reducible refine box_step ?_ hb3)
          | (with_reducible refine BoxAt.alloc ?_ _)
          | (with_reducible refine BoxAt.drew ?_)
          | (with_reducible exact Below.refl _ _)
          | (with_reducible refine bset ?_ ?_ _; (first | exact Nat.le_refl _ | omega | (simp; omega) | simp))
          | (with_reducible refine balloc ?_ ?_ _; (first | exact Nat.le_refl _ | omega | (simp; omega) | simp))
          | (with_reducible refine Below.drew ?_)
          | (with_reducible refine below_step ?_ hb4)
          | (with_reducible refine below_step ?_ hb3)))
      case rest =>
        obtain ⟨wd, rfl⟩ : ∃ x : World, x = wc := ⟨_, rfl⟩
        obtain ⟨g, h, rfl, rfl, hbg, hbh, hbw⟩ := hcut
        have hBd := Lib.hid (below_step hBr hbw)
        have HO1 := Lib.hid (HO.out.kept (grown_of_below hbw) (Classical.em _))
        have owx := Crv.okd_wx hok (i := k) hi
        have owy := Crv.okd_wy hok (i := k) hi
        have ovx := okd_sub hp1 ox0.1
        have ovy := okd_sub hq1 ox0.2
        have HFn : Hid ((p - c.X k) * c.wx k + (q - c.Y k) * c.wy k = footI c p q k) := by show _ = _; unfold footI; rw [Int.mul_comm, Int.mul_comm (q - c.Y k)]
        have HEn : Hid (c.wx k * (q - c.Y k) - c.wy k * (p - c.X k) = sideI c p q k) := rfl
        have hdi : distI c p q k = max (sideI c p q k) (-sideI c p q k) := rfl
        have hnb : nearB c p q r k = (decide (-r * c.len k ≤ footI c p q k) && decide (footI c p q k ≤ (c.len k + r) * c.len k) && decide (max (sideI c p q k) (-sideI c p q k) ≤ r * c.len k)) := rfl
        have hof : offI c p q k = c.st k + min (max (footI c p q k / c.len k) 0) (c.len k) := rfl
        have hl1 : nearL c p q r (k + 1) = nearL c p q r k ++ if nearB c p q r k then [offI c p q k] else [] := rfl
        have hst : Hid (c.st (k + 1) = c.st k + c.len k) := rfl
        have hql := nearL_len c p q r k
        have hT : Hid (∀ W, Below w2.heap.size w2 W → W.cell? ⟨gP, k, none⟩ = some (.int .i64 (c.len k))) := fun W hW => hln.out W hW k hlt
        rw [hof] at hl1
        rw [hdi] at d1 d2'
        obtain ⟨L1, hL1⟩ : ∃ z, z = nearL c p q r (k + 1) := ⟨_, rfl⟩
        rw [← hL1] at hl1
        obtain ⟨S1, hS1⟩ : ∃ z, z = c.st (k + 1) := ⟨_, rfl⟩
        rw [← hS1] at hst
        have HLD := Lib.hid hL1
        have HSD := Lib.hid hS1
        clear hL1 hS1 hof hdi hpt b0 b1 b2 hx0 hy0 hx1 hy1 i2 i3 i4 i5 z1 z2 z3 HO ox0 ox1
        generalize nearL c p q r k = L at *
        generalize footI c p q k = F at *
        generalize sideI c p q k = E at *
        generalize c.len k = ln at *
        generalize c.st k = st at *
        generalize c.wx k = wx at *
        generalize c.wy k = wy at *
        obtain ⟨vx, hvx⟩ : ∃ z, z = p - c.X k := ⟨_, rfl⟩
        obtain ⟨vy, hvy⟩ : ∃ z, z = q - c.Y k := ⟨_, rfl⟩
        rw [← hvx] at HFn HEn hbh ovx
        rw [← hvy] at HFn HEn hbh ovy
        have HNB := Lib.hid hnb
        have HL1 := Lib.hid hl1
        clear hnb hl1 hvx hvy
        have m5 : 0 ≤ r * ln := Int.mul_nonneg hr0 (by omega)
        have m6 : r * ln ≤ 16777216 * 1048576 := Int.mul_le_mul hr1 l2' (by omega) (by omega)
        have m1 : -r * ln = -(r * ln) := Int.neg_mul _ _
        have m7 : ln * ln ≤ 1048576 * 1048576 := Int.mul_le_mul l2' l2' (by omega) (by omega)
        have m8 : 0 ≤ ln * ln := Int.mul_nonneg (by omega) (by omega)
        have m3 : (ln + r) * ln = ln * ln + r * ln := Int.add_mul _ _ _
        have m2 : -17592186044416 ≤ -r * ln ∧ -r * ln ≤ 0 := by omega
        have m4 : 0 ≤ (ln + r) * ln ∧ (ln + r) * ln ≤ 18691697672192 := by omega
        obtain ⟨m21, m22⟩ := m2
        obtain ⟨m41, m42⟩ := m4
        have M1 := Lib.hid m1
        clear m1 m3 m7 m8
        have g0 : wd.cell? ⟨g, 0, none⟩ = some (.int .i64 wx) := hbg.cell 0
        have g1 : wd.cell? ⟨g, 1, none⟩ = some (.int .i64 wy) := hbg.cell 1
        have h0 : wd.cell? ⟨h, 0, none⟩ = some (.int .i64 vx) := hbh.cell 0
        have h1 : wd.cell? ⟨h, 1, none⟩ = some (.int .i64 vy) := hbh.cell 1
        have lg := hbg.lt
        have lh := hbh.lt
        go_upto_region 10 with fail
        go_cut [13, 14] from 28 to 126 (fun v v2 w' => v = .int .i64 F ∧ v2 = .int .i64 E ∧ Below wd.heap.size wd w')
        case first =>
          have hBx : Below wd.heap.size wd wd.drew := (Below.refl _ _).drew
          go_region_held3 (fun w' => w'.cell? ⟨g, 0, none⟩ = some (.int .i64 wx) ∧ w'.cell? ⟨g, 1, none⟩ = some (.int .i64 wy) ∧ w'.cell? ⟨h, 0, none⟩ = some (.int .i64 vx) ∧ w'.cell? ⟨h, 1, none⟩ = some (.int .i64 vy))
            (refine ⟨?_, ?_, ?_, ?_⟩ <;> exact (Below.cell hBx (by assumption)).trans (by assumption))
            (first
              | (go_at_call 65; (with_reducible refine (rdot_n vx vy wx wy F _ ovx ovy owx owy HFn.out).mono ?_); rintro e w5 ⟨rfl, hb5⟩; replace hBx := below_step hBx hb5)
              | (go_at_call 75; (with_reducible refine (rcross_n wx wy vx vy E _ owx owy ovx ovy HEn.out).mono ?_); rintro e w6 ⟨rfl, hb6⟩; replace hBx := below_step hBx hb6))
          all_goals go_wp2
          all_goals go_meet
          all_goals exact ⟨rfl, rfl, hBx⟩
        case rest =>
          obtain ⟨we, rfl⟩ : ∃ x : World, x = wc := ⟨_, rfl⟩
          obtain ⟨rfl, rfl, hbe⟩ := hcut
          have hBe := Lib.hid (below_step hBd.out hbe)
          have HO2 := Lib.hid (HO1.out.kept (grown_of_below hbe) (Classical.em _))
          clear g0 g1 h0 h1 hbg hbh lg lh hBr hbw HFn HEn owx owy ovx ovy HO1
          have t0 := hT.out _ hBe.out
          go_upto_region 11 with fail
          go_cut [103] from 28 to 126 (fun v w' => ∃ tb : Bool, v = .bool tb ∧ Hid (tb = nearB c p q r k) ∧ Below we.heap.size we w')
          case first =>
            by_cases D1 : E ≤ r * ln
            · by_cases D2 : -r * ln ≤ E
              · by_cases F1 : -r * ln ≤ F
                · by_cases F2 : F ≤ (ln + r) * ln
                  · have e : Hid (true = nearB c p q r k) := by
                      show _ = _; rw [HNB.out]
                      have := M1.out
                      have a1 : max E (-E) ≤ r * ln := by omega
                      simp [F1, F2, a1]
                    have q1 : decide (E ≤ r * ln) = true := decide_eq_true D1
                    have q2 : decide (-r * ln ≤ E) = true := decide_eq_true D2
                    have q3 : decide (-r * ln ≤ F) = true := decide_eq_true F1
                    have q4 : decide (F ≤ (ln + r) * ln) = true := decide_eq_true F2
                    go_quiet (fail)
                    go_wp2
                    go_meet
                    exact ⟨true, rfl, e, below_drewN (Below.refl _ _) _⟩
                  · have e : Hid (false = nearB c p q r k) := by show _ = _; rw [HNB.out]; simp [F2]
                    have q1 : decide (E ≤ r * ln) = true := decide_eq_true D1
                    have q2 : decide (-r * ln ≤ E) = true := decide_eq_true D2
                    have q3 : decide (-r * ln ≤ F) = true := decide_eq_true F1
                    have q4 : decide (F ≤ (ln + r) * ln) = false := decide_eq_false F2
                    go_quiet (fail)
                    go_wp2
                    go_meet
                    exact ⟨false, rfl, e, below_drewN (Below.refl _ _) _⟩
                · have e : Hid (false = nearB c p q r k) := by show _ = _; rw [HNB.out]; simp [F1]
                  have q1 : decide (E ≤ r * ln) = true := decide_eq_true D1
                  have q2 : decide (-r * ln ≤ E) = true := decide_eq_true D2
                  have q3 : decide (-r * ln ≤ F) = false := decide_eq_false F1
                  go_quiet (fail)
                  go_wp2
                  go_meet
                  exact ⟨false, rfl, e, below_drewN (Below.refl _ _) _⟩
              · have e : Hid (false = nearB c p q r k) := by
                  show _ = _; rw [HNB.out]
                  have := M1.out
                  have a1 : ¬ max E (-E) ≤ r * ln := by omega
                  simp [a1]
                have q1 : decide (E ≤ r * ln) = true := decide_eq_true D1
                have q2 : decide (-r * ln ≤ E) = false := decide_eq_false D2
                go_quiet (fail)
                go_wp2
                go_meet
                exact ⟨false, rfl, e, below_drewN (Below.refl _ _) _⟩
            · have e : Hid (false = nearB c p q r k) := by
                show _ = _; rw [HNB.out]
                have a1 : ¬ max E (-E) ≤ r * ln := by omega
                simp [a1]
              have q1 : decide (E ≤ r * ln) = false := decide_eq_false D1
              go_quiet (fail)
              go_wp2
              go_meet
              exact ⟨false, rfl, e, below_drewN (Below.refl _ _) _⟩
          case rest =>
            obtain ⟨wf, rfl⟩ : ∃ x : World, x = wc := ⟨_, rfl⟩
            obtain ⟨tb, rfl, HTB, hbf⟩ := hcut
            have hBf := Lib.hid (below_step hBe.out hbf)
            have HO3 := Lib.hid (HO2.out.kept (grown_of_below hbf) (Classical.em _))
            clear t0 hBe hbe hbf HO2 hBd
            have t0 := hT.out _ hBf.out
            have lgf : gP < wf.heap.size := by have := hBf.out.size; omega
            have hw9 : IntKind.i64.wrap (st + ln) = S1 := by rw [hst.out]; exact IntWalk.i64_in _ (by omega)
            cases tb with
            | false =>
              have hrow : Hid (L1 = L) := by show _ = _; rw [HL1.out, ← HTB.out]; simp
              go_wp2
              go_roundw
              case rel => exact ⟨k + 1, by omega, congrArg (Value.int .i64) HSD.out, by go_num, by show World.ownsRow _ _ _ _ _ _ _; rw [← HLD.out, hrow.out]; exact HO3.out, hBf.out⟩
              case measure => simp [intOf]; omega
            | true =>
              have hrow : Hid (L1 = L ++ [st + min (max (F / ln) 0) ln]) := by show _ = _; rw [HL1.out, ← HTB.out]; simp
              have RF := fun W => rfloor_any F ln W (by omega) (by omega) (by omega) (by omega)
              obtain ⟨q0, hq0⟩ : ∃ z, z = F / ln := ⟨_, rfl⟩
              have hrow1 := hrow.out
              clear hrow
              rw [← hq0] at RF hrow1
              have HRF := Lib.hid RF
              obtain ⟨mi, hmi⟩ : ∃ z, z = min q0 ln := ⟨_, rfl⟩
              obtain ⟨mm, hmm⟩ : ∃ z, z = max 0 mi := ⟨_, rfl⟩
              have emm : min (max q0 0) ln = mm := by omega
              have mb1 : 0 ≤ mm := by omega
              have mb2 : mm ≤ 1048576 := by omega
              rw [emm] at hrow1
              obtain ⟨z, hz⟩ : ∃ z, z = st + mm := ⟨_, rfl⟩
              have hzw : IntKind.i64.wrap (st + mm) = z := by rw [hz]; exact IntWalk.i64_in _ (by omega)
              rw [← hz] at hrow1
              have hrow := Lib.hid hrow1
              have HMI := Lib.hid hmi
              have HMM := Lib.hid hmm
              clear hrow1 RF hq0 hmi hmm emm hz
              have HO4 := Lib.hid (HO3.out.kept (grown_of_below (Below.refl _ wf).drew) (Classical.em _))
              have hsz4 : w2.heap.size ≤ wf.heap.size := hBf.out.size
              go_upto_region 12 with fail
              go_cut [7] from 28 to 126 (fun v' w' => ∃ g7 cap1, v' = .slice (some ⟨g7, 0, none⟩) (L.length + 1) cap1 ∧ Hid (w'.ownsRow w2.heap.size 2 1 v' (L.length + 1) (L.map (.int .i64) ++ [.int .i64 z])) ∧ Below w2.heap.size w2 w')
              case first =>
                go_region_held3 (fun w' => w'.cell? ⟨gP, k, none⟩ = some (.int .i64 ln))
                  (first | go_keep | assumption)
                  (first
                    | (go_at_call 71; (with_reducible refine (HRF.out _).mono ?_); rintro e w5 ⟨rfl, rfl⟩)
                    | (refine step_min rfl _ _ q0 ln rfl rfl rfl rfl ?_; rw [← HMI.out])
                    | (refine step_max rfl _ _ 0 mi rfl rfl rfl rfl ?_; rw [← HMM.out])
                    | (refine step_append_lies _ rfl _ _ 32 rfl w2.heap.size 2 i0_ (.int .i64 0) 1 8 Try.underlying32 hI0.out hZ0.out hZ1.out hZ2.out rfl (by decide) u7 L.length (L.map (.int .i64)) rfl (HO4.out.alloc _) ⟨wf.heap.size, 0, none⟩ 1 1 [.int .i64 z] rfl rfl (cell_one_new _ _ _) (by simp [Value.oneCell']) (by decide) (by unfold maxLen; omega) (by omega) (by simp; omega) _ rfl ?_; intro g7 cap7 w7 hown7 hgrow hat hlt7; have c7 : w7.cell? ⟨gP, k, none⟩ = some (.int .i64 ln) := (hgrow.cell_far ⟨gP, k, none⟩ (by simp; omega) (fun e => by have := (row_cells HO4.out e.symm).1; simp at this; omega)).trans (by simp [*])))
                all_goals go_wp2
                all_goals go_meet
                all_goals exact ⟨_, _, rfl, hown7, (hBf.out.drew.alloc (by simp; omega) _).grown hgrow (by simp; omega) (fun g e => (row_cells HO4.out e).1)⟩
              case rest =>
                obtain ⟨wg, rfl⟩ : ∃ x : World, x = wc := ⟨_, rfl⟩
                obtain ⟨g7, cap7, rfl, HO5, hBg⟩ := hcut
                have t1 := hT.out _ hBg
                have lgg : gP < wg.heap.size := by have := hBg.size; omega
                go_wp2
                go_roundw
                case rel => exact ⟨k + 1, by omega, congrArg (Value.int .i64) HSD.out, by go_num, by show World.ownsRow _ _ _ _ _ _ _; rw [← HLD.out, hrow.out, List.length_append, List.map_append]; exact HO5.out, hBg⟩
                case measure => simp [intOf]; omega
    · obtain rfl : k = N := by omega
      have i1N : ¬ ((k : Nat) : Int) < (k : Int) := by omega
      have hBBf := Lib.hid (below_step hB2.out hBr)
      rcases Nat.eq_zero_or_pos (nearL c p q r k).length with hz | hz
      · have HO1 := HO.out
        rw [hz] at HO1
        obtain ⟨A, cap', rfl⟩ : ∃ A cap', u7 = .slice A 0 cap' := by
          rcases HO1.2 with ⟨rfl, _⟩ | ⟨g, cap', cur, rfl, _⟩
          · exact ⟨_, _, rfl⟩
          · exact ⟨_, _, rfl⟩
        clear HO1
        go_wp2
        go_ret
        exact ⟨A, cap', by rw [hz]; rfl, fun h => absurd h (by omega), hBBf.out⟩
      · obtain ⟨g, cap', rfl, hg1, hg2⟩ := HO.out.form hz
        have HI := Lib.hid (ints_list HO.out)
        go_wp2
        go_ret
        exact ⟨some ⟨g, 0, none⟩, cap', rfl, fun _ => ⟨g, rfl, HI.out⟩, hBBf.out⟩
end Go.Proofs.Ytglkpabcflecmaa
