/- The reference's Around. -/
import Derived.Test.YtaehfildhmljeaaAro
import Derived.StillTailTactics
namespace Go.Proofs.Ytaehfildhmljeaa
open Go.RowKit Go.Shelf

set_option maxRecDepth 100000 in
set_option maxHeartbeats 8000000 in
theorem raround_any (A : Option Addr) (n cap : Nat) (X Y V : Nat → Int) (w : World) (hcl : Cloud w A n X Y V) :
    Calls Try.prog 19 #[.slice A n cap] w fun e w' => e = .returned (.tuple #[arV n X Y V, .bool (arOk n X Y V)]) ∧ Below w.heap.size w w' := by
  have hB : Below w.heap.size w (w.alloc (.cells #[.int .i64 0, .int .i64 0, .int .i64 0, .int .i64 0] 29)) := (Below.refl _ w).alloc (Nat.le_refl _) _
  have HK := Lib.hid (rcheck_any A n cap X Y V _ (hcl.below hB))
  have hbx := BoxAt.new w 29 #[.int .i64 0, .int .i64 0, .int .i64 0, .int .i64 0]
  by_cases hok : chkF n X Y V = 0
  · by_cases h0 : n = 0
    · subst h0
      have HE : Hid (arOk 0 X Y V = false) := Lib.hid rfl
      have HV : Hid (arV 0 X Y V = .agg #[.int .i64 0, .int .i64 0, .int .i64 0, .int .i64 0]) := Lib.hid (by unfold arV; rw [HE.out]; rfl)
      rw [hok] at HK
      have HR := Lib.hid hbx
      have hL2w : w.heap.size < (w.alloc (.cells #[.int .i64 0, .int .i64 0, .int .i64 0, .int .i64 0] 29)).heap.size := hbx.lt
      clear hcl hbx
      go_enter Try.func19, Try.ntmps19
      go_upto_region 2 with (go_at_call 23; (with_reducible refine HK.out.mono ?_); rintro e w1 ⟨rfl, hb1⟩; replace hB := below_step hB hb1)
      have HR1 := Lib.hid (box_step HR.out hb1)
      obtain ⟨L2, hL2⟩ : ∃ q, q = w.heap.size := ⟨_, rfl⟩
      have hge2 : w.heap.size ≤ L2 := Nat.le_of_eq hL2.symm
      rw [← hL2] at HR1 ⊢
      have HB := Lib.hid hB
      clear hL2 hB hb1 HR HK hL2w
      have r0 : w1.cell? ⟨L2, 0, none⟩ = some (.int .i64 0) := HR1.out.cell 0
      have r1 : w1.cell? ⟨L2, 1, none⟩ = some (.int .i64 0) := HR1.out.cell 1
      have r2 : w1.cell? ⟨L2, 2, none⟩ = some (.int .i64 0) := HR1.out.cell 2
      have r3 : w1.cell? ⟨L2, 3, none⟩ = some (.int .i64 0) := HR1.out.cell 3
      have f0 : w1.frozen? ⟨L2, 0, none⟩ = false := HR1.out.frozen 0
      have f1 : w1.frozen? ⟨L2, 1, none⟩ = false := HR1.out.frozen 1
      have f2 : w1.frozen? ⟨L2, 2, none⟩ = false := HR1.out.frozen 2
      have f3 : w1.frozen? ⟨L2, 3, none⟩ = false := HR1.out.frozen 3
      have l2 := HR1.out.lt
      have hz := (((HR1.out.set 0 (.int .i64 0)).set 1 (.int .i64 0)).set 2 (.int .i64 0)).set 3 (.int .i64 0)
      have HBz := Lib.hid (bset (p := ⟨L2, 3, none⟩) hge2 (bset (p := ⟨L2, 2, none⟩) hge2 (bset (p := ⟨L2, 1, none⟩) hge2 (bset (p := ⟨L2, 0, none⟩) hge2 HB.out (.int .i64 0)) (.int .i64 0)) (.int .i64 0)) (.int .i64 0))
      go_wp2
      have z0 := hz.cell 0
      have z1 := hz.cell 1
      have z2 := hz.cell 2
      have z3 := hz.cell 3
      generalize (((w1.setCell ⟨L2, 0, none⟩ (.int .i64 0)).setCell ⟨L2, 1, none⟩ (.int .i64 0)).setCell ⟨L2, 2, none⟩ (.int .i64 0)).setCell ⟨L2, 3, none⟩ (.int .i64 0) = wz at *
      replace z0 : wz.cell? ⟨L2, 0, none⟩ = some (.int .i64 0) := z0
      replace z1 : wz.cell? ⟨L2, 1, none⟩ = some (.int .i64 0) := z1
      replace z2 : wz.cell? ⟨L2, 2, none⟩ = some (.int .i64 0) := z2
      replace z3 : wz.cell? ⟨L2, 3, none⟩ = some (.int .i64 0) := z3
      refine bodyPost_ret (v := .tuple #[.agg #[.int .i64 0, .int .i64 0, .int .i64 0, .int .i64 0], .bool false]) (by simp [results, Try.results19, go_sem, z0, z1, z2, z3]) rfl ⟨?_, HBz.out⟩
      rw [HV.out, HE.out]
    · have HO := Lib.hid hok
      have HE : Hid (arOk n X Y V = true) := Lib.hid (by unfold arOk; rw [hok]; simp [h0])
      have hn := by
        have h := hok
        unfold chkF at h
        split at h
        · cases h
        · exact (show n ≤ 1000 by omega)
      have HCL := Lib.hid hcl
      have HR := Lib.hid hbx
      rw [hok] at HK
      have n1 : ((n : Int) == 0) = false := by simp; omega
      clear hcl hok hbx
      go_enter Try.func19, Try.ntmps19
      go_upto_region 3 with (go_at_call 23; (with_reducible refine HK.out.mono ?_); rintro e w1 ⟨rfl, hb1⟩; replace hB := below_step hB hb1)
      obtain ⟨blk, off, e, hc0⟩ := HCL.out (by omega)
      subst e
      have hbl := hc0.lt (by omega)
      have HC0 := Lib.hid hc0
      have HB := Lib.hid hB
      have HR1 := Lib.hid (box_step HR.out hb1)
      obtain ⟨c0, c1, _⟩ := (hc0.below hB hbl) 0 (by omega)
      rw [Nat.zero_mul, Nat.add_zero] at c0 c1
      have l1 : blk < w1.heap.size := Nat.lt_of_lt_of_le hbl hB.size
      have n2 : (0 : Int) < (n : Int) := by omega
      have n3 : 0 < n := by omega
      obtain ⟨L2, hL2⟩ : ∃ q, q = w.heap.size := ⟨_, rfl⟩
      have HL2 := Lib.hid hL2
      rw [← hL2] at HR1 ⊢
      clear hc0 hB hb1 hL2 HK HR
      go_cut [4] from 15 to 31 (fun v w' => ∃ g, v = .pointer (some ⟨g, 0, none⟩) ∧ BoxAt w' g 29 #[.int .i64 (X 0), .int .i64 (Y 0), .int .i64 (X 0), .int .i64 (Y 0)] ∧ w1.heap.size ≤ g ∧ Below w1.heap.size w1 w')
      case first =>
        go_region_held3 (fun w' => w'.cell? ⟨blk, off, none⟩ = some (.int .i64 (X 0)) ∧ w'.cell? ⟨blk, off + 1, none⟩ = some (.int .i64 (Y 0)))
          (first | exact ⟨c0, c1⟩ | go_keep)
          (fail)
        all_goals go_wp2
        all_goals go_meet
        all_goals exact ⟨_, rfl, BoxAt.drew (BoxAt.new _ _ _), Nat.le_refl _, Below.drew ((Below.refl _ w1).alloc (Nat.le_refl _) _)⟩
      case rest =>
        obtain ⟨wy, rfl⟩ : ∃ x : World, x = wc := ⟨_, rfl⟩
        obtain ⟨L4, rfl, hm, hge, hby⟩ := hcut
        have HM := Lib.hid hm
        have HR2 := Lib.hid (box_step HR1.out hby)
        have HB2 := Lib.hid (below_step HB.out hby)
        have hne : L2 < L4 := by have := HR1.out.lt; omega
        clear hm hby HR1 HB c0 c1 l1
        have HM1 : Hid (BoxAt wy L4 29 #[.int .i64 (loF X 1), .int .i64 (loF Y 1), .int .i64 (hiF X 1), .int .i64 (hiF Y 1)]) := Lib.hid (by
          show BoxAt wy L4 29 #[.int .i64 (min (X 0) (X 0)), .int .i64 (min (Y 0) (Y 0)), .int .i64 (max (X 0) (X 0)), .int .i64 (max (Y 0) (Y 0))]
          rw [show min (X 0) (X 0) = X 0 by omega, show min (Y 0) (Y 0) = Y 0 by omega, show max (X 0) (X 0) = X 0 by omega, show max (Y 0) (Y 0) = Y 0 by omega]
          exact HM.out)
        clear HM
        go_wp2
        go_loopw [5] (fun i wr => ∃ k : Nat, k ≤ n ∧ 0 < k ∧ i = .int .i64 k ∧ Hid (BoxAt wr L4 29 #[.int .i64 (loF X k), .int .i64 (loF Y k), .int .i64 (hiF X k), .int .i64 (hiF Y k)]) ∧ Hid (BoxAt wr L2 29 #[.int .i64 0, .int .i64 0, .int .i64 0, .int .i64 0]) ∧ Hid (Below w.heap.size w wr)) (fun i _ => n + 1 - (intOf i).toNat)
        case atStart => exact ⟨1, by omega, by omega, rfl, HM1, HR2, HB2⟩
        case round =>
          clear HM1 HR2 HB2
          obtain ⟨k, hk, hkp, rfl, HM, HR, HB⟩ := hrel
          by_cases hlt : k < n
          · have i0 : (0 : Int) ≤ (k : Int) := Int.natCast_nonneg _
            have i1 : (k : Int) < (n : Int) := by omega
            have l1 : blk < wr.heap.size := Nat.lt_of_lt_of_le hbl HB.out.size
            obtain ⟨c0, c1, c2⟩ := (HC0.out.below HB.out hbl) k hlt
            have hL4w : w.heap.size ≤ L4 := by have := HL2.out; omega
            have hne2 : L2 ≠ L4 := by omega
            have d0 : wr.cell? ⟨L4, 0, none⟩ = some (.int .i64 (loF X k)) := HM.out.cell 0
            have d1 : wr.cell? ⟨L4, 1, none⟩ = some (.int .i64 (loF Y k)) := HM.out.cell 1
            have d2 : wr.cell? ⟨L4, 2, none⟩ = some (.int .i64 (hiF X k)) := HM.out.cell 2
            have d3 : wr.cell? ⟨L4, 3, none⟩ = some (.int .i64 (hiF Y k)) := HM.out.cell 3
            have f0 : wr.frozen? ⟨L4, 0, none⟩ = false := HM.out.frozen 0
            have f1 : wr.frozen? ⟨L4, 1, none⟩ = false := HM.out.frozen 1
            have f2 : wr.frozen? ⟨L4, 2, none⟩ = false := HM.out.frozen 2
            have f3 : wr.frozen? ⟨L4, 3, none⟩ = false := HM.out.frozen 3
            have l3 := HM.out.lt
            obtain ⟨x1, hx1⟩ : ∃ x, x = X k := ⟨_, rfl⟩
            obtain ⟨p1, hp1⟩ : ∃ x, x = loF X k := ⟨_, rfl⟩
            obtain ⟨q1, hq1⟩ : ∃ x, x = hiF X k := ⟨_, rfl⟩
            obtain ⟨x2, hx2⟩ : ∃ x, x = Y k := ⟨_, rfl⟩
            obtain ⟨p2, hp2⟩ : ∃ x, x = loF Y k := ⟨_, rfl⟩
            obtain ⟨q2, hq2⟩ : ∃ x, x = hiF Y k := ⟨_, rfl⟩
            rw [← hx1] at c0
            rw [← hx2] at c1
            rw [← hp1] at d0
            rw [← hp2] at d1
            rw [← hq1] at d2
            rw [← hq2] at d3
            go_upto_region 7 with fail
            have hstep : ∀ u1 u2 u3 u4, u1 = min p1 x1 → u2 = min p2 x2 → u3 = max q1 x1 → u4 = max q2 x2 → Hid (∃ k', k' = k + 1 ∧ BoxAt ((((wr.drew.setCell ⟨L4, 0, none⟩ (.int .i64 u1)).setCell ⟨L4, 1, none⟩ (.int .i64 u2)).setCell ⟨L4, 2, none⟩ (.int .i64 u3)).setCell ⟨L4, 3, none⟩ (.int .i64 u4)) L4 29 #[.int .i64 (loF X (k + 1)), .int .i64 (loF Y (k + 1)), .int .i64 (hiF X (k + 1)), .int .i64 (hiF Y (k + 1))] ∧ BoxAt ((((wr.drew.setCell ⟨L4, 0, none⟩ (.int .i64 u1)).setCell ⟨L4, 1, none⟩ (.int .i64 u2)).setCell ⟨L4, 2, none⟩ (.int .i64 u3)).setCell ⟨L4, 3, none⟩ (.int .i64 u4)) L2 29 #[.int .i64 0, .int .i64 0, .int .i64 0, .int .i64 0] ∧ Below w.heap.size w ((((wr.drew.setCell ⟨L4, 0, none⟩ (.int .i64 u1)).setCell ⟨L4, 1, none⟩ (.int .i64 u2)).setCell ⟨L4, 2, none⟩ (.int .i64 u3)).setCell ⟨L4, 3, none⟩ (.int .i64 u4))) := fun u1 u2 u3 u4 h1 h2 h3 h4 => Lib.hid ⟨k + 1, rfl, by
                show BoxAt _ L4 29 #[.int .i64 (min (loF X k) (X k)), .int .i64 (min (loF Y k) (Y k)), .int .i64 (max (hiF X k) (X k)), .int .i64 (max (hiF Y k) (Y k))]
                rw [← hx1, ← hp1, ← hq1, ← hx2, ← hp2, ← hq2, ← h1, ← h2, ← h3, ← h4]
                exact (((HM.out.drew.set 0 (.int .i64 u1)).set 1 (.int .i64 u2)).set 2 (.int .i64 u3)).set 3 (.int .i64 u4), (((HR.out.drew.other hne2 0 _).other hne2 1 _).other hne2 2 _).other hne2 3 _, bset (p := ⟨L4, 3, none⟩) hL4w (bset (p := ⟨L4, 2, none⟩) hL4w (bset (p := ⟨L4, 1, none⟩) hL4w (bset (p := ⟨L4, 0, none⟩) hL4w (Below.drew HB.out) _) _) _) _⟩
            have HST := Lib.hid hstep
            clear hstep hx1 hp1 hq1 hx2 hp2 hq2 HM HR HB
            rcases Int.lt_or_le x1 p1 with a0 | a0
            · have b0 : ¬ p1 ≤ x1 := by omega
              rcases Int.lt_or_le x2 p2 with a1 | a1
              · have b1 : ¬ p2 ≤ x2 := by omega
                rcases Int.lt_or_le q1 x1 with a2 | a2
                · have b2 : ¬ x1 ≤ q1 := by omega
                  rcases Int.lt_or_le q2 x2 with a3 | a3
                  · have b3 : ¬ x2 ≤ q2 := by omega
                    have HE := HST.out x1 x2 x1 x2 (by omega) (by omega) (by omega) (by omega)
                    go_still_tail 33, (by kernel_rfl)
                    change wpList _ _ _ _ _ wr.drew
                    have g0 : wr.drew.cell? ⟨L4, 0, none⟩ = some (.int .i64 p1) := d0
                    have g1 : wr.drew.cell? ⟨L4, 1, none⟩ = some (.int .i64 p2) := d1
                    have g2 : wr.drew.cell? ⟨L4, 2, none⟩ = some (.int .i64 q1) := d2
                    have g3 : wr.drew.cell? ⟨L4, 3, none⟩ = some (.int .i64 q2) := d3
                    have j0 : wr.drew.frozen? ⟨L4, 0, none⟩ = false := f0
                    have j1 : wr.drew.frozen? ⟨L4, 1, none⟩ = false := f1
                    have j2 : wr.drew.frozen? ⟨L4, 2, none⟩ = false := f2
                    have j3 : wr.drew.frozen? ⟨L4, 3, none⟩ = false := f3
                    have l5 : L4 < wr.drew.heap.size := l3
                    clear d0 d1 d2 d3 f0 f1 f2 f3 c0 c1 c2 l1 l3
                    generalize wr.drew = wx at *
                    go_wp2
                    go_roundw
                    case rel => obtain ⟨k', rfl, h1, h2, h3⟩ := HE.out; exact ⟨k + 1, by omega, by omega, by go_num, Lib.hid h1, Lib.hid h2, Lib.hid h3⟩
                    case measure => simp [intOf]; omega
                  · have b3 : ¬ q2 < x2 := by omega
                    have HE := HST.out x1 x2 x1 q2 (by omega) (by omega) (by omega) (by omega)
                    go_still_tail 33, (by kernel_rfl)
                    change wpList _ _ _ _ _ wr.drew
                    have g0 : wr.drew.cell? ⟨L4, 0, none⟩ = some (.int .i64 p1) := d0
                    have g1 : wr.drew.cell? ⟨L4, 1, none⟩ = some (.int .i64 p2) := d1
                    have g2 : wr.drew.cell? ⟨L4, 2, none⟩ = some (.int .i64 q1) := d2
                    have g3 : wr.drew.cell? ⟨L4, 3, none⟩ = some (.int .i64 q2) := d3
                    have j0 : wr.drew.frozen? ⟨L4, 0, none⟩ = false := f0
                    have j1 : wr.drew.frozen? ⟨L4, 1, none⟩ = false := f1
                    have j2 : wr.drew.frozen? ⟨L4, 2, none⟩ = false := f2
                    have j3 : wr.drew.frozen? ⟨L4, 3, none⟩ = false := f3
                    have l5 : L4 < wr.drew.heap.size := l3
                    clear d0 d1 d2 d3 f0 f1 f2 f3 c0 c1 c2 l1 l3
                    generalize wr.drew = wx at *
                    go_wp2
                    go_roundw
                    case rel => obtain ⟨k', rfl, h1, h2, h3⟩ := HE.out; exact ⟨k + 1, by omega, by omega, by go_num, Lib.hid h1, Lib.hid h2, Lib.hid h3⟩
                    case measure => simp [intOf]; omega
                · have b2 : ¬ q1 < x1 := by omega
                  rcases Int.lt_or_le q2 x2 with a3 | a3
                  · have b3 : ¬ x2 ≤ q2 := by omega
                    have HE := HST.out x1 x2 q1 x2 (by omega) (by omega) (by omega) (by omega)
                    go_still_tail 33, (by kernel_rfl)
                    change wpList _ _ _ _ _ wr.drew
                    have g0 : wr.drew.cell? ⟨L4, 0, none⟩ = some (.int .i64 p1) := d0
                    have g1 : wr.drew.cell? ⟨L4, 1, none⟩ = some (.int .i64 p2) := d1
                    have g2 : wr.drew.cell? ⟨L4, 2, none⟩ = some (.int .i64 q1) := d2
                    have g3 : wr.drew.cell? ⟨L4, 3, none⟩ = some (.int .i64 q2) := d3
                    have j0 : wr.drew.frozen? ⟨L4, 0, none⟩ = false := f0
                    have j1 : wr.drew.frozen? ⟨L4, 1, none⟩ = false := f1
                    have j2 : wr.drew.frozen? ⟨L4, 2, none⟩ = false := f2
                    have j3 : wr.drew.frozen? ⟨L4, 3, none⟩ = false := f3
                    have l5 : L4 < wr.drew.heap.size := l3
                    clear d0 d1 d2 d3 f0 f1 f2 f3 c0 c1 c2 l1 l3
                    generalize wr.drew = wx at *
                    go_wp2
                    go_roundw
                    case rel => obtain ⟨k', rfl, h1, h2, h3⟩ := HE.out; exact ⟨k + 1, by omega, by omega, by go_num, Lib.hid h1, Lib.hid h2, Lib.hid h3⟩
                    case measure => simp [intOf]; omega
                  · have b3 : ¬ q2 < x2 := by omega
                    have HE := HST.out x1 x2 q1 q2 (by omega) (by omega) (by omega) (by omega)
                    go_still_tail 33, (by kernel_rfl)
                    change wpList _ _ _ _ _ wr.drew
                    have g0 : wr.drew.cell? ⟨L4, 0, none⟩ = some (.int .i64 p1) := d0
                    have g1 : wr.drew.cell? ⟨L4, 1, none⟩ = some (.int .i64 p2) := d1
                    have g2 : wr.drew.cell? ⟨L4, 2, none⟩ = some (.int .i64 q1) := d2
                    have g3 : wr.drew.cell? ⟨L4, 3, none⟩ = some (.int .i64 q2) := d3
                    have j0 : wr.drew.frozen? ⟨L4, 0, none⟩ = false := f0
                    have j1 : wr.drew.frozen? ⟨L4, 1, none⟩ = false := f1
                    have j2 : wr.drew.frozen? ⟨L4, 2, none⟩ = false := f2
                    have j3 : wr.drew.frozen? ⟨L4, 3, none⟩ = false := f3
                    have l5 : L4 < wr.drew.heap.size := l3
                    clear d0 d1 d2 d3 f0 f1 f2 f3 c0 c1 c2 l1 l3
                    generalize wr.drew = wx at *
                    go_wp2
                    go_roundw
                    case rel => obtain ⟨k', rfl, h1, h2, h3⟩ := HE.out; exact ⟨k + 1, by omega, by omega, by go_num, Lib.hid h1, Lib.hid h2, Lib.hid h3⟩
                    case measure => simp [intOf]; omega
              · have b1 : ¬ x2 < p2 := by omega
                rcases Int.lt_or_le q1 x1 with a2 | a2
                · have b2 : ¬ x1 ≤ q1 := by omega
                  rcases Int.lt_or_le q2 x2 with a3 | a3
                  · have b3 : ¬ x2 ≤ q2 := by omega
                    have HE := HST.out x1 p2 x1 x2 (by omega) (by omega) (by omega) (by omega)
                    go_still_tail 33, (by kernel_rfl)
                    change wpList _ _ _ _ _ wr.drew
                    have g0 : wr.drew.cell? ⟨L4, 0, none⟩ = some (.int .i64 p1) := d0
                    have g1 : wr.drew.cell? ⟨L4, 1, none⟩ = some (.int .i64 p2) := d1
                    have g2 : wr.drew.cell? ⟨L4, 2, none⟩ = some (.int .i64 q1) := d2
                    have g3 : wr.drew.cell? ⟨L4, 3, none⟩ = some (.int .i64 q2) := d3
                    have j0 : wr.drew.frozen? ⟨L4, 0, none⟩ = false := f0
                    have j1 : wr.drew.frozen? ⟨L4, 1, none⟩ = false := f1
                    have j2 : wr.drew.frozen? ⟨L4, 2, none⟩ = false := f2
                    have j3 : wr.drew.frozen? ⟨L4, 3, none⟩ = false := f3
                    have l5 : L4 < wr.drew.heap.size := l3
                    clear d0 d1 d2 d3 f0 f1 f2 f3 c0 c1 c2 l1 l3
                    generalize wr.drew = wx at *
                    go_wp2
                    go_roundw
                    case rel => obtain ⟨k', rfl, h1, h2, h3⟩ := HE.out; exact ⟨k + 1, by omega, by omega, by go_num, Lib.hid h1, Lib.hid h2, Lib.hid h3⟩
                    case measure => simp [intOf]; omega
                  · have b3 : ¬ q2 < x2 := by omega
                    have HE := HST.out x1 p2 x1 q2 (by omega) (by omega) (by omega) (by omega)
                    go_still_tail 33, (by kernel_rfl)
                    change wpList _ _ _ _ _ wr.drew
                    have g0 : wr.drew.cell? ⟨L4, 0, none⟩ = some (.int .i64 p1) := d0
                    have g1 : wr.drew.cell? ⟨L4, 1, none⟩ = some (.int .i64 p2) := d1
                    have g2 : wr.drew.cell? ⟨L4, 2, none⟩ = some (.int .i64 q1) := d2
                    have g3 : wr.drew.cell? ⟨L4, 3, none⟩ = some (.int .i64 q2) := d3
                    have j0 : wr.drew.frozen? ⟨L4, 0, none⟩ = false := f0
                    have j1 : wr.drew.frozen? ⟨L4, 1, none⟩ = false := f1
                    have j2 : wr.drew.frozen? ⟨L4, 2, none⟩ = false := f2
                    have j3 : wr.drew.frozen? ⟨L4, 3, none⟩ = false := f3
                    have l5 : L4 < wr.drew.heap.size := l3
                    clear d0 d1 d2 d3 f0 f1 f2 f3 c0 c1 c2 l1 l3
                    generalize wr.drew = wx at *
                    go_wp2
                    go_roundw
                    case rel => obtain ⟨k', rfl, h1, h2, h3⟩ := HE.out; exact ⟨k + 1, by omega, by omega, by go_num, Lib.hid h1, Lib.hid h2, Lib.hid h3⟩
                    case measure => simp [intOf]; omega
                · have b2 : ¬ q1 < x1 := by omega
                  rcases Int.lt_or_le q2 x2 with a3 | a3
                  · have b3 : ¬ x2 ≤ q2 := by omega
                    have HE := HST.out x1 p2 q1 x2 (by omega) (by omega) (by omega) (by omega)
                    go_still_tail 33, (by kernel_rfl)
                    change wpList _ _ _ _ _ wr.drew
                    have g0 : wr.drew.cell? ⟨L4, 0, none⟩ = some (.int .i64 p1) := d0
                    have g1 : wr.drew.cell? ⟨L4, 1, none⟩ = some (.int .i64 p2) := d1
                    have g2 : wr.drew.cell? ⟨L4, 2, none⟩ = some (.int .i64 q1) := d2
                    have g3 : wr.drew.cell? ⟨L4, 3, none⟩ = some (.int .i64 q2) := d3
                    have j0 : wr.drew.frozen? ⟨L4, 0, none⟩ = false := f0
                    have j1 : wr.drew.frozen? ⟨L4, 1, none⟩ = false := f1
                    have j2 : wr.drew.frozen? ⟨L4, 2, none⟩ = false := f2
                    have j3 : wr.drew.frozen? ⟨L4, 3, none⟩ = false := f3
                    have l5 : L4 < wr.drew.heap.size := l3
                    clear d0 d1 d2 d3 f0 f1 f2 f3 c0 c1 c2 l1 l3
                    generalize wr.drew = wx at *
                    go_wp2
                    go_roundw
                    case rel => obtain ⟨k', rfl, h1, h2, h3⟩ := HE.out; exact ⟨k + 1, by omega, by omega, by go_num, Lib.hid h1, Lib.hid h2, Lib.hid h3⟩
                    case measure => simp [intOf]; omega
                  · have b3 : ¬ q2 < x2 := by omega
                    have HE := HST.out x1 p2 q1 q2 (by omega) (by omega) (by omega) (by omega)
                    go_still_tail 33, (by kernel_rfl)
                    change wpList _ _ _ _ _ wr.drew
                    have g0 : wr.drew.cell? ⟨L4, 0, none⟩ = some (.int .i64 p1) := d0
                    have g1 : wr.drew.cell? ⟨L4, 1, none⟩ = some (.int .i64 p2) := d1
                    have g2 : wr.drew.cell? ⟨L4, 2, none⟩ = some (.int .i64 q1) := d2
                    have g3 : wr.drew.cell? ⟨L4, 3, none⟩ = some (.int .i64 q2) := d3
                    have j0 : wr.drew.frozen? ⟨L4, 0, none⟩ = false := f0
                    have j1 : wr.drew.frozen? ⟨L4, 1, none⟩ = false := f1
                    have j2 : wr.drew.frozen? ⟨L4, 2, none⟩ = false := f2
                    have j3 : wr.drew.frozen? ⟨L4, 3, none⟩ = false := f3
                    have l5 : L4 < wr.drew.heap.size := l3
                    clear d0 d1 d2 d3 f0 f1 f2 f3 c0 c1 c2 l1 l3
                    generalize wr.drew = wx at *
                    go_wp2
                    go_roundw
                    case rel => obtain ⟨k', rfl, h1, h2, h3⟩ := HE.out; exact ⟨k + 1, by omega, by omega, by go_num, Lib.hid h1, Lib.hid h2, Lib.hid h3⟩
                    case measure => simp [intOf]; omega
            · have b0 : ¬ x1 < p1 := by omega
              rcases Int.lt_or_le x2 p2 with a1 | a1
              · have b1 : ¬ p2 ≤ x2 := by omega
                rcases Int.lt_or_le q1 x1 with a2 | a2
                · have b2 : ¬ x1 ≤ q1 := by omega
                  rcases Int.lt_or_le q2 x2 with a3 | a3
                  · have b3 : ¬ x2 ≤ q2 := by omega
                    have HE := HST.out p1 x2 x1 x2 (by omega) (by omega) (by omega) (by omega)
                    go_still_tail 33, (by kernel_rfl)
                    change wpList _ _ _ _ _ wr.drew
                    have g0 : wr.drew.cell? ⟨L4, 0, none⟩ = some (.int .i64 p1) := d0
                    have g1 : wr.drew.cell? ⟨L4, 1, none⟩ = some (.int .i64 p2) := d1
                    have g2 : wr.drew.cell? ⟨L4, 2, none⟩ = some (.int .i64 q1) := d2
                    have g3 : wr.drew.cell? ⟨L4, 3, none⟩ = some (.int .i64 q2) := d3
                    have j0 : wr.drew.frozen? ⟨L4, 0, none⟩ = false := f0
                    have j1 : wr.drew.frozen? ⟨L4, 1, none⟩ = false := f1
                    have j2 : wr.drew.frozen? ⟨L4, 2, none⟩ = false := f2
                    have j3 : wr.drew.frozen? ⟨L4, 3, none⟩ = false := f3
                    have l5 : L4 < wr.drew.heap.size := l3
                    clear d0 d1 d2 d3 f0 f1 f2 f3 c0 c1 c2 l1 l3
                    generalize wr.drew = wx at *
                    go_wp2
                    go_roundw
                    case rel => obtain ⟨k', rfl, h1, h2, h3⟩ := HE.out; exact ⟨k + 1, by omega, by omega, by go_num, Lib.hid h1, Lib.hid h2, Lib.hid h3⟩
                    case measure => simp [intOf]; omega
                  · have b3 : ¬ q2 < x2 := by omega
                    have HE := HST.out p1 x2 x1 q2 (by omega) (by omega) (by omega) (by omega)
                    go_still_tail 33, (by kernel_rfl)
                    change wpList _ _ _ _ _ wr.drew
                    have g0 : wr.drew.cell? ⟨L4, 0, none⟩ = some (.int .i64 p1) := d0
                    have g1 : wr.drew.cell? ⟨L4, 1, none⟩ = some (.int .i64 p2) := d1
                    have g2 : wr.drew.cell? ⟨L4, 2, none⟩ = some (.int .i64 q1) := d2
                    have g3 : wr.drew.cell? ⟨L4, 3, none⟩ = some (.int .i64 q2) := d3
                    have j0 : wr.drew.frozen? ⟨L4, 0, none⟩ = false := f0
                    have j1 : wr.drew.frozen? ⟨L4, 1, none⟩ = false := f1
                    have j2 : wr.drew.frozen? ⟨L4, 2, none⟩ = false := f2
                    have j3 : wr.drew.frozen? ⟨L4, 3, none⟩ = false := f3
                    have l5 : L4 < wr.drew.heap.size := l3
                    clear d0 d1 d2 d3 f0 f1 f2 f3 c0 c1 c2 l1 l3
                    generalize wr.drew = wx at *
                    go_wp2
                    go_roundw
                    case rel => obtain ⟨k', rfl, h1, h2, h3⟩ := HE.out; exact ⟨k + 1, by omega, by omega, by go_num, Lib.hid h1, Lib.hid h2, Lib.hid h3⟩
                    case measure => simp [intOf]; omega
                · have b2 : ¬ q1 < x1 := by omega
                  rcases Int.lt_or_le q2 x2 with a3 | a3
                  · have b3 : ¬ x2 ≤ q2 := by omega
                    have HE := HST.out p1 x2 q1 x2 (by omega) (by omega) (by omega) (by omega)
                    go_still_tail 33, (by kernel_rfl)
                    change wpList _ _ _ _ _ wr.drew
                    have g0 : wr.drew.cell? ⟨L4, 0, none⟩ = some (.int .i64 p1) := d0
                    have g1 : wr.drew.cell? ⟨L4, 1, none⟩ = some (.int .i64 p2) := d1
                    have g2 : wr.drew.cell? ⟨L4, 2, none⟩ = some (.int .i64 q1) := d2
                    have g3 : wr.drew.cell? ⟨L4, 3, none⟩ = some (.int .i64 q2) := d3
                    have j0 : wr.drew.frozen? ⟨L4, 0, none⟩ = false := f0
                    have j1 : wr.drew.frozen? ⟨L4, 1, none⟩ = false := f1
                    have j2 : wr.drew.frozen? ⟨L4, 2, none⟩ = false := f2
                    have j3 : wr.drew.frozen? ⟨L4, 3, none⟩ = false := f3
                    have l5 : L4 < wr.drew.heap.size := l3
                    clear d0 d1 d2 d3 f0 f1 f2 f3 c0 c1 c2 l1 l3
                    generalize wr.drew = wx at *
                    go_wp2
                    go_roundw
                    case rel => obtain ⟨k', rfl, h1, h2, h3⟩ := HE.out; exact ⟨k + 1, by omega, by omega, by go_num, Lib.hid h1, Lib.hid h2, Lib.hid h3⟩
                    case measure => simp [intOf]; omega
                  · have b3 : ¬ q2 < x2 := by omega
                    have HE := HST.out p1 x2 q1 q2 (by omega) (by omega) (by omega) (by omega)
                    go_still_tail 33, (by kernel_rfl)
                    change wpList _ _ _ _ _ wr.drew
                    have g0 : wr.drew.cell? ⟨L4, 0, none⟩ = some (.int .i64 p1) := d0
                    have g1 : wr.drew.cell? ⟨L4, 1, none⟩ = some (.int .i64 p2) := d1
                    have g2 : wr.drew.cell? ⟨L4, 2, none⟩ = some (.int .i64 q1) := d2
                    have g3 : wr.drew.cell? ⟨L4, 3, none⟩ = some (.int .i64 q2) := d3
                    have j0 : wr.drew.frozen? ⟨L4, 0, none⟩ = false := f0
                    have j1 : wr.drew.frozen? ⟨L4, 1, none⟩ = false := f1
                    have j2 : wr.drew.frozen? ⟨L4, 2, none⟩ = false := f2
                    have j3 : wr.drew.frozen? ⟨L4, 3, none⟩ = false := f3
                    have l5 : L4 < wr.drew.heap.size := l3
                    clear d0 d1 d2 d3 f0 f1 f2 f3 c0 c1 c2 l1 l3
                    generalize wr.drew = wx at *
                    go_wp2
                    go_roundw
                    case rel => obtain ⟨k', rfl, h1, h2, h3⟩ := HE.out; exact ⟨k + 1, by omega, by omega, by go_num, Lib.hid h1, Lib.hid h2, Lib.hid h3⟩
                    case measure => simp [intOf]; omega
              · have b1 : ¬ x2 < p2 := by omega
                rcases Int.lt_or_le q1 x1 with a2 | a2
                · have b2 : ¬ x1 ≤ q1 := by omega
                  rcases Int.lt_or_le q2 x2 with a3 | a3
                  · have b3 : ¬ x2 ≤ q2 := by omega
                    have HE := HST.out p1 p2 x1 x2 (by omega) (by omega) (by omega) (by omega)
                    go_still_tail 33, (by kernel_rfl)
                    change wpList _ _ _ _ _ wr.drew
                    have g0 : wr.drew.cell? ⟨L4, 0, none⟩ = some (.int .i64 p1) := d0
                    have g1 : wr.drew.cell? ⟨L4, 1, none⟩ = some (.int .i64 p2) := d1
                    have g2 : wr.drew.cell? ⟨L4, 2, none⟩ = some (.int .i64 q1) := d2
                    have g3 : wr.drew.cell? ⟨L4, 3, none⟩ = some (.int .i64 q2) := d3
                    have j0 : wr.drew.frozen? ⟨L4, 0, none⟩ = false := f0
                    have j1 : wr.drew.frozen? ⟨L4, 1, none⟩ = false := f1
                    have j2 : wr.drew.frozen? ⟨L4, 2, none⟩ = false := f2
                    have j3 : wr.drew.frozen? ⟨L4, 3, none⟩ = false := f3
                    have l5 : L4 < wr.drew.heap.size := l3
                    clear d0 d1 d2 d3 f0 f1 f2 f3 c0 c1 c2 l1 l3
                    generalize wr.drew = wx at *
                    go_wp2
                    go_roundw
                    case rel => obtain ⟨k', rfl, h1, h2, h3⟩ := HE.out; exact ⟨k + 1, by omega, by omega, by go_num, Lib.hid h1, Lib.hid h2, Lib.hid h3⟩
                    case measure => simp [intOf]; omega
                  · have b3 : ¬ q2 < x2 := by omega
                    have HE := HST.out p1 p2 x1 q2 (by omega) (by omega) (by omega) (by omega)
                    go_still_tail 33, (by kernel_rfl)
                    change wpList _ _ _ _ _ wr.drew
                    have g0 : wr.drew.cell? ⟨L4, 0, none⟩ = some (.int .i64 p1) := d0
                    have g1 : wr.drew.cell? ⟨L4, 1, none⟩ = some (.int .i64 p2) := d1
                    have g2 : wr.drew.cell? ⟨L4, 2, none⟩ = some (.int .i64 q1) := d2
                    have g3 : wr.drew.cell? ⟨L4, 3, none⟩ = some (.int .i64 q2) := d3
                    have j0 : wr.drew.frozen? ⟨L4, 0, none⟩ = false := f0
                    have j1 : wr.drew.frozen? ⟨L4, 1, none⟩ = false := f1
                    have j2 : wr.drew.frozen? ⟨L4, 2, none⟩ = false := f2
                    have j3 : wr.drew.frozen? ⟨L4, 3, none⟩ = false := f3
                    have l5 : L4 < wr.drew.heap.size := l3
                    clear d0 d1 d2 d3 f0 f1 f2 f3 c0 c1 c2 l1 l3
                    generalize wr.drew = wx at *
                    go_wp2
                    go_roundw
                    case rel => obtain ⟨k', rfl, h1, h2, h3⟩ := HE.out; exact ⟨k + 1, by omega, by omega, by go_num, Lib.hid h1, Lib.hid h2, Lib.hid h3⟩
                    case measure => simp [intOf]; omega
                · have b2 : ¬ q1 < x1 := by omega
                  rcases Int.lt_or_le q2 x2 with a3 | a3
                  · have b3 : ¬ x2 ≤ q2 := by omega
                    have HE := HST.out p1 p2 q1 x2 (by omega) (by omega) (by omega) (by omega)
                    go_still_tail 33, (by kernel_rfl)
                    change wpList _ _ _ _ _ wr.drew
                    have g0 : wr.drew.cell? ⟨L4, 0, none⟩ = some (.int .i64 p1) := d0
                    have g1 : wr.drew.cell? ⟨L4, 1, none⟩ = some (.int .i64 p2) := d1
                    have g2 : wr.drew.cell? ⟨L4, 2, none⟩ = some (.int .i64 q1) := d2
                    have g3 : wr.drew.cell? ⟨L4, 3, none⟩ = some (.int .i64 q2) := d3
                    have j0 : wr.drew.frozen? ⟨L4, 0, none⟩ = false := f0
                    have j1 : wr.drew.frozen? ⟨L4, 1, none⟩ = false := f1
                    have j2 : wr.drew.frozen? ⟨L4, 2, none⟩ = false := f2
                    have j3 : wr.drew.frozen? ⟨L4, 3, none⟩ = false := f3
                    have l5 : L4 < wr.drew.heap.size := l3
                    clear d0 d1 d2 d3 f0 f1 f2 f3 c0 c1 c2 l1 l3
                    generalize wr.drew = wx at *
                    go_wp2
                    go_roundw
                    case rel => obtain ⟨k', rfl, h1, h2, h3⟩ := HE.out; exact ⟨k + 1, by omega, by omega, by go_num, Lib.hid h1, Lib.hid h2, Lib.hid h3⟩
                    case measure => simp [intOf]; omega
                  · have b3 : ¬ q2 < x2 := by omega
                    have HE := HST.out p1 p2 q1 q2 (by omega) (by omega) (by omega) (by omega)
                    go_still_tail 33, (by kernel_rfl)
                    change wpList _ _ _ _ _ wr.drew
                    have g0 : wr.drew.cell? ⟨L4, 0, none⟩ = some (.int .i64 p1) := d0
                    have g1 : wr.drew.cell? ⟨L4, 1, none⟩ = some (.int .i64 p2) := d1
                    have g2 : wr.drew.cell? ⟨L4, 2, none⟩ = some (.int .i64 q1) := d2
                    have g3 : wr.drew.cell? ⟨L4, 3, none⟩ = some (.int .i64 q2) := d3
                    have j0 : wr.drew.frozen? ⟨L4, 0, none⟩ = false := f0
                    have j1 : wr.drew.frozen? ⟨L4, 1, none⟩ = false := f1
                    have j2 : wr.drew.frozen? ⟨L4, 2, none⟩ = false := f2
                    have j3 : wr.drew.frozen? ⟨L4, 3, none⟩ = false := f3
                    have l5 : L4 < wr.drew.heap.size := l3
                    clear d0 d1 d2 d3 f0 f1 f2 f3 c0 c1 c2 l1 l3
                    generalize wr.drew = wx at *
                    go_wp2
                    go_roundw
                    case rel => obtain ⟨k', rfl, h1, h2, h3⟩ := HE.out; exact ⟨k + 1, by omega, by omega, by go_num, Lib.hid h1, Lib.hid h2, Lib.hid h3⟩
                    case measure => simp [intOf]; omega
          · obtain rfl : k = n := by omega
            have HV : Hid (arV k X Y V = .agg #[.int .i64 (loF X k), .int .i64 (loF Y k), .int .i64 (hiF X k), .int .i64 (hiF Y k)]) := Lib.hid (by unfold arV; rw [HE.out]; rfl)
            have d0 : wr.cell? ⟨L4, 0, none⟩ = some (.int .i64 (loF X k)) := HM.out.cell 0
            have d1 : wr.cell? ⟨L4, 1, none⟩ = some (.int .i64 (loF Y k)) := HM.out.cell 1
            have d2 : wr.cell? ⟨L4, 2, none⟩ = some (.int .i64 (hiF X k)) := HM.out.cell 2
            have d3 : wr.cell? ⟨L4, 3, none⟩ = some (.int .i64 (hiF Y k)) := HM.out.cell 3
            have r0 : wr.cell? ⟨L2, 0, none⟩ = some (.int .i64 0) := HR.out.cell 0
            have r1 : wr.cell? ⟨L2, 1, none⟩ = some (.int .i64 0) := HR.out.cell 1
            have r2 : wr.cell? ⟨L2, 2, none⟩ = some (.int .i64 0) := HR.out.cell 2
            have r3 : wr.cell? ⟨L2, 3, none⟩ = some (.int .i64 0) := HR.out.cell 3
            have f0 : wr.frozen? ⟨L2, 0, none⟩ = false := HR.out.frozen 0
            have f1 : wr.frozen? ⟨L2, 1, none⟩ = false := HR.out.frozen 1
            have f2 : wr.frozen? ⟨L2, 2, none⟩ = false := HR.out.frozen 2
            have f3 : wr.frozen? ⟨L2, 3, none⟩ = false := HR.out.frozen 3
            have l2 := HR.out.lt
            have l3 := HM.out.lt
            have hge2 : w.heap.size ≤ L2 := Nat.le_of_eq HL2.out.symm
            have hz := (((HR.out.set 0 (.int .i64 (loF X k))).set 1 (.int .i64 (loF Y k))).set 2 (.int .i64 (hiF X k))).set 3 (.int .i64 (hiF Y k))
            have HBz := Lib.hid (bset (p := ⟨L2, 3, none⟩) hge2 (bset (p := ⟨L2, 2, none⟩) hge2 (bset (p := ⟨L2, 1, none⟩) hge2 (bset (p := ⟨L2, 0, none⟩) hge2 HB.out (.int .i64 (loF X k))) (.int .i64 (loF Y k))) (.int .i64 (hiF X k))) (.int .i64 (hiF Y k)))
            go_wp2
            have z0 := hz.cell 0
            have z1 := hz.cell 1
            have z2 := hz.cell 2
            have z3 := hz.cell 3
            generalize (((wr.setCell ⟨L2, 0, none⟩ (.int .i64 (loF X k))).setCell ⟨L2, 1, none⟩ (.int .i64 (loF Y k))).setCell ⟨L2, 2, none⟩ (.int .i64 (hiF X k))).setCell ⟨L2, 3, none⟩ (.int .i64 (hiF Y k)) = wz at *
            replace z0 : wz.cell? ⟨L2, 0, none⟩ = some (.int .i64 (loF X k)) := z0
            replace z1 : wz.cell? ⟨L2, 1, none⟩ = some (.int .i64 (loF Y k)) := z1
            replace z2 : wz.cell? ⟨L2, 2, none⟩ = some (.int .i64 (hiF X k)) := z2
            replace z3 : wz.cell? ⟨L2, 3, none⟩ = some (.int .i64 (hiF Y k)) := z3
            refine bodyPost_ret (v := .tuple #[.agg #[.int .i64 (loF X k), .int .i64 (loF Y k), .int .i64 (hiF X k), .int .i64 (hiF Y k)], .bool true]) (by simp [results, Try.results19, go_sem, z0, z1, z2, z3]) rfl ⟨?_, HBz.out⟩
            rw [HV.out, HE.out]
  · have HN := Lib.hid hok
    have HE : Hid (arOk n X Y V = false) := Lib.hid (by unfold arOk; rw [show (chkF n X Y V == 0) = false by simp [hok]]; simp)
    have HV : Hid (arV n X Y V = .agg #[.int .i64 0, .int .i64 0, .int .i64 0, .int .i64 0]) := Lib.hid (by unfold arV; rw [HE.out]; rfl)
    obtain ⟨z, hz⟩ : ∃ z, z = chkF n X Y V := ⟨_, rfl⟩
    rw [← hz] at HK hok
    have zn : (z == 0) = false := by simp [hok]
    have zn2 : (z != 0) = true := by simp [hok]
    have HR := Lib.hid hbx
    have hL2w : w.heap.size < (w.alloc (.cells #[.int .i64 0, .int .i64 0, .int .i64 0, .int .i64 0] 29)).heap.size := hbx.lt
    clear hcl hz hbx
    go_enter Try.func19, Try.ntmps19
    go_upto_region 2 with (go_at_call 23; (with_reducible refine HK.out.mono ?_); rintro e w1 ⟨rfl, hb1⟩; replace hB := below_step hB hb1)
    have HR1 := Lib.hid (box_step HR.out hb1)
    obtain ⟨L2, hL2⟩ : ∃ q, q = w.heap.size := ⟨_, rfl⟩
    have hge2 : w.heap.size ≤ L2 := Nat.le_of_eq hL2.symm
    rw [← hL2] at HR1 ⊢
    have HB := Lib.hid hB
    clear hL2 hB hb1 HR HK hL2w
    have r0 : w1.cell? ⟨L2, 0, none⟩ = some (.int .i64 0) := HR1.out.cell 0
    have r1 : w1.cell? ⟨L2, 1, none⟩ = some (.int .i64 0) := HR1.out.cell 1
    have r2 : w1.cell? ⟨L2, 2, none⟩ = some (.int .i64 0) := HR1.out.cell 2
    have r3 : w1.cell? ⟨L2, 3, none⟩ = some (.int .i64 0) := HR1.out.cell 3
    have f0 : w1.frozen? ⟨L2, 0, none⟩ = false := HR1.out.frozen 0
    have f1 : w1.frozen? ⟨L2, 1, none⟩ = false := HR1.out.frozen 1
    have f2 : w1.frozen? ⟨L2, 2, none⟩ = false := HR1.out.frozen 2
    have f3 : w1.frozen? ⟨L2, 3, none⟩ = false := HR1.out.frozen 3
    have l2 := HR1.out.lt
    have hz := (((HR1.out.set 0 (.int .i64 0)).set 1 (.int .i64 0)).set 2 (.int .i64 0)).set 3 (.int .i64 0)
    have HBz := Lib.hid (bset (p := ⟨L2, 3, none⟩) hge2 (bset (p := ⟨L2, 2, none⟩) hge2 (bset (p := ⟨L2, 1, none⟩) hge2 (bset (p := ⟨L2, 0, none⟩) hge2 HB.out (.int .i64 0)) (.int .i64 0)) (.int .i64 0)) (.int .i64 0))
    go_wp2
    have z0 := hz.cell 0
    have z1 := hz.cell 1
    have z2 := hz.cell 2
    have z3 := hz.cell 3
    generalize (((w1.setCell ⟨L2, 0, none⟩ (.int .i64 0)).setCell ⟨L2, 1, none⟩ (.int .i64 0)).setCell ⟨L2, 2, none⟩ (.int .i64 0)).setCell ⟨L2, 3, none⟩ (.int .i64 0) = wz at *
    replace z0 : wz.cell? ⟨L2, 0, none⟩ = some (.int .i64 0) := z0
    replace z1 : wz.cell? ⟨L2, 1, none⟩ = some (.int .i64 0) := z1
    replace z2 : wz.cell? ⟨L2, 2, none⟩ = some (.int .i64 0) := z2
    replace z3 : wz.cell? ⟨L2, 3, none⟩ = some (.int .i64 0) := z3
    refine bodyPost_ret (v := .tuple #[.agg #[.int .i64 0, .int .i64 0, .int .i64 0, .int .i64 0], .bool false]) (by simp [results, Try.results19, go_sem, z0, z1, z2, z3]) rfl ⟨?_, HBz.out⟩
    rw [HV.out, HE.out]
end Go.Proofs.Ytaehfildhmljeaa
