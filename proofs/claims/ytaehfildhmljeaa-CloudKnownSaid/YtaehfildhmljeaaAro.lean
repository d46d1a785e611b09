/- Around. -/
import Derived.Test.YtaehfildhmljeaaShfW
import Derived.Deep.RegionHeld3
import Derived.BigRegion
namespace Go.Proofs.Ytaehfildhmljeaa
open Go.RowKit Go.Shelf

/-- The least of the first ones, and the greatest. -/
def loF (X : Nat → Int) : Nat → Int
  | 0 => X 0
  | k + 1 => min (loF X k) (X k)
def hiF (X : Nat → Int) : Nat → Int
  | 0 => X 0
  | k + 1 => max (hiF X k) (X k)
def arOk (n : Nat) (X Y V : Nat → Int) : Bool := n != 0 && chkF n X Y V == 0
def arV (n : Nat) (X Y V : Nat → Int) : Value := if arOk n X Y V then .agg #[.int .i64 (loF X n), .int .i64 (loF Y n), .int .i64 (hiF X n), .int .i64 (hiF Y n)] else .agg #[.int .i64 0, .int .i64 0, .int .i64 0, .int .i64 0]

set_option maxRecDepth 100000 in
set_option maxHeartbeats 8000000 in
theorem around_any (A : Option Addr) (n cap : Nat) (X Y V : Nat → Int) (w : World) (hcl : Cloud w A n X Y V) :
    Calls Try.prog 18 #[.slice A n cap] w fun e w' => e = .returned (.tuple #[arV n X Y V, .bool (arOk n X Y V)]) ∧ Below w.heap.size w w' := by
  have hB : Below w.heap.size w (w.alloc (.cells #[.int .i64 0, .int .i64 0, .int .i64 0, .int .i64 0] 29)) := (Below.refl _ w).alloc (Nat.le_refl _) _
  have HK := Lib.hid (check_any A n cap X Y V _ (hcl.below hB))
  have hbx := BoxAt.new w 29 #[.int .i64 0, .int .i64 0, .int .i64 0, .int .i64 0]
  by_cases h0 : n = 0
  · subst h0
    have HE : Hid (arOk 0 X Y V = false) := Lib.hid rfl
    have HV : Hid (arV 0 X Y V = .agg #[.int .i64 0, .int .i64 0, .int .i64 0, .int .i64 0]) := Lib.hid rfl
    have hz := (((hbx.set 0 (.int .i64 0)).set 1 (.int .i64 0)).set 2 (.int .i64 0)).set 3 (.int .i64 0)
    have HBz := Lib.hid (bset (p := ⟨w.heap.size, 3, none⟩) (Nat.le_refl _) (bset (p := ⟨w.heap.size, 2, none⟩) (Nat.le_refl _) (bset (p := ⟨w.heap.size, 1, none⟩) (Nat.le_refl _) (bset (p := ⟨w.heap.size, 0, none⟩) (Nat.le_refl _) hB (.int .i64 0)) (.int .i64 0)) (.int .i64 0)) (.int .i64 0))
    have z0 := hz.cell 0
    have z1 := hz.cell 1
    have z2 := hz.cell 2
    have z3 := hz.cell 3
    clear HK hcl hz hbx
    go_enter Try.func18, Try.ntmps18
    go_wp2
    exact bodyPost_ret (v := .tuple #[.agg #[.int .i64 0, .int .i64 0, .int .i64 0, .int .i64 0], .bool false]) (by simp [results, Try.results18, go_sem]) rfl ⟨by rw [HV.out, HE.out], hB⟩
  by_cases hok : chkF n X Y V = 0
  · have HO := Lib.hid hok
    have HE : Hid (arOk n X Y V = true) := Lib.hid (by unfold arOk; rw [hok]; simp [h0])
    have hn := by
      have h := hok
      unfold chkF at h
      split at h
      · cases h
      · exact (show n ≤ 1000 by omega)
    have HCL := Lib.hid hcl
    have HR := Lib.hid hbx
    rw [hok] at HK
    have n1 : ((n : Int) == 0) = false := by simp; omega
    clear hcl hok hbx
    go_enter Try.func18, Try.ntmps18
    go_upto_region 3 with (go_at_call 22; (with_reducible refine HK.out.mono ?_); rintro e w1 ⟨rfl, hb1⟩; replace hB := below_step hB hb1)
    obtain ⟨blk, off, e, hc0⟩ := HCL.out (by omega)
    subst e
    have hbl := hc0.lt (by omega)
    have HC0 := Lib.hid hc0
    have HB := Lib.hid hB
    have HR1 := Lib.hid (box_step HR.out hb1)
    obtain ⟨c0, c1, _⟩ := (hc0.below hB hbl) 0 (by omega)
    rw [Nat.zero_mul, Nat.add_zero] at c0 c1
    have l1 : blk < w1.heap.size := Nat.lt_of_lt_of_le hbl hB.size
    have n2 : (0 : Int) < (n : Int) := by omega
    have n3 : 0 < n := by omega
    obtain ⟨L2, hL2⟩ : ∃ q, q = w.heap.size := ⟨_, rfl⟩
    have HL2 := Lib.hid hL2
    rw [← hL2] at HR1 ⊢
    clear hc0 hB hb1 hL2 HK HR
    go_cut [4] from 16 to 32 (fun v w' => ∃ g, v = .pointer (some ⟨g, 0, none⟩) ∧ BoxAt w' g 29 #[.int .i64 (X 0), .int .i64 (Y 0), .int .i64 (X 0), .int .i64 (Y 0)] ∧ w1.heap.size ≤ g ∧ Below w1.heap.size w1 w')
    case first =>
      go_region_held3 (fun w' => w'.cell? ⟨blk, off, none⟩ = some (.int .i64 (X 0)) ∧ w'.cell? ⟨blk, off + 1, none⟩ = some (.int .i64 (Y 0)))
        (first | exact ⟨c0, c1⟩ | go_keep)
        (fail)
      all_goals go_wp2
      all_goals go_meet
      all_goals exact ⟨_, rfl, BoxAt.drew (BoxAt.new _ _ _), Nat.le_refl _, Below.drew ((Below.refl _ w1).alloc (Nat.le_refl _) _)⟩
    case rest =>
      obtain ⟨wy, rfl⟩ : ∃ x : World, x = wc := ⟨_, rfl⟩
      obtain ⟨L4, rfl, hm, hge, hby⟩ := hcut
      have HM := Lib.hid hm
      have HR2 := Lib.hid (box_step HR1.out hby)
      have HB2 := Lib.hid (below_step HB.out hby)
      have hne : L2 < L4 := by have := HR1.out.lt; omega
      clear hm hby HR1 HB c0 c1 l1
      go_wp2
      go_loopw [35] (fun i wr => ∃ k : Nat, k ≤ n ∧ i = .int .i64 k ∧ Hid (BoxAt wr L4 29 #[.int .i64 (loF X k), .int .i64 (loF Y k), .int .i64 (hiF X k), .int .i64 (hiF Y k)]) ∧ Hid (BoxAt wr L2 29 #[.int .i64 0, .int .i64 0, .int .i64 0, .int .i64 0]) ∧ Hid (Below w.heap.size w wr)) (fun i _ => n + 1 - (intOf i).toNat)
      case atStart => exact ⟨0, Nat.zero_le _, rfl, HM, HR2, HB2⟩
      case round =>
        clear HM HR2 HB2
        obtain ⟨k, hk, rfl, HM, HR, HB⟩ := hrel
        by_cases hlt : k < n
        · have i0 : (0 : Int) ≤ (k : Int) := Int.natCast_nonneg _
          have i1 : (k : Int) < (n : Int) := by omega
          have l1 : blk < wr.heap.size := Nat.lt_of_lt_of_le hbl HB.out.size
          obtain ⟨c0, c1, c2⟩ := (HC0.out.below HB.out hbl) k hlt
          go_upto_region 7 with fail
          have HM4 := Lib.hid (HM.out.alloc (.cells #[.int .i64 (X k), .int .i64 (Y k), .int .i64 (V k)] 69))
          have HR4 := Lib.hid (HR.out.alloc (.cells #[.int .i64 (X k), .int .i64 (Y k), .int .i64 (V k)] 69))
          have hq := BoxAt.new wr 69 #[.int .i64 (X k), .int .i64 (Y k), .int .i64 (V k)]
          have HB4 := Lib.hid (below_step HB.out ((Below.refl _ wr).alloc (Nat.le_refl _) (.cells #[.int .i64 (X k), .int .i64 (Y k), .int .i64 (V k)] 69)))
          have l4 := HM.out.lt
          obtain ⟨Lq, hLq⟩ : ∃ q, q = wr.heap.size := ⟨_, rfl⟩
          have hqn : L4 ≠ Lq := by omega
          rw [← hLq] at hq ⊢
          clear hLq l4 c0 c1 c2 l1 HB HR HM
          generalize wr.alloc (.cells #[.int .i64 (X k), .int .i64 (Y k), .int .i64 (V k)] 69) = wx at *
          have HQ := Lib.hid hq
          clear hq
          have hne2 : L2 ≠ L4 := by omega
          have hL4w : w.heap.size ≤ L4 := by have := HL2.out; omega
          have hL2w : w.heap.size ≤ L2 := Nat.le_of_eq HL2.out.symm
          have k0 : wx.cell? ⟨Lq, 0, none⟩ = some (.int .i64 (X k)) := HQ.out.cell 0
          have d0 : wx.cell? ⟨L4, 0, none⟩ = some (.int .i64 (loF X k)) := HM4.out.cell 0
          have d1 : wx.cell? ⟨L4, 2, none⟩ = some (.int .i64 (hiF X k)) := HM4.out.cell 2
          have f0 : wx.frozen? ⟨L4, 0, none⟩ = false := HM4.out.frozen 0
          have f1 : wx.frozen? ⟨L4, 2, none⟩ = false := HM4.out.frozen 2
          have l2 := HQ.out.lt
          have l3 := HM4.out.lt
          obtain ⟨x1, hx⟩ : ∃ x, x = X k := ⟨_, rfl⟩
          obtain ⟨p1, hp⟩ : ∃ x, x = loF X k := ⟨_, rfl⟩
          obtain ⟨q1, hq⟩ : ∃ x, x = hiF X k := ⟨_, rfl⟩
          have HX1 := Lib.hid hx
          have HP1 := Lib.hid hp
          have HPQ1 := Lib.hid hq
          rw [← hx] at k0
          rw [← hp] at d0 HM4
          rw [← hq] at d1 HM4
          clear hx hp hq
          go_cut [43] from 39 to 50 (fun _ w' => BoxAt w' L4 29 #[.int .i64 (min p1 x1), .int .i64 (loF Y k), .int .i64 (max q1 x1), .int .i64 (hiF Y k)] ∧ BoxAt w' Lq 69 #[.int .i64 (X k), .int .i64 (Y k), .int .i64 (V k)] ∧ BoxAt w' L2 29 #[.int .i64 0, .int .i64 0, .int .i64 0, .int .i64 0] ∧ Below w.heap.size w w')
          case first =>
            rcases (Int.lt_or_le x1 p1).symm with hlo | hlo
            · have e1 : min p1 x1 = p1 := by omega
              have hlo2 : ¬ x1 < p1 := by omega
              rcases Int.lt_or_le q1 x1 with hhi | hhi
              · have e2 : max q1 x1 = x1 := by omega
                have hhi2 : ¬ x1 ≤ q1 := by omega
                go_region
                all_goals go_wp2
                all_goals go_meet
                all_goals rw [e1, e2]
                all_goals exact ⟨((HM4.out.set 0 (.int .i64 p1)).set 2 (.int .i64 x1)).drew, ((HQ.out.other hqn.symm 0 _).other hqn.symm 2 _).drew, ((HR4.out.other hne2 0 _).other hne2 2 _).drew, Below.drew (bset (p := ⟨L4, _, none⟩) hL4w (bset (p := ⟨L4, _, none⟩) hL4w HB4.out _) _)⟩
              · have e2 : max q1 x1 = q1 := by omega
                have hhi2 : ¬ q1 < x1 := by omega
                go_region
                all_goals go_wp2
                all_goals go_meet
                all_goals rw [e1, e2]
                all_goals exact ⟨((HM4.out.set 0 (.int .i64 p1)).set 2 (.int .i64 q1)).drew, ((HQ.out.other hqn.symm 0 _).other hqn.symm 2 _).drew, ((HR4.out.other hne2 0 _).other hne2 2 _).drew, Below.drew (bset (p := ⟨L4, _, none⟩) hL4w (bset (p := ⟨L4, _, none⟩) hL4w HB4.out _) _)⟩
            · have e1 : min p1 x1 = x1 := by omega
              have hlo2 : ¬ p1 ≤ x1 := by omega
              rcases Int.lt_or_le q1 x1 with hhi | hhi
              · have e2 : max q1 x1 = x1 := by omega
                have hhi2 : ¬ x1 ≤ q1 := by omega
                go_region
                all_goals go_wp2
                all_goals go_meet
                all_goals rw [e1, e2]
                all_goals exact ⟨((HM4.out.set 0 (.int .i64 x1)).set 2 (.int .i64 x1)).drew, ((HQ.out.other hqn.symm 0 _).other hqn.symm 2 _).drew, ((HR4.out.other hne2 0 _).other hne2 2 _).drew, Below.drew (bset (p := ⟨L4, _, none⟩) hL4w (bset (p := ⟨L4, _, none⟩) hL4w HB4.out _) _)⟩
              · have e2 : max q1 x1 = q1 := by omega
                have hhi2 : ¬ q1 < x1 := by omega
                go_region
                all_goals go_wp2
                all_goals go_meet
                all_goals rw [e1, e2]
                all_goals exact ⟨((HM4.out.set 0 (.int .i64 x1)).set 2 (.int .i64 q1)).drew, ((HQ.out.other hqn.symm 0 _).other hqn.symm 2 _).drew, ((HR4.out.other hne2 0 _).other hne2 2 _).drew, Below.drew (bset (p := ⟨L4, _, none⟩) hL4w (bset (p := ⟨L4, _, none⟩) hL4w HB4.out _) _)⟩
          case rest =>
            obtain ⟨wy, rfl⟩ : ∃ x : World, x = wc := ⟨_, rfl⟩
            obtain ⟨hm5, hq5, hr5, hb5⟩ := hcut
            have HM5 := Lib.hid hm5
            have HQ5 := Lib.hid hq5
            have HR5 := Lib.hid hr5
            have HB5 := Lib.hid hb5
            clear hm5 hq5 hr5 hb5 HM4 HQ HR4 HB4 k0 d0 d1 f0 f1 l2 l3
            have k0 : wy.cell? ⟨Lq, 1, none⟩ = some (.int .i64 (Y k)) := HQ5.out.cell 1
            have d0 : wy.cell? ⟨L4, 1, none⟩ = some (.int .i64 (loF Y k)) := HM5.out.cell 1
            have d1 : wy.cell? ⟨L4, 3, none⟩ = some (.int .i64 (hiF Y k)) := HM5.out.cell 3
            have f0 : wy.frozen? ⟨L4, 1, none⟩ = false := HM5.out.frozen 1
            have f1 : wy.frozen? ⟨L4, 3, none⟩ = false := HM5.out.frozen 3
            have l2 := HQ5.out.lt
            have l3 := HM5.out.lt
            obtain ⟨x2, hx⟩ : ∃ x, x = Y k := ⟨_, rfl⟩
            obtain ⟨p2, hp⟩ : ∃ x, x = loF Y k := ⟨_, rfl⟩
            obtain ⟨q2, hq⟩ : ∃ x, x = hiF Y k := ⟨_, rfl⟩
            have HX2 := Lib.hid hx
            have HP2 := Lib.hid hp
            have HPQ2 := Lib.hid hq
            rw [← hx] at k0
            rw [← hp] at d0 HM5
            rw [← hq] at d1 HM5
            clear hx hp hq
            go_upto_region 8 with fail
            have HB6 : Hid (∀ u v, Below w.heap.size w ((wy.setCell ⟨L4, 1, none⟩ u).setCell ⟨L4, 3, none⟩ v).drew) := Lib.hid (fun u v => Below.drew (bset (p := ⟨L4, 3, none⟩) hL4w (bset (p := ⟨L4, 1, none⟩) hL4w HB5.out u) v))
            have HR6 : Hid (∀ u v, BoxAt ((wy.setCell ⟨L4, 1, none⟩ u).setCell ⟨L4, 3, none⟩ v).drew L2 29 #[.int .i64 0, .int .i64 0, .int .i64 0, .int .i64 0]) := Lib.hid (fun u v => ((HR5.out.other hne2 1 u).other hne2 3 v).drew)
            have HM6 : Hid (∀ u v, u = min p2 x2 → v = max q2 x2 → BoxAt ((wy.setCell ⟨L4, 1, none⟩ (.int .i64 u)).setCell ⟨L4, 3, none⟩ (.int .i64 v)).drew L4 29 #[.int .i64 (loF X (k + 1)), .int .i64 (loF Y (k + 1)), .int .i64 (hiF X (k + 1)), .int .i64 (hiF Y (k + 1))]) := Lib.hid (fun u v hu hv => by
              show BoxAt _ L4 29 #[.int .i64 (min (loF X k) (X k)), .int .i64 (min (loF Y k) (Y k)), .int .i64 (max (hiF X k) (X k)), .int .i64 (max (hiF Y k) (Y k))]
              rw [← HX1.out, ← HP1.out, ← HPQ1.out, ← HX2.out, ← HP2.out, ← HPQ2.out, ← hu, ← hv]
              exact ((HM5.out.set 1 (.int .i64 u)).set 3 (.int .i64 v)).drew)
            rcases (Int.lt_or_le x2 p2).symm with hlo | hlo
            · have e1 : p2 = min p2 x2 := by omega
              have hlo2 : ¬ x2 < p2 := by omega
              rcases Int.lt_or_le q2 x2 with hhi | hhi
              · have e2 : x2 = max q2 x2 := by omega
                have hhi2 : ¬ x2 ≤ q2 := by omega
                have HE2 := Lib.hid (HM6.out _ _ e1 e2)
                clear e1 e2
                go_region
                all_goals go_wp2
                all_goals go_roundw
                all_goals first | exact ⟨k + 1, by omega, by go_num, HE2, Lib.hid (HR6.out _ _), Lib.hid (HB6.out _ _)⟩ | (simp [intOf]; omega)
              · have e2 : q2 = max q2 x2 := by omega
                have hhi2 : ¬ q2 < x2 := by omega
                have HE2 := Lib.hid (HM6.out _ _ e1 e2)
                clear e1 e2
                go_region
                all_goals go_wp2
                all_goals go_roundw
                all_goals first | exact ⟨k + 1, by omega, by go_num, HE2, Lib.hid (HR6.out _ _), Lib.hid (HB6.out _ _)⟩ | (simp [intOf]; omega)
            · have e1 : x2 = min p2 x2 := by omega
              have hlo2 : ¬ p2 ≤ x2 := by omega
              rcases Int.lt_or_le q2 x2 with hhi | hhi
              · have e2 : x2 = max q2 x2 := by omega
                have hhi2 : ¬ x2 ≤ q2 := by omega
                have HE2 := Lib.hid (HM6.out _ _ e1 e2)
                clear e1 e2
                go_region
                all_goals go_wp2
                all_goals go_roundw
                all_goals first | exact ⟨k + 1, by omega, by go_num, HE2, Lib.hid (HR6.out _ _), Lib.hid (HB6.out _ _)⟩ | (simp [intOf]; omega)
              · have e2 : q2 = max q2 x2 := by omega
                have hhi2 : ¬ q2 < x2 := by omega
                have HE2 := Lib.hid (HM6.out _ _ e1 e2)
                clear e1 e2
                go_region
                all_goals go_wp2
                all_goals go_roundw
                all_goals first | exact ⟨k + 1, by omega, by go_num, HE2, Lib.hid (HR6.out _ _), Lib.hid (HB6.out _ _)⟩ | (simp [intOf]; omega)
        · obtain rfl : k = n := by omega
          have HV : Hid (arV k X Y V = .agg #[.int .i64 (loF X k), .int .i64 (loF Y k), .int .i64 (hiF X k), .int .i64 (hiF Y k)]) := Lib.hid (by unfold arV; rw [HE.out]; rfl)
          have d0 : wr.cell? ⟨L4, 0, none⟩ = some (.int .i64 (loF X k)) := HM.out.cell 0
          have d1 : wr.cell? ⟨L4, 1, none⟩ = some (.int .i64 (loF Y k)) := HM.out.cell 1
          have d2 : wr.cell? ⟨L4, 2, none⟩ = some (.int .i64 (hiF X k)) := HM.out.cell 2
          have d3 : wr.cell? ⟨L4, 3, none⟩ = some (.int .i64 (hiF Y k)) := HM.out.cell 3
          have r0 : wr.cell? ⟨L2, 0, none⟩ = some (.int .i64 0) := HR.out.cell 0
          have r1 : wr.cell? ⟨L2, 1, none⟩ = some (.int .i64 0) := HR.out.cell 1
          have r2 : wr.cell? ⟨L2, 2, none⟩ = some (.int .i64 0) := HR.out.cell 2
          have r3 : wr.cell? ⟨L2, 3, none⟩ = some (.int .i64 0) := HR.out.cell 3
          have f0 : wr.frozen? ⟨L2, 0, none⟩ = false := HR.out.frozen 0
          have f1 : wr.frozen? ⟨L2, 1, none⟩ = false := HR.out.frozen 1
          have f2 : wr.frozen? ⟨L2, 2, none⟩ = false := HR.out.frozen 2
          have f3 : wr.frozen? ⟨L2, 3, none⟩ = false := HR.out.frozen 3
          have l2 := HR.out.lt
          have l3 := HM.out.lt
          have hge2 : w.heap.size ≤ L2 := Nat.le_of_eq HL2.out.symm
          have hz := (((HR.out.set 0 (.int .i64 (loF X k))).set 1 (.int .i64 (loF Y k))).set 2 (.int .i64 (hiF X k))).set 3 (.int .i64 (hiF Y k))
          have HBz := Lib.hid (bset (p := ⟨L2, 3, none⟩) hge2 (bset (p := ⟨L2, 2, none⟩) hge2 (bset (p := ⟨L2, 1, none⟩) hge2 (bset (p := ⟨L2, 0, none⟩) hge2 HB.out (.int .i64 (loF X k))) (.int .i64 (loF Y k))) (.int .i64 (hiF X k))) (.int .i64 (hiF Y k)))
          go_wp2
          have z0 := hz.cell 0
          have z1 := hz.cell 1
          have z2 := hz.cell 2
          have z3 := hz.cell 3
          generalize (((wr.setCell ⟨L2, 0, none⟩ (.int .i64 (loF X k))).setCell ⟨L2, 1, none⟩ (.int .i64 (loF Y k))).setCell ⟨L2, 2, none⟩ (.int .i64 (hiF X k))).setCell ⟨L2, 3, none⟩ (.int .i64 (hiF Y k)) = wz at *
          replace z0 : wz.cell? ⟨L2, 0, none⟩ = some (.int .i64 (loF X k)) := z0
          replace z1 : wz.cell? ⟨L2, 1, none⟩ = some (.int .i64 (loF Y k)) := z1
          replace z2 : wz.cell? ⟨L2, 2, none⟩ = some (.int .i64 (hiF X k)) := z2
          replace z3 : wz.cell? ⟨L2, 3, none⟩ = some (.int .i64 (hiF Y k)) := z3
          refine bodyPost_ret (v := .tuple #[.agg #[.int .i64 (loF X k), .int .i64 (loF Y k), .int .i64 (hiF X k), .int .i64 (hiF Y k)], .bool true]) (by simp [results, Try.results18, go_sem, z0, z1, z2, z3]) rfl ⟨?_, HBz.out⟩
          rw [HV.out, HE.out]
  · have HN := Lib.hid hok
    have HE : Hid (arOk n X Y V = false) := Lib.hid (by unfold arOk; rw [show (chkF n X Y V == 0) = false by simp [hok]]; simp)
    have HV : Hid (arV n X Y V = .agg #[.int .i64 0, .int .i64 0, .int .i64 0, .int .i64 0]) := Lib.hid (by unfold arV; rw [HE.out]; rfl)
    obtain ⟨z, hz⟩ : ∃ z, z = chkF n X Y V := ⟨_, rfl⟩
    rw [← hz] at HK hok
    have n1 : ((n : Int) == 0) = false := by simp; omega
    have zn : (z == 0) = false := by simp [hok]
    have zn2 : (z != 0) = true := by simp [hok]
    have HR := Lib.hid hbx
    have hL2w : w.heap.size < (w.alloc (.cells #[.int .i64 0, .int .i64 0, .int .i64 0, .int .i64 0] 29)).heap.size := hbx.lt
    clear hcl hz hbx
    go_enter Try.func18, Try.ntmps18
    go_upto_region 2 with (go_at_call 22; (with_reducible refine HK.out.mono ?_); rintro e w1 ⟨rfl, hb1⟩; replace hB := below_step hB hb1)
    have HR1 := Lib.hid (box_step HR.out hb1)
    obtain ⟨L2, hL2⟩ : ∃ q, q = w.heap.size := ⟨_, rfl⟩
    have hge2 : w.heap.size ≤ L2 := Nat.le_of_eq hL2.symm
    rw [← hL2] at HR1 ⊢
    have HB := Lib.hid hB
    clear hL2 hB hb1 HR HK hL2w
    have r0 : w1.cell? ⟨L2, 0, none⟩ = some (.int .i64 0) := HR1.out.cell 0
    have r1 : w1.cell? ⟨L2, 1, none⟩ = some (.int .i64 0) := HR1.out.cell 1
    have r2 : w1.cell? ⟨L2, 2, none⟩ = some (.int .i64 0) := HR1.out.cell 2
    have r3 : w1.cell? ⟨L2, 3, none⟩ = some (.int .i64 0) := HR1.out.cell 3
    have f0 : w1.frozen? ⟨L2, 0, none⟩ = false := HR1.out.frozen 0
    have f1 : w1.frozen? ⟨L2, 1, none⟩ = false := HR1.out.frozen 1
    have f2 : w1.frozen? ⟨L2, 2, none⟩ = false := HR1.out.frozen 2
    have f3 : w1.frozen? ⟨L2, 3, none⟩ = false := HR1.out.frozen 3
    have l2 := HR1.out.lt
    have hz := (((HR1.out.set 0 (.int .i64 0)).set 1 (.int .i64 0)).set 2 (.int .i64 0)).set 3 (.int .i64 0)
    have HBz := Lib.hid (bset (p := ⟨L2, 3, none⟩) hge2 (bset (p := ⟨L2, 2, none⟩) hge2 (bset (p := ⟨L2, 1, none⟩) hge2 (bset (p := ⟨L2, 0, none⟩) hge2 HB.out (.int .i64 0)) (.int .i64 0)) (.int .i64 0)) (.int .i64 0))
    go_wp2
    have z0 := hz.cell 0
    have z1 := hz.cell 1
    have z2 := hz.cell 2
    have z3 := hz.cell 3
    generalize (((w1.setCell ⟨L2, 0, none⟩ (.int .i64 0)).setCell ⟨L2, 1, none⟩ (.int .i64 0)).setCell ⟨L2, 2, none⟩ (.int .i64 0)).setCell ⟨L2, 3, none⟩ (.int .i64 0) = wz at *
    replace z0 : wz.cell? ⟨L2, 0, none⟩ = some (.int .i64 0) := z0
    replace z1 : wz.cell? ⟨L2, 1, none⟩ = some (.int .i64 0) := z1
    replace z2 : wz.cell? ⟨L2, 2, none⟩ = some (.int .i64 0) := z2
    replace z3 : wz.cell? ⟨L2, 3, none⟩ = some (.int .i64 0) := z3
    refine bodyPost_ret (v := .tuple #[.agg #[.int .i64 0, .int .i64 0, .int .i64 0, .int .i64 0], .bool false]) (by simp [results, Try.results18, go_sem, z0, z1, z2, z3]) rfl ⟨?_, HBz.out⟩
    rw [HV.out, HE.out]
end Go.Proofs.Ytaehfildhmljeaa
