/- The law CloudBest: its walk. -/
import Derived.Test.YtaehfildhmljeaaBstM
import Derived.Test.YtaehfildhmljeaaMx4
import Derived.Test.YtaehfildhmljeaaAwk
namespace Go.Proofs.Ytaehfildhmljeaa
open Go.RowKit Go.Shelf

set_option maxRecDepth 100000 in
set_option maxHeartbeats 16000000 in
theorem cbest_walk (A : Option Addr) (q1 cap1 : Nat) (S : Nat → Int) (B : Option Addr) (q2 cap2 : Nat) (S' : Nat → Int) (wi sl : Int) (hq1 : q1 ≤ cap1) (hq2 : q2 ≤ cap2) (w : World) (hs : Nums w A q1 S) (hs' : Nums w B q2 S') :
    Calls Try.prog 14 #[.slice A q1 cap1, .slice B q2 cap2, .int .i64 wi, .int .i64 sl] w fun e w' => e = .returned (.bool true) ∧ Below w.heap.size w w' := by
  have HS1 := Lib.hid hs
  have HS2 := Lib.hid hs'
  clear hs hs'
  go_enter Try.func14, Try.ntmps14
  go_upto_if 19 with fail
  go_cut [0] from 17 to 26 (fun v w' => (∃ (n cap : Nat), v = .slice A n cap ∧ n ≤ 16 ∧ Nums w A n S) ∧ w' = w)
  case first =>
    by_cases h : 16 < q1
    · obtain ⟨b, off, rfl, hc⟩ := HS1.out (by omega)
      have h2 : (16 : Int) < (q1 : Int) := by omega
      have h3 : (16 : Int) ≤ (cap1 : Int) := by omega
      have h4 : 16 ≤ cap1 := by omega
      have HC := Lib.hid hc
      clear hc
      go_wp2
      go_meet
      refine ⟨⟨16, _, rfl, Nat.le_refl _, ?_⟩, rfl⟩
      exact fun _ => ⟨b, off, rfl, fun i hi => HC.out i (by omega)⟩
    · have h2 : ¬ (16 : Int) < (q1 : Int) := by omega
      go_wp2
      go_meet
      exact ⟨⟨q1, cap1, rfl, by omega, HS1.out⟩, rfl⟩
  obtain ⟨⟨n, cn, rfl, hn, hs⟩, hwc⟩ := hcut
  obtain ⟨wy, hwy⟩ : ∃ x : World, x = wc := ⟨_, rfl⟩
  subst hwy
  have HSn := Lib.hid hs
  have HW := Lib.hid hwc
  clear hs hwc HS1
  go_upto_if 24 with fail
  go_cut [1] from 17 to 26 (fun v w' => (∃ (m cap : Nat), v = .slice B m cap ∧ m ≤ 16 ∧ Nums w B m S') ∧ w' = wy)
  case first =>
    by_cases h : 16 < q2
    · obtain ⟨b, off, rfl, hc⟩ := HS2.out (by omega)
      have h2 : (16 : Int) < (q2 : Int) := by omega
      have h3 : (16 : Int) ≤ (cap2 : Int) := by omega
      have h4 : 16 ≤ cap2 := by omega
      have HC := Lib.hid hc
      clear hc
      go_wp2
      go_meet
      refine ⟨⟨16, _, rfl, Nat.le_refl _, ?_⟩, rfl⟩
      exact fun _ => ⟨b, off, rfl, fun i hi => HC.out i (by omega)⟩
    · have h2 : ¬ (16 : Int) < (q2 : Int) := by omega
      go_wp2
      go_meet
      exact ⟨⟨q2, cap2, rfl, by omega, HS2.out⟩, rfl⟩
  obtain ⟨⟨m, cm, rfl, hm, hs'⟩, hwc⟩ := hcut
  rw [HW.out] at hwc
  have HSm := Lib.hid hs'
  subst hwc
  clear hs' HS2 HW hq1 hq2
  have HKn := Lib.hid (fun W (h : Nums W A n S) => kcloud_any A n cn S 200 (by omega) (by omega) W h)
  have hok := kcl_ok (span := 200) (by omega) (by omega) S (n := n) (by omega)
  have HKm := Lib.hid (fun W (h : Nums W B m S') => kcloud_any B m cm S' 200 (by omega) (by omega) W h)
  have hok' := kcl_ok (span := 200) (by omega) (by omega) S' (n := m) (by omega)
  rw [show min n 40 = n by omega] at HKn
  rw [show min m 40 = m by omega] at HKm
  have hbX := fun i => kX_bd (span := 200) (by omega) (S i)
  have hbY := fun i => kY_bd (span := 200) (by omega) (S i)
  have hbX' := fun i => kX_bd (span := 200) (by omega) (S' i)
  have hbY' := fun i => kY_bd (span := 200) (by omega) (S' i)
  replace hbX : ∀ i, -200 ≤ (fun i => kX 200 (S i)) i ∧ (fun i => kX 200 (S i)) i ≤ 200 := hbX
  replace hbY : ∀ i, -200 ≤ (fun i => kY 200 (S i)) i ∧ (fun i => kY 200 (S i)) i ≤ 200 := hbY
  replace hbX' : ∀ i, -200 ≤ (fun i => kX 200 (S' i)) i ∧ (fun i => kX 200 (S' i)) i ≤ 200 := hbX'
  replace hbY' : ∀ i, -200 ≤ (fun i => kY 200 (S' i)) i ∧ (fun i => kY 200 (S' i)) i ≤ 200 := hbY'
  generalize (fun i => kX 200 (S i)) = X at *
  generalize (fun i => kY 200 (S i)) = Y at *
  generalize (fun i => kV (S i)) = V at *
  generalize (fun i => kX 200 (S' i)) = X' at *
  generalize (fun i => kY 200 (S' i)) = Y' at *
  generalize (fun i => kV (S' i)) = V' at *
  obtain ⟨t, ht⟩ : ∃ t, t = wi % 301 := ⟨_, rfl⟩
  obtain ⟨u, hu⟩ : ∃ u, u = sl % 31 := ⟨_, rfl⟩
  have HM1 := Lib.hid (fun W => mod64_any wi 301 W (by omega) (by omega))
  have HM2 := Lib.hid (fun W => mod64_any sl 31 W (by omega) (by omega))
  rw [← ht] at HM1
  rw [← hu] at HM2
  have ht' : 0 ≤ t ∧ t ≤ 300 := by omega
  have hu' : 0 ≤ u ∧ u ≤ 30 := by omega
  obtain ⟨t0, t1⟩ := ht'
  obtain ⟨u0, u1⟩ := hu'
  clear ht hu
  have HR := Lib.hid (fun A c1 B c2 W (h : Cloud W A n X Y V) (h' : Cloud W B m X' Y' V') => register_good A n c1 X Y V B m c2 X' Y' V' t u hok hok' (by omega) (by omega) t0 (by omega) u0 (by omega) W h h')
  unfold RegPost at HR
  have HMt : Hid (∀ a b, nearB a b = true → ∀ A c1 B c2 W, Cloud W A n X Y V → Cloud W B m X' Y' V' → Calls Try.prog 51 #[.slice A n c1, .slice B m c2, sp a b, .int .i64 u] W fun e w' => e = .returned (.int .i64 ((matF n X Y m X' Y' a b u : Nat) : Int)) ∧ Below W.heap.size W w') := Lib.hid (fun a b hab A c1 B c2 W h h' => by
    have := match_any A n c1 X Y V B m c2 X' Y' V' a b u W h h'
    rwa [matAny_yes (show matOk n X Y V m X' Y' V' a b u = true by simp [matOk, hok, hok', hab]; omega)] at this)
  have HI := best_inv (n := n) (X := X) (Y := Y) (m := m) (X' := X') (Y' := Y') (win := t) (s := u)
  have HZ := best_zero (n := n) (X := X) (Y := Y) (m := m) (X' := X') (Y' := Y') (win := t) (s := u)
  have HCd := Lib.hid (fun i j hi hj h => best_cand (n := n) (X := X) (Y := Y) (m := m) (X' := X') (Y' := Y') (win := t) (s := u) (i := i) (j := j) hi hj h)
  have hsm := regI_sml (n := n) (X := X) (Y := Y) (m := m) (X' := X') (Y' := Y') (win := t) (s := u) (by omega) (by omega) n
  have HBX := Lib.hid hbX
  have HBY := Lib.hid hbY
  have HBX' := Lib.hid hbX'
  have HBY' := Lib.hid hbY'
  generalize regI n X Y m X' Y' t u n = st at *
  obtain ⟨⟨bx, bz⟩, mo⟩ := st
  have hs1 : (-2000 ≤ bx ∧ bx ≤ 2000) ∧ (-2000 ≤ bz ∧ bz ≤ 2000) ∧ mo ≤ 1000 := hsm
  have HIn : mo = matF n X Y m X' Y' bx bz u := HI
  have HMb := Lib.hid (HMt.out bx bz (by unfold nearB; simp; omega))
  have HM0 := Lib.hid (HMt.out 0 0 (by unfold nearB; simp))
  rw [← HIn] at HMb
  have hz0 : matF n X Y m X' Y' 0 0 u ≤ mo := HZ
  generalize matF n X Y m X' Y' 0 0 u = c0 at *
  have y1 : decide (mo < c0) = false := decide_eq_false (by omega)
  have y2 : ((mo : Int) != (mo : Int)) = false := by simp
  have hB := Below.refl wc.heap.size wc
  clear hok hok' hbX hbY hbX' hbY' HI HZ hsm HIn hz0
  go_upto_region 8 with (first
    | (go_at_call 54; (with_reducible refine (HKn.out _ (HSn.out.below hB)).mono ?_); rintro e w1 ⟨B1, c1, rfl, _, hC1, hb1⟩; replace hB := below_step hB hb1; have HC1 := Lib.hid hC1; clear hC1)
    | (go_at_call 54; (with_reducible refine (HKm.out _ (HSm.out.below hB)).mono ?_); rintro e w2 ⟨B2, c2, rfl, _, hC2, hb2⟩; replace hB := below_step hB hb2; have HC12 := Lib.hid (HC1.out.below hb2); have HC2 := Lib.hid hC2; clear hC2)
    | (go_at_call 55; (with_reducible refine (HM1.out _).mono ?_); rintro e w3 ⟨rfl, rfl⟩)
    | (go_at_call 55; (with_reducible refine (HM2.out _).mono ?_); rintro e w4 ⟨rfl, rfl⟩)
    | (go_at_call 49; (with_reducible refine (HR.out B1 c1 B2 c2 _ HC12.out HC2.out).mono ?_); rintro e w5 ⟨rfl, hb5⟩; replace hB := below_step hB hb5; have HC15 := Lib.hid (HC12.out.below hb5); have HC25 := Lib.hid (HC2.out.below hb5)))
  have hx := BoxAt.new w5 24 #[.int .i64 bx, .int .i64 bz]
  have hb6 : Below w5.heap.size w5 (w5.alloc (.cells #[.int .i64 bx, .int .i64 bz] 24)) := (Below.refl _ w5).alloc (Nat.le_refl _) _
  obtain ⟨L11, hL11⟩ : ∃ z, z = w5.heap.size := ⟨_, rfl⟩
  rw [← hL11] at hx ⊢
  replace hB := below_step hB hb6
  have HC16 := Lib.hid (HC15.out.below hb6)
  have HC26 := Lib.hid (HC25.out.below hb6)
  clear hL11 hb6 hb1 hb2 hb5 HC1 HC12 HC2 HC15 HC25 HR HKn HKm HM1 HM2 HSn HSm
  generalize w5.alloc (.cells #[.int .i64 bx, .int .i64 bz] 24) = w6 at *
  have x0 : w6.cell? ⟨L11, 0, none⟩ = some (.int .i64 bx) := hx.cell 0
  have x1 : w6.cell? ⟨L11, 1, none⟩ = some (.int .i64 bz) := hx.cell 1
  have lx := hx.lt
  clear hx
  go_wp2_with (first
    | (go_at_call 51; (with_reducible refine (HMb.out _ _ _ _ _ HC16.out HC26.out).mono ?_); rintro e w7 ⟨rfl, hb7⟩)
    | (go_at_call 51; (with_reducible refine (HM0.out _ _ _ _ _ (HC16.out.below hb7) (HC26.out.below hb7)).mono ?_); rintro e w8 ⟨rfl, hb8⟩))
  have HB6 := Lib.hid hB
  have HB68 := Lib.hid (below_step hb7 hb8)
  clear hB hb7 hb8 HMb HM0 x0 x1 lx y1 y2
  go_loopw [14] (fun iv wr => ∃ i : Nat, i ≤ n ∧ iv = .int .i64 i ∧ Hid (Below w6.heap.size w6 wr)) (fun iv _ => n - (intOf iv).toNat)
  case atStart => exact ⟨0, Nat.zero_le _, rfl, HB68⟩
  case round =>
    clear HB68
    obtain ⟨i, hi, rfl, HBi⟩ := hrel
    by_cases hlt : i < n
    · have i0 : (0 : Int) ≤ (i : Int) := Int.natCast_nonneg _
      have i1 : (i : Int) < (n : Int) := by omega
      obtain ⟨b1, o1, e1, hp1⟩ := HC16.out (by omega)
      subst e1
      have HP1 := Lib.hid hp1
      have hq1 := hp1.lt (by omega)
      clear hp1
      go_wp2
      obtain ⟨wi6, rfl⟩ : ∃ x : World, x = wr := ⟨_, rfl⟩
      go_loopw [15] (fun jv wr => ∃ j : Nat, j ≤ m ∧ jv = .int .i64 j ∧ Hid (Below w6.heap.size w6 wr)) (fun jv _ => m - (intOf jv).toNat)
      case atStart => exact ⟨0, Nat.zero_le _, rfl, HBi⟩
      case round =>
        clear HBi
        obtain ⟨j, hj, rfl, HBj⟩ := hrel
        by_cases hltj : j < m
        · have j0 : (0 : Int) ≤ (j : Int) := Int.natCast_nonneg _
          have j1 : (j : Int) < (m : Int) := by omega
          obtain ⟨b2, o2, e2, hp2⟩ := HC26.out (by omega)
          subst e2
          have hq2 := hp2.lt (by omega)
          have l1 : b1 < wr.heap.size := Nat.lt_of_lt_of_le hq1 HBj.out.size
          have l2 : b2 < wr.heap.size := Nat.lt_of_lt_of_le hq2 HBj.out.size
          obtain ⟨p0, p1, _⟩ := (HP1.out.below HBj.out hq1) i hlt
          obtain ⟨p3, p4, _⟩ := (hp2.below HBj.out hq2) j hltj
          have hbx := HBX.out i
          have hby := HBY.out i
          have hbx' := HBX'.out j
          have hby' := HBY'.out j
          have HCij := Lib.hid (HCd.out i j hlt hltj)
          have v1 : IntKind.i64.wrap (X i - X' j) = X i - X' j := IntWalk.i64_in _ (by omega)
          have v2 : IntKind.i64.wrap (Y i - Y' j) = Y i - Y' j := IntWalk.i64_in _ (by omega)
          obtain ⟨p, hp⟩ : ∃ p, p = X i - X' j := ⟨_, rfl⟩
          obtain ⟨q, hq⟩ : ∃ q, q = Y i - Y' j := ⟨_, rfl⟩
          rw [← hp, ← hq] at HCij
          replace v1 : IntKind.i64.wrap (X i - X' j) = p := by rw [v1, hp]
          replace v2 : IntKind.i64.wrap (Y i - Y' j) = q := by rw [v2, hq]
          have pq : (-400 ≤ p ∧ p ≤ 400) ∧ (-400 ≤ q ∧ q ≤ 400) := by omega
          clear hp2 hbx hby hbx' hby' hp hq
          go_upto_region 16 with fail
          go_cut [16] from 76 to 98 (fun v wz => ∃ g, v = .pointer (some ⟨g, 0, none⟩) ∧ BoxAt wz g 24 #[.int .i64 p, .int .i64 q] ∧ Below wr.heap.size wr wz)
          case first =>
            go_region_held3 (fun W => W.cell? ⟨b1, o1 + i * 3, none⟩ = some (.int .i64 (X i)) ∧ W.cell? ⟨b1, o1 + i * 3 + 1, none⟩ = some (.int .i64 (Y i)) ∧ W.cell? ⟨b2, o2 + j * 3, none⟩ = some (.int .i64 (X' j)) ∧ W.cell? ⟨b2, o2 + j * 3 + 1, none⟩ = some (.int .i64 (Y' j)))
              (first | go_keep | (refine ⟨?_, ?_, ?_, ?_⟩ <;> (refine (Below.cell (w := wr) (B := wr.heap.size) ?_ (by assumption)).trans (by assumption); (repeat (first | (with_reducible exact Below.refl _ _) | ((with_reducible refine bset ?_ ?_ _); (first | exact Nat.le_refl _ | omega | (simp; omega) | simp)) | ((with_reducible refine balloc ?_ ?_ _); (first | exact Nat.le_refl _ | omega | (simp; omega) | simp)) | (with_reducible refine Below.drew ?_)))))) (fail)
            all_goals go_wp2
            all_goals go_meet
            all_goals exact ⟨_, rfl, BoxAt.drew (BoxAt.new _ _ _), Below.drew ((Below.refl _ wr).alloc (Nat.le_refl _) _)⟩
          case rest =>
            obtain ⟨wd, rfl⟩ : ∃ x : World, x = wc := ⟨_, rfl⟩
            obtain ⟨g, rfl, hbg, hbd⟩ := hcut
            have HBd := Lib.hid (below_step HBj.out hbd)
            have g0 : wd.cell? ⟨g, 0, none⟩ = some (.int .i64 p) := hbg.cell 0
            have g1 : wd.cell? ⟨g, 1, none⟩ = some (.int .i64 q) := hbg.cell 1
            have lg := hbg.lt
            have n1 : IntKind.i64.wrap (-p) = -p := IntWalk.i64_in _ (by omega)
            have n2 : IntKind.i64.wrap (-q) = -q := IntWalk.i64_in _ (by omega)
            have HMpq : Hid (∀ W, Below w6.heap.size w6 W → Calls Try.prog 51 #[.slice (some ⟨b1, o1, none⟩) n c1, .slice (some ⟨b2, o2, none⟩) m c2, sp p q, .int .i64 u] W fun e w' => e = .returned (.int .i64 ((matF n X Y m X' Y' p q u : Nat) : Int)) ∧ Below W.heap.size W w') := Lib.hid (fun W hW => HMt.out p q (by unfold nearB; simp; omega) _ _ _ _ W (HC16.out.below hW) (HC26.out.below hW))
            generalize matF n X Y m X' Y' p q u = c at HMpq HCij
            clear hbg hbd v1 v2 p0 p1 p3 p4 l1 l2 hq2
            go_upto_region 17 with fail
            go_cut [120] from 99 to 120 (fun v w' => v = .bool false ∧ Below wd.heap.size wd w')
            case first =>
              by_cases a1 : p < -p
              · skip
                by_cases a2 : -p < q
                · have a3 : ¬ q < -q := by omega
                  have HMx := Lib.hid (in_of_max (p := p) (q := q) (win := t) (M := q) (by omega) (by omega) (by omega) (by omega) (by omega))
                  have hmr := Lib.hid (fun W => run_max4 p (-p) q (-q) (q) (by omega) (by omega) (by omega) (by omega) (by omega) W)
                  by_cases z : q ≤ t
                  · have y1 : decide (mo < c) = false := decide_eq_false (by have := HCij.out (by rw [HMx.out]; exact decide_eq_true z); omega)
                    go_wp2_with (first | (rw [hmr.out]) | (go_at_call 51; (with_reducible refine (HMpq.out _ HBd.out).mono ?_); rintro e w9 ⟨rfl, hb9⟩))
                    go_meet
                    exact ⟨rfl, hb9⟩
                  · have z2 : decide (q ≤ t) = false := decide_eq_false z
                    go_wp2_with (rw [hmr.out])
                    go_meet
                    exact ⟨rfl, Below.refl _ _⟩
                · by_cases a3 : -p < -q
                  · skip
                    have HMx := Lib.hid (in_of_max (p := p) (q := q) (win := t) (M := -q) (by omega) (by omega) (by omega) (by omega) (by omega))
                    have hmr := Lib.hid (fun W => run_max4 p (-p) q (-q) (-q) (by omega) (by omega) (by omega) (by omega) (by omega) W)
                    by_cases z : -q ≤ t
                    · have y1 : decide (mo < c) = false := decide_eq_false (by have := HCij.out (by rw [HMx.out]; exact decide_eq_true z); omega)
                      go_wp2_with (first | (rw [hmr.out]) | (go_at_call 51; (with_reducible refine (HMpq.out _ HBd.out).mono ?_); rintro e w9 ⟨rfl, hb9⟩))
                      go_meet
                      exact ⟨rfl, hb9⟩
                    · have z2 : decide (-q ≤ t) = false := decide_eq_false z
                      go_wp2_with (rw [hmr.out])
                      go_meet
                      exact ⟨rfl, Below.refl _ _⟩
                  · skip
                    have HMx := Lib.hid (in_of_max (p := p) (q := q) (win := t) (M := -p) (by omega) (by omega) (by omega) (by omega) (by omega))
                    have hmr := Lib.hid (fun W => run_max4 p (-p) q (-q) (-p) (by omega) (by omega) (by omega) (by omega) (by omega) W)
                    by_cases z : -p ≤ t
                    · have y1 : decide (mo < c) = false := decide_eq_false (by have := HCij.out (by rw [HMx.out]; exact decide_eq_true z); omega)
                      go_wp2_with (first | (rw [hmr.out]) | (go_at_call 51; (with_reducible refine (HMpq.out _ HBd.out).mono ?_); rintro e w9 ⟨rfl, hb9⟩))
                      go_meet
                      exact ⟨rfl, hb9⟩
                    · have z2 : decide (-p ≤ t) = false := decide_eq_false z
                      go_wp2_with (rw [hmr.out])
                      go_meet
                      exact ⟨rfl, Below.refl _ _⟩
              · skip
                by_cases a2 : p < q
                · have a3 : ¬ q < -q := by omega
                  have HMx := Lib.hid (in_of_max (p := p) (q := q) (win := t) (M := q) (by omega) (by omega) (by omega) (by omega) (by omega))
                  have hmr := Lib.hid (fun W => run_max4 p (-p) q (-q) (q) (by omega) (by omega) (by omega) (by omega) (by omega) W)
                  by_cases z : q ≤ t
                  · have y1 : decide (mo < c) = false := decide_eq_false (by have := HCij.out (by rw [HMx.out]; exact decide_eq_true z); omega)
                    go_wp2_with (first | (rw [hmr.out]) | (go_at_call 51; (with_reducible refine (HMpq.out _ HBd.out).mono ?_); rintro e w9 ⟨rfl, hb9⟩))
                    go_meet
                    exact ⟨rfl, hb9⟩
                  · have z2 : decide (q ≤ t) = false := decide_eq_false z
                    go_wp2_with (rw [hmr.out])
                    go_meet
                    exact ⟨rfl, Below.refl _ _⟩
                · by_cases a3 : p < -q
                  · skip
                    have HMx := Lib.hid (in_of_max (p := p) (q := q) (win := t) (M := -q) (by omega) (by omega) (by omega) (by omega) (by omega))
                    have hmr := Lib.hid (fun W => run_max4 p (-p) q (-q) (-q) (by omega) (by omega) (by omega) (by omega) (by omega) W)
                    by_cases z : -q ≤ t
                    · have y1 : decide (mo < c) = false := decide_eq_false (by have := HCij.out (by rw [HMx.out]; exact decide_eq_true z); omega)
                      go_wp2_with (first | (rw [hmr.out]) | (go_at_call 51; (with_reducible refine (HMpq.out _ HBd.out).mono ?_); rintro e w9 ⟨rfl, hb9⟩))
                      go_meet
                      exact ⟨rfl, hb9⟩
                    · have z2 : decide (-q ≤ t) = false := decide_eq_false z
                      go_wp2_with (rw [hmr.out])
                      go_meet
                      exact ⟨rfl, Below.refl _ _⟩
                  · skip
                    have HMx := Lib.hid (in_of_max (p := p) (q := q) (win := t) (M := p) (by omega) (by omega) (by omega) (by omega) (by omega))
                    have hmr := Lib.hid (fun W => run_max4 p (-p) q (-q) (p) (by omega) (by omega) (by omega) (by omega) (by omega) W)
                    by_cases z : p ≤ t
                    · have y1 : decide (mo < c) = false := decide_eq_false (by have := HCij.out (by rw [HMx.out]; exact decide_eq_true z); omega)
                      go_wp2_with (first | (rw [hmr.out]) | (go_at_call 51; (with_reducible refine (HMpq.out _ HBd.out).mono ?_); rintro e w9 ⟨rfl, hb9⟩))
                      go_meet
                      exact ⟨rfl, hb9⟩
                    · have z2 : decide (p ≤ t) = false := decide_eq_false z
                      go_wp2_with (rw [hmr.out])
                      go_meet
                      exact ⟨rfl, Below.refl _ _⟩
            case rest =>
              obtain ⟨wf, rfl⟩ : ∃ x : World, x = wc := ⟨_, rfl⟩
              obtain ⟨rfl, hbf⟩ := hcut
              have HBf := Lib.hid (below_step HBd.out hbf)
              go_wp2
              go_roundw
              case rel => exact ⟨j + 1, by omega, by go_num, HBf⟩
              case measure => simp [intOf]; omega
        · obtain rfl : j = m := by omega
          have j1 : ¬ (j : Int) < (j : Int) := by omega
          go_wp2
          go_roundw
          case rel => exact ⟨i + 1, by omega, by go_num, HBj⟩
          case measure => simp [intOf]; omega
    · obtain rfl : i = n := by omega
      have i1 : ¬ (i : Int) < (i : Int) := by omega
      have hBz := HB6.out.trans (HBi.out.mono HB6.out.size)
      go_wp2_with (go_at_call 16; (with_reducible refine (awake_any _).mono ?_); rintro e w9 ⟨rfl, hb9⟩; replace hBz := below_step hBz hb9)
      go_ret
      exact ⟨rfl, hBz⟩
end Go.Proofs.Ytaehfildhmljeaa
