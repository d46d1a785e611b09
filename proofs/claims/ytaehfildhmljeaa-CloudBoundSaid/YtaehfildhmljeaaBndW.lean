/- The law CloudBound: its walk. -/
import Derived.Test.YtaehfildhmljeaaBndM
import Derived.Test.YtaehfildhmljeaaKCl
import Derived.Test.YtaehfildhmljeaaQBel
import Derived.Test.YtaehfildhmljeaaRdsW
namespace Go.Proofs.Ytaehfildhmljeaa
open Go.RowKit Go.Shelf

theorem lspot_any (x y v : Int) (w : World) : Calls Try.prog 57 #[.agg #[.int .i64 x, .int .i64 y, .int .i64 v]] w fun e w' => e = .returned (sp x y) ∧ Below w.heap.size w w' := by
  go_enter Try.func57, Try.ntmps57
  go_wp2
  exact bodyPost_ret (v := sp x y) (by simp [results, Try.results57, go_sem]) rfl ⟨rfl, by
    repeat (first | exact Below.refl _ _ | refine Below.setCell ?_ (by first | omega | (simp; omega) | simp) _ | refine Below.alloc ?_ (by first | omega | (simp; omega) | simp) _)⟩
theorem sq_nn (x : Int) : 0 ≤ x * x := by
  rcases Int.le_total 0 x with h | h
  · exact Int.mul_nonneg h h
  · have := Int.mul_nonneg (show 0 ≤ -x by omega) (show 0 ≤ -x by omega)
    rw [Int.neg_mul_neg] at this
    exact this
/-- What the law asks of the kept points. -/
def BndP (n m : Nat) (X Y V X' Y' V' : Nat → Int) (b : Int) : Prop :=
  (∀ i, i < n → ∃ k, k < m ∧ distF (X i, Y i) (X' k, Y' k) ≤ b * b ∧ V i ≤ V' k) ∧ (∀ k, k < m → ∃ i, i < n ∧ X i = X' k ∧ Y i = Y' k)
theorem bndP_ok {n : Nat} {X Y V : Nat → Int} {s : Int} (h1 : 1 ≤ s) (h2 : s ≤ 16777216) (hok : chkF n X Y V = 0) :
    BndP n (rnk (redC X Y s) n) X Y V (fun a => X (nthF (redC X Y s) n a)) (fun a => Y (nthF (redC X Y s) n a)) (fun a => mxF (redC X Y s) V (nthF (redC X Y s) n a) n) (bndF s) := by
  refine ⟨fun i hi => ?_, fun k hk => ?_⟩
  · obtain ⟨j, hj, hf, e⟩ := lead (C := redC X Y s) i
    refine ⟨rnk (redC X Y s) j, rnk_lt hf (by omega), ?_, ?_⟩
    · simp only [nth_of hf n (by omega)]
      obtain ⟨_, _, _, b4⟩ := bnd_spec h1 h2
      have b5 := near_cell (X := X) (Y := Y) h1 e.symm
      have b6 : distF (X i, Y i) (X j, Y j) ≤ dsq (X i, Y i) (X j, Y j) := by
        unfold distF
        split
        · exact Int.le_refl _
        · unfold dsq
          have p := sq_nn ((X j, Y j).1 - (X i, Y i).1)
          have q := sq_nn ((X j, Y j).2 - (X i, Y i).2)
          omega
      omega
    · simp only [nth_of hf n (by omega)]
      exact mx_ge e.symm n hi
  · obtain ⟨h, _, _⟩ := nth_spec (C := redC X Y s) n k hk
    exact ⟨_, h, rfl, rfl⟩

set_option maxRecDepth 100000 in
set_option maxHeartbeats 16000000 in
theorem cbound_walk (A : Option Addr) (q cap : Nat) (S : Nat → Int) (size : Int) (w : World) (hs : Nums w A q S) :
    Calls Try.prog 11 #[.slice A q cap, .int .i64 size] w fun e w' => e = .returned (.bool true) ∧ Below w.heap.size w w' := by
  have HKc := Lib.hid (fun W (h : Nums W A q S) => kcloud_any A q cap S 3000 (by omega) (by omega) W h)
  have HMd := Lib.hid (fun W => mod64_any size 4000 W (by omega) (by omega))
  obtain ⟨n, hn⟩ : ∃ n, n = min q 40 := ⟨_, rfl⟩
  have hok := kcl_ok (span := 3000) (by omega) (by omega) S (n := n) (by omega)
  rw [← hn] at HKc
  have hn40 : n ≤ 40 := by omega
  obtain ⟨t, ht⟩ : ∃ t, t = size % 4000 := ⟨_, rfl⟩
  have ht0 : 0 ≤ t ∧ t < 4000 := by omega
  obtain ⟨t0, t1⟩ := ht0
  rw [← ht] at HMd
  have HNums := Lib.hid hs
  clear hn ht hs
  generalize (fun i => kX 3000 (S i)) = X at *
  generalize (fun i => kY 3000 (S i)) = Y at *
  generalize (fun i => kV (S i)) = V at *
  obtain ⟨s, hs⟩ : ∃ s, s = 1 + t := ⟨_, rfl⟩
  have hs1 : 1 ≤ s := by omega
  have hs2 : s ≤ 16777216 := by omega
  have hg : gridF n X Y V s = 0 := by unfold gridF; rw [hok, if_neg (by simp), if_pos ⟨hs1, hs2⟩]
  have hP := bndP_ok hs1 hs2 hok
  have hbs := bnd_spec hs1 hs2
  have HBd := Lib.hid (fun W => bound_any s W)
  have HR1 := Lib.hid (fun (A : Option Addr) (cap : Nat) (W : World) (h : Cloud W A n X Y V) => reduce_any A n cap X Y V s W h)
  unfold RedAll at HR1
  rw [hg] at HR1
  simp only [if_true] at HR1
  have hok2 := kept_ok (s := s) hok
  have hf2 := kept_first (X := X) (Y := Y) (s := s) (n := n)
  have hmn := rnk_le (C := redC X Y s) n
  generalize hm : rnk (redC X Y s) n = m at *
  generalize (fun a => X (nthF (redC X Y s) n a)) = X' at *
  generalize (fun a => Y (nthF (redC X Y s) n a)) = Y' at *
  generalize (fun a => mxF (redC X Y s) V (nthF (redC X Y s) n a) n) = V' at *
  have hg2 : gridF m X' Y' V' s = 0 := by unfold gridF; rw [hok2, if_neg (by simp), if_pos ⟨hs1, hs2⟩]
  have HR2 : Hid (∀ (A : Option Addr) (cap : Nat) (W : World), Cloud W A m X' Y' V' → Calls Try.prog 37 #[.slice A m cap, .int .i64 s] W fun e w' => ∃ B c, e = .returned (.tuple #[.slice B m c, .int .i64 0]) ∧ Cloud w' B m X' Y' V' ∧ Below W.heap.size W w') := Lib.hid (fun A cap W h => (reduce_any A m cap X' Y' V' s W h).mono (by
    rintro e w' ⟨B, c, h1, _, h3, h4⟩
    rw [hg2, if_pos rfl, all_first hf2 m (Nat.le_refl _)] at h1
    rw [hg2, if_pos rfl, all_first hf2 m (Nat.le_refl _)] at h3
    exact ⟨B, c, h1, h3.ext (fun a ha => by
      simp only [all_nth hf2 ha]
      exact ⟨trivial, trivial, all_mx hf2 ha m (Nat.le_refl _)⟩), h4⟩))
  generalize bndF s = b at *
  obtain ⟨hP1, hP2⟩ := hP
  obtain ⟨g0, g1, g2, _⟩ := hbs
  have HP1 := Lib.hid hP1
  have HP2 := Lib.hid hP2
  have hm40 : m ≤ 40 := by omega
  have z1 : ¬ b < s - 1 := by omega
  have z2 : ¬ 2 * s < b := by omega
  have z3 : ¬ (n : Int) < (m : Int) := by omega
  have zb : 0 ≤ b * b := Int.mul_nonneg g0 g0
  have zb2 : b * b ≤ 8000 * 8000 := Int.mul_le_mul (by omega) (by omega) g0 (by omega)
  have hB := Below.refl w.heap.size w
  have hmm : m ≤ 1000000 := by omega
  clear hok hg hok2 hf2 hg2 hP1 hP2 hm
  subst hs
  have z4 : ¬ b < t := by omega
  go_enter Try.func11, Try.ntmps11
  go_upto_region 8 with (first
    | (go_at_call 54; (with_reducible refine (HKc.out _ HNums.out).mono ?_); rintro e w1 ⟨B1, c1, rfl, _, hC1, hb1⟩; replace hB := below_step hB hb1; have HC1 := Lib.hid hC1; clear hC1)
    | (go_at_call 55; (with_reducible refine (HMd.out _).mono ?_); rintro e w2 ⟨rfl, rfl⟩)
    | (go_at_call 37; (with_reducible refine (HR1.out B1 c1 _ HC1.out).mono ?_); rintro e w3 ⟨B2, c2, rfl, _, hC2, hb3⟩; replace hB := below_step hB hb3; have HC13 := Lib.hid (HC1.out.below hb3); have HC2 := Lib.hid hC2; clear hC2)
    | (go_at_call 37; (with_reducible refine (HR2.out B2 c2 _ HC2.out).mono ?_); rintro e w4 ⟨B3, c3, rfl, hC3, hb4⟩; replace hB := below_step hB hb4; have HC14 := Lib.hid (HC13.out.below hb4); have HC24 := Lib.hid (HC2.out.below hb4); have HC3 := Lib.hid hC3; clear hC3)
    | (go_at_call 39; (with_reducible refine (HBd.out _).mono ?_); rintro e w5 ⟨rfl, hb5⟩; replace hB := below_step hB hb5; have HC15 := Lib.hid (HC14.out.below hb5); have HC25 := Lib.hid (HC24.out.below hb5); have HC35 := Lib.hid (HC3.out.below hb5))
    | (go_at_call 24; (with_reducible refine (same_points B3 B2 m c3 c2 X' Y' V' _ hmm HC35.out HC25.out).mono ?_); rintro e w6 ⟨rfl, hb6⟩; replace hB := below_step hB hb6; have HC16 := Lib.hid (HC15.out.below hb6); have HC26 := Lib.hid (HC25.out.below hb6)))
  have HBw := Lib.hid hB
  have I : ∃ i : Nat, i ≤ n ∧ (Value.int .i64 0) = .int .i64 i ∧ Hid (Below w6.heap.size w6 w6) := ⟨0, Nat.zero_le _, rfl, Lib.hid (Below.refl _ _)⟩
  clear hB hb1 hb3 hb4 hb5 hb6 HKc HMd HR1 HR2 HBd HC1 HC13 HC2 HC14 HC24 HC3 HC15 HC25 HC35 HNums
  go_wp2
  go_loopw [11] (fun iv wr => ∃ i : Nat, i ≤ n ∧ iv = .int .i64 i ∧ Hid (Below w6.heap.size w6 wr)) (fun iv _ => n - (intOf iv).toNat)
  case atStart => exact I
  case round =>
    clear I
    obtain ⟨i, hi, rfl, HB⟩ := hrel
    by_cases hlt : i < n
    · have i0 : (0 : Int) ≤ (i : Int) := Int.natCast_nonneg _
      have i1 : (i : Int) < (n : Int) := by omega
      obtain ⟨k0, hk0, hd0, hv0⟩ := HP1.out i hlt
      have HD0 := Lib.hid hd0
      have HV0 := Lib.hid hv0
      obtain ⟨b1, o1, e1, hp1⟩ := HC16.out (by omega)
      obtain ⟨b2, o2, e2, hp2⟩ := HC26.out (by omega)
      subst e1
      subst e2
      have HPp1 := Lib.hid hp1
      have HPp2 := Lib.hid hp2
      have q1 := hp1.lt (by omega)
      have q2 := hp2.lt (by omega)
      have I : ∃ (k : Nat) (bb : Bool), k ≤ m ∧ (Value.bool false) = .bool bb ∧ (Value.int .i64 0) = .int .i64 k ∧ Hid (k0 < k → bb = true) ∧ Hid (Below w6.heap.size w6 wr) := ⟨0, false, Nat.zero_le _, rfl, rfl, Lib.hid (fun h => absurd h (by omega)), HB⟩
      clear hd0 hv0 hp1 hp2 HB
      go_wp2
      obtain ⟨wo, rfl⟩ : ∃ x : World, x = wr := ⟨_, rfl⟩
      go_loopw [12, 13] (fun fv kv wr => ∃ (k : Nat) (bb : Bool), k ≤ m ∧ fv = .bool bb ∧ kv = .int .i64 k ∧ Hid (k0 < k → bb = true) ∧ Hid (Below w6.heap.size w6 wr)) (fun _ kv _ => m - (intOf kv).toNat)
      case atStart => exact I
      case round =>
        clear I
        obtain ⟨k, bb, hk, rfl, rfl, HF, HB⟩ := hrel
        by_cases hltk : k < m
        · have k0' : (0 : Int) ≤ (k : Int) := Int.natCast_nonneg _
          have k1 : (k : Int) < (m : Int) := by omega
          cases bb with
          | true =>
            go_upto_region 15 with fail
            go_quiet (fail)
            go_wp2
            exact ⟨⟨k + 1, true, by omega, rfl, by go_num, Lib.hid (fun _ => rfl), Lib.hid (below_step HB.out (below_drewN (Below.refl _ wr) _))⟩, by simp [intOf]; omega⟩
          | false =>
            have HPQ : Hid (∀ W, Below wr.heap.size wr W → W.cell? ⟨b1, o1 + i * 3, none⟩ = some (.int .i64 (X i)) ∧ W.cell? ⟨b1, o1 + i * 3 + 1, none⟩ = some (.int .i64 (Y i)) ∧ W.cell? ⟨b1, o1 + i * 3 + 2, none⟩ = some (.int .i64 (V i)) ∧ W.cell? ⟨b2, o2 + k * 3, none⟩ = some (.int .i64 (X' k)) ∧ W.cell? ⟨b2, o2 + k * 3 + 1, none⟩ = some (.int .i64 (Y' k)) ∧ W.cell? ⟨b2, o2 + k * 3 + 2, none⟩ = some (.int .i64 (V' k))) := Lib.hid (fun W hW => by
              obtain ⟨a1, a2, a3⟩ := (HPp1.out.below (below_step HB.out hW) q1) i hlt
              obtain ⟨a4, a5, a6⟩ := (HPp2.out.below (below_step HB.out hW) q2) k hltk
              exact ⟨a1, a2, a3, a4, a5, a6⟩)
            obtain ⟨p0, p1, p2, p3, p4, p5⟩ := HPQ.out wr (Below.refl _ _)
            obtain ⟨d, hd⟩ : ∃ d, d = distF (X i, Y i) (X' k, Y' k) := ⟨_, rfl⟩
            have HDist := Lib.hid (fun W => rdist_any (X i) (Y i) (X' k) (Y' k) d W (Lib.hid hd.symm))
            have HDd := Lib.hid hd
            clear hd
            go_upto_region 15 with fail
            have f0 : ∀ n os, (grd wr n os).cell? ⟨b1, o1 + i * 3, none⟩ = some (.int .i64 (X i)) := cell_grd p0
            have f1 : ∀ n os, (grd wr n os).cell? ⟨b1, o1 + i * 3 + 1, none⟩ = some (.int .i64 (Y i)) := cell_grd p1
            have f2 : ∀ n os, (grd wr n os).cell? ⟨b1, o1 + i * 3 + 2, none⟩ = some (.int .i64 (V i)) := cell_grd p2
            have f3 : ∀ n os, (grd wr n os).cell? ⟨b2, o2 + k * 3, none⟩ = some (.int .i64 (X' k)) := cell_grd p3
            have f4 : ∀ n os, (grd wr n os).cell? ⟨b2, o2 + k * 3 + 1, none⟩ = some (.int .i64 (Y' k)) := cell_grd p4
            have f5 : ∀ n os, (grd wr n os).cell? ⟨b2, o2 + k * 3 + 2, none⟩ = some (.int .i64 (V' k)) := cell_grd p5
            have wbb : IntKind.i64.wrap (b * b) = b * b := wrap_in _ (by omega) (by omega)
            by_cases hdb : d ≤ b * b
            · by_cases hvv : V i ≤ V' k
              · clear p0 p1 p2 p3 p4 p5 HPQ
                refine wp_region_quiet_grd (by kernel_rfl) (by kernel_rfl) ?_
                repeat (go_big_quiet_step (first
                  | (go_at_call 57; exact Calls.grd_of (lspot_any _ _ _ _))
                  | (go_at_call 56; exact Calls.grd_of (HDist.out _))))
                refine wpQuiet_nil ?_
                intro _ hw'
                obtain ⟨⟨nq, osq⟩, rfl⟩ := hw'
                have HBq := Lib.hid (below_grd wr nq osq)
                generalize grd wr nq osq = wq at *
                go_wp2
                exact ⟨⟨k + 1, true, by omega, rfl, by go_num, Lib.hid (by exact fun _ => rfl), Lib.hid (below_step HB.out HBq.out)⟩, by simp [intOf]; omega⟩
              · have HNo : Hid (¬ k0 < k + 1) := Lib.hid (fun h => by
                  have h1 : ¬ k0 < k := fun h2 => by have := HF.out h2; cases this
                  obtain rfl : k0 = k := by omega
                  exact hvv HV0.out)
                have hvd : decide (V i ≤ V' k) = false := decide_eq_false hvv
                clear p0 p1 p2 p3 p4 p5 HPQ
                refine wp_region_quiet_grd (by kernel_rfl) (by kernel_rfl) ?_
                repeat (go_big_quiet_step (first
                  | (go_at_call 57; exact Calls.grd_of (lspot_any _ _ _ _))
                  | (go_at_call 56; exact Calls.grd_of (HDist.out _))))
                refine wpQuiet_nil ?_
                intro _ hw'
                obtain ⟨⟨nq, osq⟩, rfl⟩ := hw'
                have HBq := Lib.hid (below_grd wr nq osq)
                generalize grd wr nq osq = wq at *
                go_wp2
                exact ⟨⟨k + 1, false, by omega, rfl, by go_num, Lib.hid (by exact fun h => absurd h HNo.out), Lib.hid (below_step HB.out HBq.out)⟩, by simp [intOf]; omega⟩
            · have HNo : Hid (¬ k0 < k + 1) := Lib.hid (fun h => by
                have h1 : ¬ k0 < k := fun h2 => by have := HF.out h2; cases this
                obtain rfl : k0 = k := by omega
                exact hdb (by rw [HDd.out]; exact HD0.out))
              have hdd : decide (d ≤ b * b) = false := decide_eq_false hdb
              clear p0 p1 p2 p3 p4 p5 HPQ
              refine wp_region_quiet_grd (by kernel_rfl) (by kernel_rfl) ?_
              repeat (go_big_quiet_step (first
                | (go_at_call 57; exact Calls.grd_of (lspot_any _ _ _ _))
                | (go_at_call 56; exact Calls.grd_of (HDist.out _))))
              refine wpQuiet_nil ?_
              intro _ hw'
              obtain ⟨⟨nq, osq⟩, rfl⟩ := hw'
              have HBq := Lib.hid (below_grd wr nq osq)
              generalize grd wr nq osq = wq at *
              go_wp2
              exact ⟨⟨k + 1, false, by omega, rfl, by go_num, Lib.hid (by exact fun h => absurd h HNo.out), Lib.hid (below_step HB.out HBq.out)⟩, by simp [intOf]; omega⟩
        · obtain rfl : k = m := by omega
          have k1 : ¬ (k : Int) < (k : Int) := by omega
          have hb := HF.out (by omega)
          subst hb
          go_wp2
          go_roundw
          case rel => exact ⟨i + 1, by omega, by go_num, HB⟩
          case measure => simp [intOf]; omega
    · obtain rfl : i = n := by omega
      have i1 : ¬ (i : Int) < (i : Int) := by omega
      have I : ∃ k : Nat, k ≤ m ∧ (Value.int .i64 0) = .int .i64 k ∧ Hid (Below w6.heap.size w6 wr) := ⟨0, Nat.zero_le _, rfl, HB⟩
      obtain ⟨n, rfl⟩ : ∃ z, z = i := ⟨_, rfl⟩
      clear HB i1 hi
      go_wp2
      obtain ⟨wo, rfl⟩ : ∃ x : World, x = wr := ⟨_, rfl⟩
      go_loopw [14] (fun iv wr => ∃ k : Nat, k ≤ m ∧ iv = .int .i64 k ∧ Hid (Below w6.heap.size w6 wr)) (fun iv _ => m - (intOf iv).toNat)
      case atStart => exact I
      case round =>
        clear I
        obtain ⟨k, hk, rfl, HB⟩ := hrel
        by_cases hltk : k < m
        · have k0 : (0 : Int) ≤ (k : Int) := Int.natCast_nonneg _
          have k1 : (k : Int) < (m : Int) := by omega
          obtain ⟨j0, hj0, hx0, hy0⟩ := HP2.out k hltk
          have HX0 := Lib.hid (And.intro hx0 hy0)
          obtain ⟨b1, o1, e1, hp1⟩ := HC16.out (by omega)
          obtain ⟨b2, o2, e2, hp2⟩ := HC26.out (by omega)
          subst e1
          subst e2
          have HPp1 := Lib.hid hp1
          have HPp2 := Lib.hid hp2
          have q1 := hp1.lt (by omega)
          have q2 := hp2.lt (by omega)
          have I : ∃ (i : Nat) (bb : Bool), i ≤ n ∧ (Value.bool false) = .bool bb ∧ (Value.int .i64 0) = .int .i64 i ∧ Hid (j0 < i → bb = true) ∧ Hid (Below w6.heap.size w6 wr) := ⟨0, false, Nat.zero_le _, rfl, rfl, Lib.hid (fun h => absurd h (by omega)), HB⟩
          clear hx0 hy0 hp1 hp2 HB
          go_wp2
          obtain ⟨wo2, rfl⟩ : ∃ x : World, x = wr := ⟨_, rfl⟩
          go_loopw [15, 16] (fun fv kv wr => ∃ (i : Nat) (bb : Bool), i ≤ n ∧ fv = .bool bb ∧ kv = .int .i64 i ∧ Hid (j0 < i → bb = true) ∧ Hid (Below w6.heap.size w6 wr)) (fun _ kv _ => n - (intOf kv).toNat)
          case atStart => exact I
          case round =>
            clear I
            obtain ⟨i, bb, hi, rfl, rfl, HF, HB⟩ := hrel
            by_cases hlt : i < n
            · have i0 : (0 : Int) ≤ (i : Int) := Int.natCast_nonneg _
              have i1 : (i : Int) < (n : Int) := by omega
              cases bb with
              | true =>
                go_upto_region 25 with fail
                go_quiet (fail)
                go_wp2
                exact ⟨⟨i + 1, true, by omega, rfl, by go_num, Lib.hid (fun _ => rfl), Lib.hid (below_step HB.out (below_drewN (Below.refl _ wr) _))⟩, by simp [intOf]; omega⟩
              | false =>
              obtain ⟨p0, p1, p2⟩ := (HPp1.out.below HB.out q1) i hlt
              obtain ⟨p3, p4, p5⟩ := (HPp2.out.below HB.out q2) k hltk
              have HNo : Hid (¬ (X i = X' k ∧ Y i = Y' k) → ¬ j0 < i + 1) := Lib.hid (fun hne h => by
                have h1 : ¬ j0 < i := fun h2 => by have := HF.out h2; cases this
                obtain rfl : j0 = i := by omega
                exact hne HX0.out)
              go_upto_region 25 with fail
              have f0 : ∀ n os, (grd wr n os).cell? ⟨b1, o1 + i * 3, none⟩ = some (.int .i64 (X i)) := cell_grd p0
              have f1 : ∀ n os, (grd wr n os).cell? ⟨b1, o1 + i * 3 + 1, none⟩ = some (.int .i64 (Y i)) := cell_grd p1
              have f2 : ∀ n os, (grd wr n os).cell? ⟨b1, o1 + i * 3 + 2, none⟩ = some (.int .i64 (V i)) := cell_grd p2
              have f3 : ∀ n os, (grd wr n os).cell? ⟨b2, o2 + k * 3, none⟩ = some (.int .i64 (X' k)) := cell_grd p3
              have f4 : ∀ n os, (grd wr n os).cell? ⟨b2, o2 + k * 3 + 1, none⟩ = some (.int .i64 (Y' k)) := cell_grd p4
              have f5 : ∀ n os, (grd wr n os).cell? ⟨b2, o2 + k * 3 + 2, none⟩ = some (.int .i64 (V' k)) := cell_grd p5
              clear p0 p1 p2 p3 p4 p5
              generalize X i = xi at *
              generalize Y i = yi at *
              generalize V i = vi at *
              generalize X' k = xk at *
              generalize Y' k = yk at *
              generalize V' k = vk at *
              rcases Classical.em (xi = xk) with e1 | e1
              · rcases Classical.em (yi = yk) with e2 | e2
                · subst e1
                  subst e2
                  refine wp_region_quiet_grd (by kernel_rfl) (by kernel_rfl) ?_
                  repeat (go_big_quiet_step ((go_at_call 57; exact Calls.grd_of (lspot_any _ _ _ _))))
                  refine wpQuiet_nil ?_
                  intro _ hw'
                  obtain ⟨⟨nq, osq⟩, rfl⟩ := hw'
                  have HBq := Lib.hid (below_grd wr nq osq)
                  generalize grd wr nq osq = wq at *
                  go_wp2
                  exact ⟨⟨i + 1, true, by omega, rfl, by go_num, Lib.hid (by exact fun _ => rfl), Lib.hid (below_step HB.out HBq.out)⟩, by simp [intOf]; omega⟩
                · have HN2 := Lib.hid (HNo.out (fun h => e2 h.2))
                  subst e1
                  have e3 : (yi == yk) = false := by simp [e2]
                  refine wp_region_quiet_grd (by kernel_rfl) (by kernel_rfl) ?_
                  repeat (go_big_quiet_step ((go_at_call 57; exact Calls.grd_of (lspot_any _ _ _ _))))
                  refine wpQuiet_nil ?_
                  intro _ hw'
                  obtain ⟨⟨nq, osq⟩, rfl⟩ := hw'
                  have HBq := Lib.hid (below_grd wr nq osq)
                  generalize grd wr nq osq = wq at *
                  go_wp2
                  exact ⟨⟨i + 1, false, by omega, rfl, by go_num, Lib.hid (by exact fun h => absurd h HN2.out), Lib.hid (below_step HB.out HBq.out)⟩, by simp [intOf]; omega⟩
              · have HN2 := Lib.hid (HNo.out (fun h => e1 h.1))
                have e3 : (xi == xk) = false := by simp [e1]
                refine wp_region_quiet_grd (by kernel_rfl) (by kernel_rfl) ?_
                repeat (go_big_quiet_step ((go_at_call 57; exact Calls.grd_of (lspot_any _ _ _ _))))
                refine wpQuiet_nil ?_
                intro _ hw'
                obtain ⟨⟨nq, osq⟩, rfl⟩ := hw'
                have HBq := Lib.hid (below_grd wr nq osq)
                generalize grd wr nq osq = wq at *
                go_wp2
                exact ⟨⟨i + 1, false, by omega, rfl, by go_num, Lib.hid (by exact fun h => absurd h HN2.out), Lib.hid (below_step HB.out HBq.out)⟩, by simp [intOf]; omega⟩
            · obtain rfl : i = n := by omega
              have i1 : ¬ (i : Int) < (i : Int) := by omega
              have hb := HF.out (by omega)
              subst hb
              go_wp2
              go_roundw
              case rel => exact ⟨k + 1, by omega, by go_num, HB⟩
              case measure => simp [intOf]; omega
        · obtain rfl : k = m := by omega
          have k1 : ¬ (k : Int) < (k : Int) := by omega
          go_wp2_with (go_at_call 16; (with_reducible refine (awake_any _).mono ?_); rintro e w9 ⟨rfl, hb9⟩)
          go_ret
          exact ⟨rfl, below_step (below_step HBw.out HB.out) hb9⟩
end Go.Proofs.Ytaehfildhmljeaa
