/- The reference's small functions on spots. -/
import Derived.Test.YtaehfildhmljeaaSid2
import Derived.Test.YtaehfildhmljeaaCross
namespace Go.Proofs.Ytaehfildhmljeaa
open Go.RowKit Go.Shelf

set_option maxHeartbeats 400000 in
theorem rminus_any (a b c d : Int) (w : World) (ha : okc a) (hb : okc b) (hc : okc c) (hd : okc d) :
    Calls Try.prog 98 #[sp a b, sp c d] w fun e w' => e = .returned (sp (a - c) (b - d)) ∧ Below w.heap.size w w' := by
  obtain ⟨ha1, ha2⟩ := ha; obtain ⟨hb1, hb2⟩ := hb; obtain ⟨hc1, hc2⟩ := hc; obtain ⟨hd1, hd2⟩ := hd
  go_enter Try.func98, Try.ntmps98
  go_wp2
  exact bodyPost_ret (v := sp (a - c) (b - d)) (by simp [results, Try.results98, go_sem]) rfl ⟨rfl, by
    repeat (first | exact Below.refl _ _ | refine Below.setCell ?_ (by first | omega | (simp; omega) | simp) _ | refine Below.alloc ?_ (by first | omega | (simp; omega) | simp) _)⟩

set_option maxHeartbeats 400000 in
theorem rdot_any (a b c d : Int) (w : World) (ha : okd a) (hb : okd b) (hc : okd c) (hd : okd d) :
    Calls Try.prog 101 #[sp a b, sp c d] w fun e w' => e = .returned (.int .i64 (a * c + b * d)) ∧ Below w.heap.size w w' := by
  obtain ⟨h1, h2⟩ := okd_mul ha hc
  obtain ⟨h3, h4⟩ := okd_mul hb hd
  clear ha hb hc hd
  go_enter Try.func101, Try.ntmps101
  go_wp2
  go_ret
  exact ⟨rfl, by
    repeat (first | exact Below.refl _ _ | refine Below.setCell ?_ (by first | omega | (simp; omega) | simp) _ | refine Below.alloc ?_ (by first | omega | (simp; omega) | simp) _)⟩

set_option maxHeartbeats 400000 in
theorem rcross_any (a b c d : Int) (w : World) (ha : okd a) (hb : okd b) (hc : okd c) (hd : okd d) :
    Calls Try.prog 90 #[sp a b, sp c d] w fun e w' => e = .returned (.int .i64 (a * d - b * c)) ∧ Below w.heap.size w w' := by
  obtain ⟨h1, h2⟩ := okd_mul ha hd
  obtain ⟨h3, h4⟩ := okd_mul hb hc
  clear ha hb hc hd
  go_enter Try.func90, Try.ntmps90
  go_wp2
  go_ret
  exact ⟨rfl, by
    repeat (first | exact Below.refl _ _ | refine Below.setCell ?_ (by first | omega | (simp; omega) | simp) _ | refine Below.alloc ?_ (by first | omega | (simp; omega) | simp) _)⟩

theorem rdot_n (a b c d n : Int) (w : World) (ha : okd a) (hb : okd b) (hc : okd c) (hd : okd d) (hn : a * c + b * d = n) :
    Calls Try.prog 101 #[sp a b, sp c d] w fun e w' => e = .returned (.int .i64 n) ∧ Below w.heap.size w w' := by
  subst hn; exact rdot_any a b c d w ha hb hc hd
theorem rcross_n (a b c d n : Int) (w : World) (ha : okd a) (hb : okd b) (hc : okd c) (hd : okd d) (hn : a * d - b * c = n) :
    Calls Try.prog 90 #[sp a b, sp c d] w fun e w' => e = .returned (.int .i64 n) ∧ Below w.heap.size w w' := by
  subst hn; exact rcross_any a b c d w ha hb hc hd

set_option maxHeartbeats 1000000 in
theorem rvalid_any (x y : Int) (r : Bool) (w : World) (hr : Hid (vp (x, y) = r)) :
    Calls Try.prog 62 #[sp x y] w fun e w' => e = .returned (.bool r) ∧ Below w.heap.size w w' := by
  by_cases x1 : x < -16777216
  · have hz : Hid (r = false) := by show r = false; rw [← hr.out]; unfold vp vldB okcB; simp only; rw [decide_eq_false (show ¬ -16777216 ≤ x by omega)]; simp
    go_enter Try.func62, Try.ntmps62
    go_wp2
    go_ret
    exact ⟨congrArg (fun z => Ending.returned (.bool z)) hz.out.symm, (Below.refl _ _).alloc (Nat.le_refl _) _⟩
  by_cases x2 : 16777216 < x
  · have hz : Hid (r = false) := by show r = false; rw [← hr.out]; unfold vp vldB okcB; simp only; rw [decide_eq_false (show ¬ x ≤ 16777216 by omega)]; simp
    go_enter Try.func62, Try.ntmps62
    go_wp2
    go_ret
    exact ⟨congrArg (fun z => Ending.returned (.bool z)) hz.out.symm, (Below.refl _ _).alloc (Nat.le_refl _) _⟩
  by_cases y1 : y < -16777216
  · have hz : Hid (r = false) := by show r = false; rw [← hr.out]; unfold vp vldB okcB; simp only; rw [decide_eq_false (show ¬ -16777216 ≤ y by omega)]; simp
    go_enter Try.func62, Try.ntmps62
    go_wp2
    go_ret
    exact ⟨congrArg (fun z => Ending.returned (.bool z)) hz.out.symm, (Below.refl _ _).alloc (Nat.le_refl _) _⟩
  by_cases y2 : 16777216 < y
  · have hz : Hid (r = false) := by show r = false; rw [← hr.out]; unfold vp vldB okcB; simp only; rw [decide_eq_false (show ¬ y ≤ 16777216 by omega)]; simp
    have yd : decide (y ≤ 16777216) = false := decide_eq_false (by omega)
    go_enter Try.func62, Try.ntmps62
    go_wp2
    go_ret
    exact ⟨congrArg (fun z => Ending.returned (.bool z)) hz.out.symm, (Below.refl _ _).alloc (Nat.le_refl _) _⟩
  · have hz : Hid (r = true) := by show r = true; rw [← hr.out, vp_iff]; exact ⟨⟨by omega, by omega⟩, by omega, by omega⟩
    have yd : decide (y ≤ 16777216) = true := decide_eq_true (by omega)
    go_enter Try.func62, Try.ntmps62
    go_wp2
    go_ret
    exact ⟨congrArg (fun z => Ending.returned (.bool z)) hz.out.symm, (Below.refl _ _).alloc (Nat.le_refl _) _⟩

set_option maxRecDepth 100000 in
set_option maxHeartbeats 2000000 in
theorem rdist_any (a1 a2 b1 b2 n : Int) (w : World) (hn : Hid (distF (a1, a2) (b1, b2) = n)) :
    Calls Try.prog 56 #[sp a1 a2, sp b1 b2] w fun e w' => e = .returned (.int .i64 n) ∧ Below w.heap.size w w' := by
  have ha := (BoxAt.new w 24 #[.int .i64 a1, .int .i64 a2]).alloc (.cells #[.int .i64 b1, .int .i64 b2] 24)
  have hb := BoxAt.new (w.alloc (.cells #[.int .i64 a1, .int .i64 a2] 24)) 24 #[.int .i64 b1, .int .i64 b2]
  have hB : Below w.heap.size w ((w.alloc (.cells #[.int .i64 a1, .int .i64 a2] 24)).alloc (.cells #[.int .i64 b1, .int .i64 b2] 24)) := ((Below.refl _ w).alloc (Nat.le_refl _) _).alloc (by simp) _
  simp only [World.size_alloc] at hb
  cases hva : vp (a1, a2) with
  | false =>
    have hz : Hid (n = 0) := by show n = 0; rw [← hn.out]; unfold distF; rw [hva]; rfl
    have VA : Hid (vp (a1, a2) = false) := hva
    clear hva
    go_enter Try.func56, Try.ntmps56
    go_wp2_with (go_at_call 62; (with_reducible refine (rvalid_any a1 a2 _ _ VA).mono ?_); rintro e w1 ⟨rfl, hb1⟩; replace hB := below_step hB hb1)
    go_ret
    exact ⟨congrArg (fun z => Ending.returned (.int .i64 z)) hz.out.symm, hB⟩
  | true =>
    have VA : Hid (vp (a1, a2) = true) := hva
    cases hvb : vp (b1, b2) with
    | false =>
      have hz : Hid (n = 0) := by show n = 0; rw [← hn.out]; unfold distF; rw [hva, hvb]; rfl
      have VB : Hid (vp (b1, b2) = false) := hvb
      clear hva hvb
      go_enter Try.func56, Try.ntmps56
      go_wp2_with (first
        | (go_at_call 62; (with_reducible refine (rvalid_any a1 a2 _ _ VA).mono ?_); rintro e w1 ⟨rfl, hb1⟩; obtain ⟨qa, k0, k1, k2, k3⟩ := box2 ha hb1; obtain ⟨qb, k4, k5, k6, k7⟩ := box2 hb hb1; replace hB := below_step hB hb1)
        | (go_at_call 62; (with_reducible refine (rvalid_any b1 b2 _ _ VB).mono ?_); rintro e w1 ⟨rfl, hb2⟩; replace hB := below_step hB hb2))
      go_ret
      exact ⟨congrArg (fun z => Ending.returned (.int .i64 z)) hz.out.symm, hB⟩
    | true =>
      have VB : Hid (vp (b1, b2) = true) := hvb
      have hz : Hid ((b1 - a1) * (b1 - a1) + (b2 - a2) * (b2 - a2) = n) := by show _ = n; rw [← hn.out]; unfold distF; rw [hva, hvb]; rfl
      obtain ⟨oa1, oa2⟩ := (vp_iff _).1 hva
      obtain ⟨ob1, ob2⟩ := (vp_iff _).1 hvb
      simp only at oa1 oa2 ob1 ob2
      clear hva hvb
      go_enter Try.func56, Try.ntmps56
      go_wp2_with (first
        | (go_at_call 62; (with_reducible refine (rvalid_any a1 a2 _ _ VA).mono ?_); rintro e w1 ⟨rfl, hb1⟩; obtain ⟨qa, k0, k1, k2, k3⟩ := box2 ha hb1; obtain ⟨qb, k4, k5, k6, k7⟩ := box2 hb hb1; replace hB := below_step hB hb1)
        | (go_at_call 62; (with_reducible refine (rvalid_any b1 b2 _ _ VB).mono ?_); rintro e w1 ⟨rfl, hb2⟩; obtain ⟨pa, k0, k1, k2, k3⟩ := box2 qa.out hb2; obtain ⟨pb, k4, k5, k6, k7⟩ := box2 qb.out hb2; replace hB := below_step hB hb2)
        | (go_at_call 98; (refine (rminus_any _ _ _ _ _ ob1 ob2 oa1 oa2).mono ?_); rintro e w2 ⟨rfl, hb3⟩; replace hB := below_step hB hb3)
        | (go_at_call 101; (refine (rdot_n _ _ _ _ n _ (okd_sub ob1 oa1) (okd_sub ob2 oa2) (okd_sub ob1 oa1) (okd_sub ob2 oa2) hz.out).mono ?_); rintro e w3 ⟨rfl, hb4⟩; replace hB := below_step2 hB hb4))
      go_ret
      exact ⟨rfl, hB⟩

set_option maxRecDepth 100000 in
set_option maxHeartbeats 4000000 in
theorem rside_any (a1 a2 b1 b2 c1 c2 n : Int) (w : World) (hn : Hid (sideF (a1, a2) (b1, b2) (c1, c2) = n)) :
    Calls Try.prog 86 #[sp a1 a2, sp b1 b2, sp c1 c2] w fun e w' => e = .returned (.int .i64 n) ∧ Below w.heap.size w w' := by
  have ha := ((BoxAt.new w 24 #[.int .i64 a1, .int .i64 a2]).alloc (.cells #[.int .i64 b1, .int .i64 b2] 24)).alloc (.cells #[.int .i64 c1, .int .i64 c2] 24)
  have hb := (BoxAt.new (w.alloc (.cells #[.int .i64 a1, .int .i64 a2] 24)) 24 #[.int .i64 b1, .int .i64 b2]).alloc (.cells #[.int .i64 c1, .int .i64 c2] 24)
  have hc := BoxAt.new ((w.alloc (.cells #[.int .i64 a1, .int .i64 a2] 24)).alloc (.cells #[.int .i64 b1, .int .i64 b2] 24)) 24 #[.int .i64 c1, .int .i64 c2]
  have hB : Below w.heap.size w (((w.alloc (.cells #[.int .i64 a1, .int .i64 a2] 24)).alloc (.cells #[.int .i64 b1, .int .i64 b2] 24)).alloc (.cells #[.int .i64 c1, .int .i64 c2] 24)) := (((Below.refl _ w).alloc (Nat.le_refl _) _).alloc (by simp) _).alloc (by simp; omega) _
  simp only [World.size_alloc] at hb hc
  obtain ⟨va, hva⟩ : ∃ v, v = vp (a1, a2) := ⟨_, rfl⟩
  obtain ⟨vb, hvb⟩ : ∃ v, v = vp (b1, b2) := ⟨_, rfl⟩
  obtain ⟨vc, hvc⟩ : ∃ v, v = vp (c1, c2) := ⟨_, rfl⟩
  have VA : Hid (vp (a1, a2) = va) := hva.symm
  have VB : Hid (vp (b1, b2) = vb) := hvb.symm
  have VC : Hid (vp (c1, c2) = vc) := hvc.symm
  cases hall : (va && vb && vc) with
  | false =>
    have hz : Hid (n = 0) := by show n = 0; rw [← hn.out]; unfold sideF; rw [← hva, ← hvb, ← hvc, hall]; rfl
    clear hva hvb hvc
    cases va
    · clear hall
      go_enter Try.func86, Try.ntmps86
      go_wp2_with (go_at_call 62; (with_reducible refine (rvalid_any a1 a2 _ _ VA).mono ?_); rintro e w1 ⟨rfl, hb1⟩; replace hB := below_step hB hb1)
      go_ret
      exact ⟨congrArg (fun z => Ending.returned (.int .i64 z)) hz.out.symm, hB⟩
    · cases vb
      · clear hall
        go_enter Try.func86, Try.ntmps86
        go_wp2_with (first
          | (go_at_call 62; (with_reducible refine (rvalid_any a1 a2 _ _ VA).mono ?_); rintro e w1 ⟨rfl, hb1⟩; obtain ⟨qb, k4, k5, k6, k7⟩ := box2 hb hb1; replace hB := below_step hB hb1)
          | (go_at_call 62; (with_reducible refine (rvalid_any b1 b2 _ _ VB).mono ?_); rintro e w1 ⟨rfl, hb2⟩; replace hB := below_step hB hb2))
        go_ret
        exact ⟨congrArg (fun z => Ending.returned (.int .i64 z)) hz.out.symm, hB⟩
      · have hvc2 : Hid (vc = false) := by show vc = false; simpa using hall
        obtain rfl := hvc2.out
        clear hall
        go_enter Try.func86, Try.ntmps86
        go_wp2_with (first
          | (go_at_call 62; (with_reducible refine (rvalid_any a1 a2 _ _ VA).mono ?_); rintro e w1 ⟨rfl, hb1⟩; obtain ⟨qb, k4, k5, k6, k7⟩ := box2 hb hb1; obtain ⟨qc, k8, k9, kA, kB⟩ := box2 hc hb1; replace hB := below_step hB hb1)
          | (go_at_call 62; (with_reducible refine (rvalid_any b1 b2 _ _ VB).mono ?_); rintro e w1 ⟨rfl, hb2⟩; obtain ⟨pc, k8, k9, kA, kB⟩ := box2 qc.out hb2; replace hB := below_step hB hb2)
          | (go_at_call 62; (with_reducible refine (rvalid_any c1 c2 _ _ VC).mono ?_); rintro e w1 ⟨rfl, hb3⟩; replace hB := below_step hB hb3))
        go_ret
        exact ⟨congrArg (fun z => Ending.returned (.int .i64 z)) hz.out.symm, hB⟩
  | true =>
    obtain ⟨m, hm⟩ : ∃ m, m = crs (a1, a2) (b1, b2) (c1, c2) := ⟨_, rfl⟩
    have hz : Hid ((b1 - a1) * (c2 - a2) - (b2 - a2) * (c1 - a1) = m) := hm.symm
    have hs : Hid (sgn m = n) := by show sgn m = n; rw [← hn.out]; unfold sideF; rw [← hva, ← hvb, ← hvc, hall, hm]; rfl
    rw [Bool.and_eq_true, Bool.and_eq_true] at hall
    obtain ⟨⟨rfl, rfl⟩, rfl⟩ := hall
    obtain ⟨oa1, oa2⟩ := (vp_iff _).1 hva.symm
    obtain ⟨ob1, ob2⟩ := (vp_iff _).1 hvb.symm
    obtain ⟨oc1, oc2⟩ := (vp_iff _).1 hvc.symm
    simp only at oa1 oa2 ob1 ob2 oc1 oc2
    clear hm hva hvb hvc
    go_enter Try.func86, Try.ntmps86
    go_wp2_with (first
      | (go_at_call 62; (with_reducible refine (rvalid_any a1 a2 _ _ VA).mono ?_); rintro e w1 ⟨rfl, hb1⟩; obtain ⟨qa, k0, k1, k2, k3⟩ := box2 ha hb1; obtain ⟨qb, k4, k5, k6, k7⟩ := box2 hb hb1; obtain ⟨qc, k8, k9, kA, kB⟩ := box2 hc hb1; replace hB := below_step hB hb1)
      | (go_at_call 62; (with_reducible refine (rvalid_any b1 b2 _ _ VB).mono ?_); rintro e w2 ⟨rfl, hb2⟩; obtain ⟨pa, k0, k1, k2, k3⟩ := box2 qa.out hb2; obtain ⟨pb, k4, k5, k6, k7⟩ := box2 qb.out hb2; obtain ⟨pc, k8, k9, kA, kB⟩ := box2 qc.out hb2; replace hB := below_step hB hb2)
      | (go_at_call 62; (with_reducible refine (rvalid_any c1 c2 _ _ VC).mono ?_); rintro e w9 ⟨rfl, hb3⟩; obtain ⟨oa, k0, k1, k2, k3⟩ := box2 pa.out hb3; obtain ⟨ob, k4, k5, k6, k7⟩ := box2 pb.out hb3; obtain ⟨oc, k8, k9, kA, kB⟩ := box2 pc.out hb3; replace hB := below_step hB hb3))
    have la := BoxAt.lt oa.out
    have lb := BoxAt.lt ob.out
    have lc := BoxAt.lt oc.out
    have HB := Lib.hid hB
    go_cut [7] from 21 to 27 (fun v w' => v = .int .i64 m ∧ Below w9.heap.size w9 w')
    case first =>
      clear ha hb hc hB qa qb qc pa pb pc oa ob oc
      have hBx : Below w9.heap.size w9 w9.drew := (Below.refl _ _).drew
      go_region_held3 (fun w' => w'.cell? ⟨w.heap.size, 0, none⟩ = some (.int .i64 a1) ∧ w'.cell? ⟨w.heap.size, 1, none⟩ = some (.int .i64 a2) ∧ w'.cell? ⟨w.heap.size + 1, 0, none⟩ = some (.int .i64 b1) ∧ w'.cell? ⟨w.heap.size + 1, 1, none⟩ = some (.int .i64 b2) ∧ w'.cell? ⟨w.heap.size + 1 + 1, 0, none⟩ = some (.int .i64 c1) ∧ w'.cell? ⟨w.heap.size + 1 + 1, 1, none⟩ = some (.int .i64 c2))
        (refine ⟨?_, ?_, ?_, ?_, ?_, ?_⟩ <;> exact (Below.cell hBx (by assumption)).trans (by assumption))
        (first
          | (go_at_call 98; (with_reducible refine (rminus_any b1 b2 a1 a2 _ ob1 ob2 oa1 oa2).mono ?_); rintro e w2 ⟨rfl, hb2⟩; replace hBx := below_step hBx hb2)
          | (go_at_call 98; (with_reducible refine (rminus_any c1 c2 a1 a2 _ oc1 oc2 oa1 oa2).mono ?_); rintro e w3 ⟨rfl, hb3⟩; replace hBx := below_step hBx hb3)
          | (go_at_call 90; (with_reducible refine (rcross_n _ _ _ _ m _ (okd_sub ob1 oa1) (okd_sub ob2 oa2) (okd_sub oc1 oa1) (okd_sub oc2 oa2) hz.out).mono ?_); rintro e w4 ⟨rfl, hb4⟩; replace hBx := below_step hBx hb4))
      all_goals go_wp2
      all_goals go_meet
      all_goals exact ⟨rfl, hBx⟩
    case rest =>
      obtain ⟨rfl, hB5⟩ := hcut
      have hBf := below_step HB.out hB5
      clear k0 k1 k2 k3 k4 k5 k6 k7 k8 k9 kA kB
      by_cases h1 : 0 < m
      · have hz2 : Hid (n = 1) := by show n = 1; rw [← hs.out]; unfold sgn; rw [if_pos h1]
        go_wp2
        go_ret
        exact ⟨congrArg (fun z => Ending.returned (.int .i64 z)) hz2.out.symm, hBf⟩
      · by_cases h2 : m < 0
        · have hz2 : Hid (n = -1) := by show n = -1; rw [← hs.out]; unfold sgn; rw [if_neg h1, if_pos h2]
          go_wp2
          go_ret
          exact ⟨congrArg (fun z => Ending.returned (.int .i64 z)) hz2.out.symm, hBf⟩
        · have hz2 : Hid (n = 0) := by show n = 0; rw [← hs.out]; unfold sgn; rw [if_neg h1, if_neg h2]
          go_wp2
          go_ret
          exact ⟨congrArg (fun z => Ending.returned (.int .i64 z)) hz2.out.symm, hBf⟩
end Go.Proofs.Ytaehfildhmljeaa
