/- 'Side', 'Sees'. -/
import Derived.Test.YtaehfildhmljeaaSide
namespace Go.Proofs.Ytaehfildhmljeaa
open Go.RowKit Go.Shelf

theorem cross_n (a b c d n : Int) (w : World) (ha : okd a) (hb : okd b) (hc : okd c) (hd : okd d) (hn : a * d - b * c = n) :
    Calls Try.prog 120 #[sp a b, sp c d] w fun e w' => e = .returned (.int .i64 n) ∧ Below w.heap.size w w' := by
  subst hn; exact cross_any a b c d w ha hb hc hd

set_option maxRecDepth 100000 in
set_option maxHeartbeats 4000000 in
theorem side_any (a b c : Pt) (n : Int) (w : World) (hn : Hid (sideF a b c = n)) :
    Calls Try.prog 92 #[pt a, pt b, pt c] w fun e w' => e = .returned (.int .i64 n) ∧ Below w.heap.size w w' := by
  obtain ⟨a1, a2⟩ := a
  obtain ⟨b1, b2⟩ := b
  obtain ⟨c1, c2⟩ := c
  have hx := BoxAt.new (((w.alloc (.cells #[.int .i64 a1, .int .i64 a2] 24)).alloc (.cells #[.int .i64 b1, .int .i64 b2] 24)).alloc (.cells #[.int .i64 c1, .int .i64 c2] 24)) 24 #[.int .i64 a1, .int .i64 a2, .int .i64 b1, .int .i64 b2, .int .i64 c1, .int .i64 c2]
  have ha := (((BoxAt.new w 24 #[.int .i64 a1, .int .i64 a2]).alloc (.cells #[.int .i64 b1, .int .i64 b2] 24)).alloc (.cells #[.int .i64 c1, .int .i64 c2] 24)).alloc (.cells #[.int .i64 a1, .int .i64 a2, .int .i64 b1, .int .i64 b2, .int .i64 c1, .int .i64 c2] 24)
  have hb := ((BoxAt.new (w.alloc (.cells #[.int .i64 a1, .int .i64 a2] 24)) 24 #[.int .i64 b1, .int .i64 b2]).alloc (.cells #[.int .i64 c1, .int .i64 c2] 24)).alloc (.cells #[.int .i64 a1, .int .i64 a2, .int .i64 b1, .int .i64 b2, .int .i64 c1, .int .i64 c2] 24)
  have hc := (BoxAt.new ((w.alloc (.cells #[.int .i64 a1, .int .i64 a2] 24)).alloc (.cells #[.int .i64 b1, .int .i64 b2] 24)) 24 #[.int .i64 c1, .int .i64 c2]).alloc (.cells #[.int .i64 a1, .int .i64 a2, .int .i64 b1, .int .i64 b2, .int .i64 c1, .int .i64 c2] 24)
  have hB : Below w.heap.size w ((((w.alloc (.cells #[.int .i64 a1, .int .i64 a2] 24)).alloc (.cells #[.int .i64 b1, .int .i64 b2] 24)).alloc (.cells #[.int .i64 c1, .int .i64 c2] 24)).alloc (.cells #[.int .i64 a1, .int .i64 a2, .int .i64 b1, .int .i64 b2, .int .i64 c1, .int .i64 c2] 24)) := ((((Below.refl _ w).alloc (Nat.le_refl _) _).alloc (by simp) _).alloc (by simp; omega) _).alloc (by simp; omega) _
  simp only [World.size_alloc] at hx hb hc
  cases hv : (vp (a1, a2) && vp (b1, b2) && vp (c1, c2)) with
  | false =>
    have hz : Hid (n = 0) := by show n = 0; rw [← hn.out]; unfold sideF; rw [hv]; rfl
    have HV : Hid (false = (vp (a1, a2) && vp (b1, b2) && vp (c1, c2))) := hv.symm
    clear hv
    go_enter Try.func92, Try.ntmps92
    go_wp2_with (go_at_call 108; (refine (valid3 (a1, a2) (b1, b2) (c1, c2) _ _ _ hx false HV).mono ?_); rintro e w1 ⟨rfl, hb1⟩)
    go_ret
    exact ⟨congrArg (fun z => Ending.returned (.int .i64 z)) hz.out.symm, below_step hB hb1⟩
  | true =>
    obtain ⟨m, hm⟩ : ∃ m, m = crs (a1, a2) (b1, b2) (c1, c2) := ⟨_, rfl⟩
    have hz : Hid ((b1 - a1) * (c2 - a2) - (b2 - a2) * (c1 - a1) = m) := hm.symm
    have hs : Hid (sgn m = n) := by show sgn m = n; rw [← hn.out]; unfold sideF; rw [hv, hm]; rfl
    have HV : Hid (true = (vp (a1, a2) && vp (b1, b2) && vp (c1, c2))) := hv.symm
    rw [Bool.and_eq_true, Bool.and_eq_true, vp_iff, vp_iff, vp_iff] at hv
    obtain ⟨⟨⟨oa1, oa2⟩, ob1, ob2⟩, oc1, oc2⟩ := hv
    simp only at oa1 oa2 ob1 ob2 oc1 oc2
    clear hm
    go_enter Try.func92, Try.ntmps92
    go_wp2_with (first
      | (go_at_call 108; (refine (valid3 (a1, a2) (b1, b2) (c1, c2) _ _ _ hx true HV).mono ?_); rintro e w1 ⟨rfl, hb1⟩; obtain ⟨qa, k0, k1, k2, k3⟩ := box2 ha hb1; obtain ⟨qb, k4, k5, k6, k7⟩ := box2 hb hb1; obtain ⟨qc, k8, k9, kA, kB⟩ := box2 hc hb1; have hB1 := below_step hB hb1))
    have la := BoxAt.lt qa.out
    have lb := BoxAt.lt qb.out
    have lc := BoxAt.lt qc.out
    go_cut [7] from 14 to 20 (fun v w' => v = .int .i64 m ∧ Below w1.heap.size w1 w')
    case first =>
      clear hx ha hb hc hB qa qb qc hB1
      go_region_held3 (fun w' => w'.cell? ⟨w.heap.size, 0, none⟩ = some (.int .i64 a1) ∧ w'.cell? ⟨w.heap.size, 1, none⟩ = some (.int .i64 a2) ∧ w'.cell? ⟨w.heap.size + 1, 0, none⟩ = some (.int .i64 b1) ∧ w'.cell? ⟨w.heap.size + 1, 1, none⟩ = some (.int .i64 b2) ∧ w'.cell? ⟨w.heap.size + 1 + 1, 0, none⟩ = some (.int .i64 c1) ∧ w'.cell? ⟨w.heap.size + 1 + 1, 1, none⟩ = some (.int .i64 c2))
        (first
          | (refine ⟨?_, ?_, ?_, ?_, ?_, ?_⟩ <;> exact (Below.cell hB4 (by assumption)).trans (by assumption))
          | (refine ⟨?_, ?_, ?_, ?_, ?_, ?_⟩ <;> exact (Below.cell hB3 (by assumption)).trans (by assumption))
          | (refine ⟨?_, ?_, ?_, ?_, ?_, ?_⟩ <;> exact (Below.cell hB2 (by assumption)).trans (by assumption))
          | go_keep)
        (first
          | (go_at_call 110; (with_reducible refine (minus_any b1 b2 a1 a2 _ ob1 ob2 oa1 oa2).mono ?_); rintro e w2 ⟨rfl, hb2⟩; have hB2 : Below w1.heap.size w1 w2 := below_step ((Below.refl _ w1).drew) hb2)
          | (go_at_call 110; (with_reducible refine (minus_any c1 c2 a1 a2 _ oc1 oc2 oa1 oa2).mono ?_); rintro e w3 ⟨rfl, hb3⟩; have hB3 : Below w1.heap.size w1 w3 := below_step hB2 hb3)
          | (go_at_call 120; (with_reducible refine (cross_n _ _ _ _ m _ (okd_sub ob1 oa1) (okd_sub ob2 oa2) (okd_sub oc1 oa1) (okd_sub oc2 oa2) hz.out).mono ?_); rintro e w4 ⟨rfl, hb4⟩; have hB4 : Below w1.heap.size w1 w4 := below_step hB3 hb4))
      all_goals go_wp2
      all_goals go_meet
      all_goals exact ⟨rfl, hB4⟩
    case rest =>
      obtain ⟨rfl, hB5⟩ := hcut
      have hBf := below_step hB1 hB5
      clear k0 k1 k2 k3 k4 k5 k6 k7 k8 k9 kA kB
      by_cases h1 : 0 < m
      · have hz2 : Hid (n = 1) := by show n = 1; rw [← hs.out]; unfold sgn; rw [if_pos h1]
        go_wp2
        go_ret
        exact ⟨congrArg (fun z => Ending.returned (.int .i64 z)) hz2.out.symm, hBf⟩
      · by_cases h2 : m < 0
        · have hz2 : Hid (n = -1) := by show n = -1; rw [← hs.out]; unfold sgn; rw [if_neg h1, if_pos h2]
          go_wp2
          go_ret
          exact ⟨congrArg (fun z => Ending.returned (.int .i64 z)) hz2.out.symm, hBf⟩
        · have hz2 : Hid (n = 0) := by show n = 0; rw [← hs.out]; unfold sgn; rw [if_neg h1, if_neg h2]
          go_wp2
          go_ret
          exact ⟨congrArg (fun z => Ending.returned (.int .i64 z)) hz2.out.symm, hBf⟩

def seesF (a b : Pt) (v : Int) : Bool := vp a && vp b && decide (0 ≤ v) && decide (v ≤ 33554432) && decide (dsq a b ≤ v * v)

set_option maxRecDepth 100000 in
set_option maxHeartbeats 2000000 in
theorem sees_any (a b : Pt) (v : Int) (r : Bool) (w : World) (hr : Hid (seesF a b v = r)) :
    Calls Try.prog 74 #[pt a, pt b, .int .i64 v] w fun e w' => e = .returned (.bool r) ∧ Below w.heap.size w w' := by
  obtain ⟨a1, a2⟩ := a
  obtain ⟨b1, b2⟩ := b
  have hx := BoxAt.new ((w.alloc (.cells #[.int .i64 a1, .int .i64 a2] 24)).alloc (.cells #[.int .i64 b1, .int .i64 b2] 24)) 24 #[.int .i64 a1, .int .i64 a2, .int .i64 b1, .int .i64 b2]
  have ha := ((BoxAt.new w 24 #[.int .i64 a1, .int .i64 a2]).alloc (.cells #[.int .i64 b1, .int .i64 b2] 24)).alloc (.cells #[.int .i64 a1, .int .i64 a2, .int .i64 b1, .int .i64 b2] 24)
  have hb := (BoxAt.new (w.alloc (.cells #[.int .i64 a1, .int .i64 a2] 24)) 24 #[.int .i64 b1, .int .i64 b2]).alloc (.cells #[.int .i64 a1, .int .i64 a2, .int .i64 b1, .int .i64 b2] 24)
  have hB : Below w.heap.size w (((w.alloc (.cells #[.int .i64 a1, .int .i64 a2] 24)).alloc (.cells #[.int .i64 b1, .int .i64 b2] 24)).alloc (.cells #[.int .i64 a1, .int .i64 a2, .int .i64 b1, .int .i64 b2] 24)) := (((Below.refl _ w).alloc (Nat.le_refl _) _).alloc (by simp) _).alloc (by simp; omega) _
  simp only [World.size_alloc] at hx hb
  cases hv : (vp (a1, a2) && vp (b1, b2)) with
  | false =>
    have hz : Hid (r = false) := by show r = false; rw [← hr.out]; unfold seesF; rw [hv]; rfl
    have HV : Hid (false = (vp (a1, a2) && vp (b1, b2))) := hv.symm
    clear hv
    go_enter Try.func74, Try.ntmps74
    go_wp2_with (go_at_call 108; (refine (valid2 (a1, a2) (b1, b2) _ _ _ hx false HV).mono ?_); rintro e w1 ⟨rfl, hb1⟩)
    go_ret
    exact ⟨congrArg (fun z => Ending.returned (.bool z)) hz.out.symm, below_step hB hb1⟩
  | true =>
    have HV : Hid (true = (vp (a1, a2) && vp (b1, b2))) := hv.symm
    by_cases v0 : v < 0
    · have hz : Hid (r = false) := by show r = false; rw [← hr.out]; unfold seesF; rw [hv, decide_eq_false (show ¬ 0 ≤ v by omega)]; rfl
      clear hv
      go_enter Try.func74, Try.ntmps74
      go_wp2_with (go_at_call 108; (refine (valid2 (a1, a2) (b1, b2) _ _ _ hx true HV).mono ?_); rintro e w1 ⟨rfl, hb1⟩)
      go_ret
      exact ⟨congrArg (fun z => Ending.returned (.bool z)) hz.out.symm, below_step hB hb1⟩
    · by_cases v1 : 33554432 < v
      · have hz : Hid (r = false) := by show r = false; rw [← hr.out]; unfold seesF; rw [hv, decide_eq_false (show ¬ v ≤ 33554432 by omega)]; simp
        clear hv
        go_enter Try.func74, Try.ntmps74
        go_wp2_with (go_at_call 108; (refine (valid2 (a1, a2) (b1, b2) _ _ _ hx true HV).mono ?_); rintro e w1 ⟨rfl, hb1⟩)
        go_ret
        exact ⟨congrArg (fun z => Ending.returned (.bool z)) hz.out.symm, below_step hB hb1⟩
      · obtain ⟨q, hq⟩ : ∃ q, q = v * v := ⟨_, rfl⟩
        have hvv := mul_bound (a := v) (b := v) (A := 33554432) (B := 33554432) (by omega) (by omega) (by omega) (by omega)
        have q1 : -1125899906842624 ≤ v * v := by omega
        have q2 : v * v ≤ 1125899906842624 := by omega
        clear hvv hq
        obtain ⟨d, hd⟩ : ∃ d, d = distF (a1, a2) (b1, b2) := ⟨_, rfl⟩
        have hdd : Hid (distF (a1, a2) (b1, b2) = d) := hd.symm
        have hdq : d = dsq (a1, a2) (b1, b2) := by rw [hd]; unfold distF; rw [hv]; rfl
        have hz : Hid (r = decide (d ≤ v * v)) := by show r = _; rw [← hr.out, hdq]; unfold seesF; rw [hv, decide_eq_true (show 0 ≤ v by omega), decide_eq_true (show v ≤ 33554432 by omega)]; rfl
        clear hv hd hdq
        go_enter Try.func74, Try.ntmps74
        go_wp2_with (first
          | (go_at_call 108; (refine (valid2 (a1, a2) (b1, b2) _ _ _ hx true HV).mono ?_); rintro e w1 ⟨rfl, hb1⟩; obtain ⟨qa, k0, k1, k2, k3⟩ := box2 ha hb1; obtain ⟨qb, k4, k5, k6, k7⟩ := box2 hb hb1; have hB1 := below_step hB hb1)
          | (go_at_call 77; (refine (dist_any (a1, a2) (b1, b2) d _ hdd).mono ?_); rintro e w2 ⟨rfl, hb2⟩; have hB2 := below_step hB1 hb2))
        go_ret
        exact ⟨congrArg (fun z => Ending.returned (.bool z)) hz.out.symm, hB2⟩
end Go.Proofs.Ytaehfildhmljeaa
