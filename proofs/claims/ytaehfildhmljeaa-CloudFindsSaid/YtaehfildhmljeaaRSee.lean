/- The reference's 'Sees'. -/
import Derived.Test.YtaehfildhmljeaaRef1
import Derived.Test.YtaehfildhmljeaaSid2
namespace Go.Proofs.Ytaehfildhmljeaa
open Go.RowKit Go.Shelf

set_option maxRecDepth 100000 in
set_option maxHeartbeats 4000000 in
theorem rsees_any (a1 a2 b1 b2 v : Int) (r : Bool) (w : World) (hr : Hid (seesF (a1, a2) (b1, b2) v = r)) :
    Calls Try.prog 75 #[sp a1 a2, sp b1 b2, .int .i64 v] w fun e w' => e = .returned (.bool r) ∧ Below w.heap.size w w' := by
  have ha := (BoxAt.new w 24 #[.int .i64 a1, .int .i64 a2]).alloc (.cells #[.int .i64 b1, .int .i64 b2] 24)
  have hb := BoxAt.new (w.alloc (.cells #[.int .i64 a1, .int .i64 a2] 24)) 24 #[.int .i64 b1, .int .i64 b2]
  have hB : Below w.heap.size w ((w.alloc (.cells #[.int .i64 a1, .int .i64 a2] 24)).alloc (.cells #[.int .i64 b1, .int .i64 b2] 24)) := ((Below.refl _ w).alloc (Nat.le_refl _) _).alloc (by simp) _
  simp only [World.size_alloc] at hb
  obtain ⟨va, hva⟩ : ∃ s, s = vp (a1, a2) := ⟨_, rfl⟩
  obtain ⟨vb, hvb⟩ : ∃ s, s = vp (b1, b2) := ⟨_, rfl⟩
  have VA : Hid (vp (a1, a2) = va) := hva.symm
  have VB : Hid (vp (b1, b2) = vb) := hvb.symm
  cases va
  · have hz : Hid (r = false) := by show r = false; rw [← hr.out]; unfold seesF; rw [← hva]; rfl
    clear hva hvb
    go_enter Try.func75, Try.ntmps75
    go_wp2_with (go_at_call 62; (with_reducible refine (rvalid_any a1 a2 _ _ VA).mono ?_); rintro e w1 ⟨rfl, hb1⟩; replace hB := below_step hB hb1)
    go_ret
    exact ⟨congrArg (fun z => Ending.returned (.bool z)) hz.out.symm, hB⟩
  cases vb
  · have hz : Hid (r = false) := by show r = false; rw [← hr.out]; unfold seesF; rw [← hva, ← hvb]; rfl
    clear hva hvb
    go_enter Try.func75, Try.ntmps75
    go_wp2_with (first
      | (go_at_call 62; (with_reducible refine (rvalid_any a1 a2 _ _ VA).mono ?_); rintro e w1 ⟨rfl, hb1⟩; obtain ⟨qb, k4, k5, k6, k7⟩ := box2 hb hb1; replace hB := below_step hB hb1)
      | (go_at_call 62; (with_reducible refine (rvalid_any b1 b2 _ _ VB).mono ?_); rintro e w1 ⟨rfl, hb2⟩; replace hB := below_step hB hb2))
    go_ret
    exact ⟨congrArg (fun z => Ending.returned (.bool z)) hz.out.symm, hB⟩
  by_cases v0 : v < 0
  · have hz : Hid (r = false) := by show r = false; rw [← hr.out]; unfold seesF; rw [← hva, ← hvb, decide_eq_false (show ¬ 0 ≤ v by omega)]; rfl
    clear hva hvb
    go_enter Try.func75, Try.ntmps75
    go_wp2_with (first
      | (go_at_call 62; (with_reducible refine (rvalid_any a1 a2 _ _ VA).mono ?_); rintro e w1 ⟨rfl, hb1⟩; obtain ⟨qb, k4, k5, k6, k7⟩ := box2 hb hb1; replace hB := below_step hB hb1)
      | (go_at_call 62; (with_reducible refine (rvalid_any b1 b2 _ _ VB).mono ?_); rintro e w1 ⟨rfl, hb2⟩; replace hB := below_step hB hb2))
    go_ret
    exact ⟨congrArg (fun z => Ending.returned (.bool z)) hz.out.symm, hB⟩
  by_cases v1 : 33554432 < v
  · have hz : Hid (r = false) := by show r = false; rw [← hr.out]; unfold seesF; rw [← hva, ← hvb, decide_eq_false (show ¬ v ≤ 33554432 by omega)]; simp
    clear hva hvb
    go_enter Try.func75, Try.ntmps75
    go_wp2_with (first
      | (go_at_call 62; (with_reducible refine (rvalid_any a1 a2 _ _ VA).mono ?_); rintro e w1 ⟨rfl, hb1⟩; obtain ⟨qb, k4, k5, k6, k7⟩ := box2 hb hb1; replace hB := below_step hB hb1)
      | (go_at_call 62; (with_reducible refine (rvalid_any b1 b2 _ _ VB).mono ?_); rintro e w1 ⟨rfl, hb2⟩; replace hB := below_step hB hb2))
    go_ret
    exact ⟨congrArg (fun z => Ending.returned (.bool z)) hz.out.symm, hB⟩
  · have hvv := mul_bound (a := v) (b := v) (A := 33554432) (B := 33554432) (by omega) (by omega) (by omega) (by omega)
    have q1 : -1125899906842624 ≤ v * v := by omega
    have q2 : v * v ≤ 1125899906842624 := by omega
    clear hvv
    obtain ⟨d, hd⟩ : ∃ d, d = distF (a1, a2) (b1, b2) := ⟨_, rfl⟩
    have hdd : Hid (distF (a1, a2) (b1, b2) = d) := hd.symm
    have hdq : d = dsq (a1, a2) (b1, b2) := by rw [hd]; unfold distF; rw [← hva, ← hvb]; rfl
    have hz : Hid (r = decide (d ≤ v * v)) := by show r = _; rw [← hr.out, hdq]; unfold seesF; rw [← hva, ← hvb, decide_eq_true (show 0 ≤ v by omega), decide_eq_true (show v ≤ 33554432 by omega)]; rfl
    clear hva hvb hd hdq
    go_enter Try.func75, Try.ntmps75
    go_wp2_with (first
      | (go_at_call 62; (with_reducible refine (rvalid_any a1 a2 _ _ VA).mono ?_); rintro e w1 ⟨rfl, hb1⟩; obtain ⟨qa, k0, k1, k2, k3⟩ := box2 ha hb1; obtain ⟨qb, k4, k5, k6, k7⟩ := box2 hb hb1; replace hB := below_step hB hb1)
      | (go_at_call 62; (with_reducible refine (rvalid_any b1 b2 _ _ VB).mono ?_); rintro e w1 ⟨rfl, hb2⟩; obtain ⟨pa, k0, k1, k2, k3⟩ := box2 qa.out hb2; obtain ⟨pb, k4, k5, k6, k7⟩ := box2 qb.out hb2; replace hB := below_step hB hb2)
      | (go_at_call 56; (with_reducible refine (rdist_any a1 a2 b1 b2 d _ hdd).mono ?_); rintro e w2 ⟨rfl, hb3⟩; replace hB := below_step hB hb3))
    go_ret
    exact ⟨congrArg (fun z => Ending.returned (.bool z)) hz.out.symm, hB⟩
end Go.Proofs.Ytaehfildhmljeaa
