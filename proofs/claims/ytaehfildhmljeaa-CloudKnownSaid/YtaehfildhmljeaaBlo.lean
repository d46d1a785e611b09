/- 'overlap', 'Blocks'. 'Blocks'. -/
import Derived.Test.YtaehfildhmljeaaSid2
namespace Go.Proofs.Ytaehfildhmljeaa
open Go.RowKit Go.Shelf

def ovlF (a b c d : Int) : Bool := decide (min c d ≤ max a b) && decide (min a b ≤ max c d)

set_option maxRecDepth 100000 in
set_option maxHeartbeats 4000000 in
theorem ovl_any (a b c d : Int) (r : Bool) (w : World) (hr : Hid (ovlF a b c d = r)) :
    Calls Try.prog 119 #[.int .i64 a, .int .i64 b, .int .i64 c, .int .i64 d] w fun e w' => e = .returned (.bool r) ∧ w = w' := by
  rcases Int.lt_trichotomy a b with h1 | rfl | h1
  · rcases Int.lt_trichotomy c d with h2 | rfl | h2
    · by_cases t1 : c ≤ b
      · by_cases t2 : a ≤ d
        · have hz : Hid (r = true) := by show r = true; rw [← hr.out]; unfold ovlF; rw [decide_eq_true (by omega), decide_eq_true (by omega)]; rfl
          go_enter Try.func119, Try.ntmps119
          go_wp2
          go_ret
          exact ⟨congrArg (fun z => Ending.returned (.bool z)) hz.out.symm, rfl⟩
        · have hz : Hid (r = false) := by show r = false; rw [← hr.out]; unfold ovlF; rw [decide_eq_true (by omega), decide_eq_false (by omega)]; rfl
          go_enter Try.func119, Try.ntmps119
          go_wp2
          go_ret
          exact ⟨congrArg (fun z => Ending.returned (.bool z)) hz.out.symm, rfl⟩
      · have hz : Hid (r = false) := by show r = false; rw [← hr.out]; unfold ovlF; rw [decide_eq_false (by omega)]; rfl
        go_enter Try.func119, Try.ntmps119
        go_wp2
        go_ret
        exact ⟨congrArg (fun z => Ending.returned (.bool z)) hz.out.symm, rfl⟩
    · by_cases t1 : c ≤ b
      · by_cases t2 : a ≤ c
        · have hz : Hid (r = true) := by show r = true; rw [← hr.out]; unfold ovlF; rw [decide_eq_true (by omega), decide_eq_true (by omega)]; rfl
          go_enter Try.func119, Try.ntmps119
          go_wp2
          go_ret
          exact ⟨congrArg (fun z => Ending.returned (.bool z)) hz.out.symm, rfl⟩
        · have hz : Hid (r = false) := by show r = false; rw [← hr.out]; unfold ovlF; rw [decide_eq_true (by omega), decide_eq_false (by omega)]; rfl
          go_enter Try.func119, Try.ntmps119
          go_wp2
          go_ret
          exact ⟨congrArg (fun z => Ending.returned (.bool z)) hz.out.symm, rfl⟩
      · have hz : Hid (r = false) := by show r = false; rw [← hr.out]; unfold ovlF; rw [decide_eq_false (by omega)]; rfl
        go_enter Try.func119, Try.ntmps119
        go_wp2
        go_ret
        exact ⟨congrArg (fun z => Ending.returned (.bool z)) hz.out.symm, rfl⟩
    · by_cases t1 : d ≤ b
      · by_cases t2 : a ≤ c
        · have hz : Hid (r = true) := by show r = true; rw [← hr.out]; unfold ovlF; rw [decide_eq_true (by omega), decide_eq_true (by omega)]; rfl
          go_enter Try.func119, Try.ntmps119
          go_wp2
          go_ret
          exact ⟨congrArg (fun z => Ending.returned (.bool z)) hz.out.symm, rfl⟩
        · have hz : Hid (r = false) := by show r = false; rw [← hr.out]; unfold ovlF; rw [decide_eq_true (by omega), decide_eq_false (by omega)]; rfl
          go_enter Try.func119, Try.ntmps119
          go_wp2
          go_ret
          exact ⟨congrArg (fun z => Ending.returned (.bool z)) hz.out.symm, rfl⟩
      · have hz : Hid (r = false) := by show r = false; rw [← hr.out]; unfold ovlF; rw [decide_eq_false (by omega)]; rfl
        go_enter Try.func119, Try.ntmps119
        go_wp2
        go_ret
        exact ⟨congrArg (fun z => Ending.returned (.bool z)) hz.out.symm, rfl⟩
  · rcases Int.lt_trichotomy c d with h2 | rfl | h2
    · by_cases t1 : c ≤ a
      · by_cases t2 : a ≤ d
        · have hz : Hid (r = true) := by show r = true; rw [← hr.out]; unfold ovlF; rw [decide_eq_true (by omega), decide_eq_true (by omega)]; rfl
          go_enter Try.func119, Try.ntmps119
          go_wp2
          go_ret
          exact ⟨congrArg (fun z => Ending.returned (.bool z)) hz.out.symm, rfl⟩
        · have hz : Hid (r = false) := by show r = false; rw [← hr.out]; unfold ovlF; rw [decide_eq_true (by omega), decide_eq_false (by omega)]; rfl
          go_enter Try.func119, Try.ntmps119
          go_wp2
          go_ret
          exact ⟨congrArg (fun z => Ending.returned (.bool z)) hz.out.symm, rfl⟩
      · have hz : Hid (r = false) := by show r = false; rw [← hr.out]; unfold ovlF; rw [decide_eq_false (by omega)]; rfl
        go_enter Try.func119, Try.ntmps119
        go_wp2
        go_ret
        exact ⟨congrArg (fun z => Ending.returned (.bool z)) hz.out.symm, rfl⟩
    · by_cases t1 : c ≤ a
      · by_cases t2 : a ≤ c
        · have hz : Hid (r = true) := by show r = true; rw [← hr.out]; unfold ovlF; rw [decide_eq_true (by omega), decide_eq_true (by omega)]; rfl
          go_enter Try.func119, Try.ntmps119
          go_wp2
          go_ret
          exact ⟨congrArg (fun z => Ending.returned (.bool z)) hz.out.symm, rfl⟩
        · have hz : Hid (r = false) := by show r = false; rw [← hr.out]; unfold ovlF; rw [decide_eq_true (by omega), decide_eq_false (by omega)]; rfl
          go_enter Try.func119, Try.ntmps119
          go_wp2
          go_ret
          exact ⟨congrArg (fun z => Ending.returned (.bool z)) hz.out.symm, rfl⟩
      · have hz : Hid (r = false) := by show r = false; rw [← hr.out]; unfold ovlF; rw [decide_eq_false (by omega)]; rfl
        go_enter Try.func119, Try.ntmps119
        go_wp2
        go_ret
        exact ⟨congrArg (fun z => Ending.returned (.bool z)) hz.out.symm, rfl⟩
    · by_cases t1 : d ≤ a
      · by_cases t2 : a ≤ c
        · have hz : Hid (r = true) := by show r = true; rw [← hr.out]; unfold ovlF; rw [decide_eq_true (by omega), decide_eq_true (by omega)]; rfl
          go_enter Try.func119, Try.ntmps119
          go_wp2
          go_ret
          exact ⟨congrArg (fun z => Ending.returned (.bool z)) hz.out.symm, rfl⟩
        · have hz : Hid (r = false) := by show r = false; rw [← hr.out]; unfold ovlF; rw [decide_eq_true (by omega), decide_eq_false (by omega)]; rfl
          go_enter Try.func119, Try.ntmps119
          go_wp2
          go_ret
          exact ⟨congrArg (fun z => Ending.returned (.bool z)) hz.out.symm, rfl⟩
      · have hz : Hid (r = false) := by show r = false; rw [← hr.out]; unfold ovlF; rw [decide_eq_false (by omega)]; rfl
        go_enter Try.func119, Try.ntmps119
        go_wp2
        go_ret
        exact ⟨congrArg (fun z => Ending.returned (.bool z)) hz.out.symm, rfl⟩
  · rcases Int.lt_trichotomy c d with h2 | rfl | h2
    · by_cases t1 : c ≤ a
      · by_cases t2 : b ≤ d
        · have hz : Hid (r = true) := by show r = true; rw [← hr.out]; unfold ovlF; rw [decide_eq_true (by omega), decide_eq_true (by omega)]; rfl
          go_enter Try.func119, Try.ntmps119
          go_wp2
          go_ret
          exact ⟨congrArg (fun z => Ending.returned (.bool z)) hz.out.symm, rfl⟩
        · have hz : Hid (r = false) := by show r = false; rw [← hr.out]; unfold ovlF; rw [decide_eq_true (by omega), decide_eq_false (by omega)]; rfl
          go_enter Try.func119, Try.ntmps119
          go_wp2
          go_ret
          exact ⟨congrArg (fun z => Ending.returned (.bool z)) hz.out.symm, rfl⟩
      · have hz : Hid (r = false) := by show r = false; rw [← hr.out]; unfold ovlF; rw [decide_eq_false (by omega)]; rfl
        go_enter Try.func119, Try.ntmps119
        go_wp2
        go_ret
        exact ⟨congrArg (fun z => Ending.returned (.bool z)) hz.out.symm, rfl⟩
    · by_cases t1 : c ≤ a
      · by_cases t2 : b ≤ c
        · have hz : Hid (r = true) := by show r = true; rw [← hr.out]; unfold ovlF; rw [decide_eq_true (by omega), decide_eq_true (by omega)]; rfl
          go_enter Try.func119, Try.ntmps119
          go_wp2
          go_ret
          exact ⟨congrArg (fun z => Ending.returned (.bool z)) hz.out.symm, rfl⟩
        · have hz : Hid (r = false) := by show r = false; rw [← hr.out]; unfold ovlF; rw [decide_eq_true (by omega), decide_eq_false (by omega)]; rfl
          go_enter Try.func119, Try.ntmps119
          go_wp2
          go_ret
          exact ⟨congrArg (fun z => Ending.returned (.bool z)) hz.out.symm, rfl⟩
      · have hz : Hid (r = false) := by show r = false; rw [← hr.out]; unfold ovlF; rw [decide_eq_false (by omega)]; rfl
        go_enter Try.func119, Try.ntmps119
        go_wp2
        go_ret
        exact ⟨congrArg (fun z => Ending.returned (.bool z)) hz.out.symm, rfl⟩
    · by_cases t1 : d ≤ a
      · by_cases t2 : b ≤ c
        · have hz : Hid (r = true) := by show r = true; rw [← hr.out]; unfold ovlF; rw [decide_eq_true (by omega), decide_eq_true (by omega)]; rfl
          go_enter Try.func119, Try.ntmps119
          go_wp2
          go_ret
          exact ⟨congrArg (fun z => Ending.returned (.bool z)) hz.out.symm, rfl⟩
        · have hz : Hid (r = false) := by show r = false; rw [← hr.out]; unfold ovlF; rw [decide_eq_true (by omega), decide_eq_false (by omega)]; rfl
          go_enter Try.func119, Try.ntmps119
          go_wp2
          go_ret
          exact ⟨congrArg (fun z => Ending.returned (.bool z)) hz.out.symm, rfl⟩
      · have hz : Hid (r = false) := by show r = false; rw [← hr.out]; unfold ovlF; rw [decide_eq_false (by omega)]; rfl
        go_enter Try.func119, Try.ntmps119
        go_wp2
        go_ret
        exact ⟨congrArg (fun z => Ending.returned (.bool z)) hz.out.symm, rfl⟩
end Go.Proofs.Ytaehfildhmljeaa

namespace Go.Proofs.Ytaehfildhmljeaa
open Go.RowKit Go.Shelf

def blkF (a b c d : Pt) : Bool := (vp a && vp b && vp c && vp d) && ovlF a.1 b.1 c.1 d.1 && ovlF a.2 b.2 c.2 d.2 && decide (sideF a b c * sideF a b d ≤ 0) && decide (sideF c d a * sideF c d b ≤ 0)

theorem sgn_three (n : Int) : sgn n = 1 ∨ sgn n = -1 ∨ sgn n = 0 := by unfold sgn; split; simp; split <;> simp
theorem side_cases (a b c : Pt) : sideF a b c = 1 ∨ sideF a b c = -1 ∨ sideF a b c = 0 := by unfold sideF; split; exact sgn_three _; simp
theorem side_mul (a b c d e f : Pt) : -1 ≤ sideF a b c * sideF d e f ∧ sideF a b c * sideF d e f ≤ 1 := by
  rcases side_cases a b c with h | h | h <;> rcases side_cases d e f with h' | h' | h' <;> rw [h, h'] <;> decide

theorem side_raw (a1 a2 b1 b2 c1 c2 n : Int) (w : World) (hn : Hid (sideF (a1, a2) (b1, b2) (c1, c2) = n)) :
    Calls Try.prog 92 #[sp a1 a2, sp b1 b2, sp c1 c2] w fun e w' => e = .returned (.int .i64 n) ∧ Below w.heap.size w w' := side_any (a1, a2) (b1, b2) (c1, c2) n w hn

/-- Four boxes of two cells, and the list of all. -/
theorem four_boxes (w : World) (a1 a2 b1 b2 c1 c2 d1 d2 : Value) (O : Obj) (W : World) (hW : W = (((((w.alloc (.cells #[a1, a2] 24)).alloc (.cells #[b1, b2] 24)).alloc (.cells #[c1, c2] 24)).alloc (.cells #[d1, d2] 24)).alloc O)) :
    BoxAt W w.heap.size 24 #[a1, a2] ∧ BoxAt W (w.heap.size + 1) 24 #[b1, b2] ∧ BoxAt W (w.heap.size + 1 + 1) 24 #[c1, c2] ∧ BoxAt W (w.heap.size + 1 + 1 + 1) 24 #[d1, d2] ∧ Below w.heap.size w W := by
  subst hW
  have ha := ((((BoxAt.new w 24 #[a1, a2]).alloc (.cells #[b1, b2] 24)).alloc (.cells #[c1, c2] 24)).alloc (.cells #[d1, d2] 24)).alloc O
  have hb := (((BoxAt.new (w.alloc (.cells #[a1, a2] 24)) 24 #[b1, b2]).alloc (.cells #[c1, c2] 24)).alloc (.cells #[d1, d2] 24)).alloc O
  have hc := ((BoxAt.new ((w.alloc (.cells #[a1, a2] 24)).alloc (.cells #[b1, b2] 24)) 24 #[c1, c2]).alloc (.cells #[d1, d2] 24)).alloc O
  have hd := (BoxAt.new (((w.alloc (.cells #[a1, a2] 24)).alloc (.cells #[b1, b2] 24)).alloc (.cells #[c1, c2] 24)) 24 #[d1, d2]).alloc O
  simp only [World.size_alloc] at hb hc hd
  exact ⟨ha, hb, hc, hd, (((((Below.refl _ w).alloc (Nat.le_refl _) _).alloc (by simp) _).alloc (by simp; omega) _).alloc (by simp; omega) _).alloc (by simp; omega) _⟩

set_option maxRecDepth 100000 in
set_option maxHeartbeats 8000000 in
theorem blocks_any (a b c d : Pt) (r : Bool) (w : World) (hr : Hid (blkF a b c d = r)) :
    Calls Try.prog 91 #[pt a, pt b, pt c, pt d] w fun e w' => e = .returned (.bool r) ∧ Below w.heap.size w w' := by
  obtain ⟨a1, a2⟩ := a
  obtain ⟨b1, b2⟩ := b
  obtain ⟨c1, c2⟩ := c
  obtain ⟨d1, d2⟩ := d
  have hx := BoxAt.new ((((w.alloc (.cells #[.int .i64 a1, .int .i64 a2] 24)).alloc (.cells #[.int .i64 b1, .int .i64 b2] 24)).alloc (.cells #[.int .i64 c1, .int .i64 c2] 24)).alloc (.cells #[.int .i64 d1, .int .i64 d2] 24)) 24 #[.int .i64 a1, .int .i64 a2, .int .i64 b1, .int .i64 b2, .int .i64 c1, .int .i64 c2, .int .i64 d1, .int .i64 d2]
  simp only [World.size_alloc] at hx
  obtain ⟨ha, hb, hc, hd, hB⟩ := four_boxes w (.int .i64 a1) (.int .i64 a2) (.int .i64 b1) (.int .i64 b2) (.int .i64 c1) (.int .i64 c2) (.int .i64 d1) (.int .i64 d2) (.cells #[.int .i64 a1, .int .i64 a2, .int .i64 b1, .int .i64 b2, .int .i64 c1, .int .i64 c2, .int .i64 d1, .int .i64 d2] 24) _ rfl
  cases hv : (vp (a1, a2) && vp (b1, b2) && vp (c1, c2) && vp (d1, d2)) with
  | false =>
    have hz : Hid (r = false) := by show r = false; rw [← hr.out]; unfold blkF; rw [hv]; rfl
    have HV : Hid (false = (vp (a1, a2) && vp (b1, b2) && vp (c1, c2) && vp (d1, d2))) := hv.symm
    clear hv
    go_enter Try.func91, Try.ntmps91
    go_wp2_with (go_at_call 108; (refine (valid4 (a1, a2) (b1, b2) (c1, c2) (d1, d2) _ _ _ hx false HV).mono ?_); rintro e w1 ⟨rfl, hb1⟩)
    go_ret
    exact ⟨congrArg (fun z => Ending.returned (.bool z)) hz.out.symm, below_step hB hb1⟩
  | true =>
    have HV : Hid (true = (vp (a1, a2) && vp (b1, b2) && vp (c1, c2) && vp (d1, d2))) := hv.symm
    cases ho1 : ovlF a1 b1 c1 d1 with
    | false =>
      have hz : Hid (r = false) := by show r = false; rw [← hr.out]; unfold blkF; simp only; rw [ho1]; simp
      have H1 : Hid (ovlF a1 b1 c1 d1 = false) := ho1
      clear hv ho1
      go_enter Try.func91, Try.ntmps91
      go_wp2_with (first
        | (go_at_call 108; (refine (valid4 (a1, a2) (b1, b2) (c1, c2) (d1, d2) _ _ _ hx true HV).mono ?_); rintro e w1 ⟨rfl, hb1⟩; obtain ⟨qa, k0, k1, k2, k3⟩ := box2 ha hb1; obtain ⟨qb, k4, k5, k6, k7⟩ := box2 hb hb1; obtain ⟨qc, k8, k9, kA, kB⟩ := box2 hc hb1; obtain ⟨qd, kC, kD, kE, kF⟩ := box2 hd hb1; have hB1 := below_step hB hb1)
        | (go_at_call 119; (with_reducible refine (ovl_any a1 b1 c1 d1 _ _ H1).mono ?_); rintro e w1 ⟨rfl, rfl⟩))
      go_ret
      exact ⟨congrArg (fun z => Ending.returned (.bool z)) hz.out.symm, hB1⟩
    | true =>
      have H1 : Hid (ovlF a1 b1 c1 d1 = true) := ho1
      cases ho2 : ovlF a2 b2 c2 d2 with
      | false =>
        have hz : Hid (r = false) := by show r = false; rw [← hr.out]; unfold blkF; simp only; rw [ho2]; simp
        have H2 : Hid (ovlF a2 b2 c2 d2 = false) := ho2
        clear hv ho1 ho2
        go_enter Try.func91, Try.ntmps91
        go_wp2_with (first
          | (go_at_call 108; (refine (valid4 (a1, a2) (b1, b2) (c1, c2) (d1, d2) _ _ _ hx true HV).mono ?_); rintro e w1 ⟨rfl, hb1⟩; obtain ⟨qa, k0, k1, k2, k3⟩ := box2 ha hb1; obtain ⟨qb, k4, k5, k6, k7⟩ := box2 hb hb1; obtain ⟨qc, k8, k9, kA, kB⟩ := box2 hc hb1; obtain ⟨qd, kC, kD, kE, kF⟩ := box2 hd hb1; have hB1 := below_step hB hb1)
          | (go_at_call 119; (with_reducible refine (ovl_any a1 b1 c1 d1 _ _ H1).mono ?_); rintro e w1 ⟨rfl, rfl⟩)
          | (go_at_call 119; (with_reducible refine (ovl_any a2 b2 c2 d2 _ _ H2).mono ?_); rintro e w1 ⟨rfl, rfl⟩))
        go_ret
        exact ⟨congrArg (fun z => Ending.returned (.bool z)) hz.out.symm, hB1⟩
      | true =>
        have H2 : Hid (ovlF a2 b2 c2 d2 = true) := ho2
        obtain ⟨s1, e1⟩ : ∃ s, s = sideF (a1, a2) (b1, b2) (c1, c2) := ⟨_, rfl⟩
        obtain ⟨s2, e2⟩ : ∃ s, s = sideF (a1, a2) (b1, b2) (d1, d2) := ⟨_, rfl⟩
        obtain ⟨s3, e3⟩ : ∃ s, s = sideF (c1, c2) (d1, d2) (a1, a2) := ⟨_, rfl⟩
        obtain ⟨s4, e4⟩ : ∃ s, s = sideF (c1, c2) (d1, d2) (b1, b2) := ⟨_, rfl⟩
        have E1 : Hid (sideF (a1, a2) (b1, b2) (c1, c2) = s1) := e1.symm
        have E2 : Hid (sideF (a1, a2) (b1, b2) (d1, d2) = s2) := e2.symm
        have E3 : Hid (sideF (c1, c2) (d1, d2) (a1, a2) = s3) := e3.symm
        have E4 : Hid (sideF (c1, c2) (d1, d2) (b1, b2) = s4) := e4.symm
        have b12 : -1 ≤ s1 * s2 ∧ s1 * s2 ≤ 1 := by rw [e1, e2]; exact side_mul _ _ _ _ _ _
        have b34 : -1 ≤ s3 * s4 ∧ s3 * s4 ≤ 1 := by rw [e3, e4]; exact side_mul _ _ _ _ _ _
        have HZ : Hid (r = (decide (s1 * s2 ≤ 0) && decide (s3 * s4 ≤ 0))) := by
          show r = _
          rw [← hr.out, e1, e2, e3, e4]; unfold blkF; simp only; rw [hv, ho1, ho2]; rfl
        obtain ⟨m1, hm1⟩ : ∃ m, m = s1 * s2 := ⟨_, rfl⟩
        obtain ⟨m2, hm2⟩ : ∃ m, m = s3 * s4 := ⟨_, rfl⟩
        have I1 : Hid (IntKind.i64.wrap (s1 * s2) = m1) := by show _ = _; rw [hm1]; exact IntWalk.i64_in _ (by omega)
        have I2 : Hid (IntKind.i64.wrap (s3 * s4) = m2) := by show _ = _; rw [hm2]; exact IntWalk.i64_in _ (by omega)
        rw [← hm1, ← hm2] at HZ
        clear hv ho1 ho2 e1 e2 e3 e4 b12 b34 hm1 hm2
        go_enter Try.func91, Try.ntmps91
        go_wp2_with (first
          | (go_at_call 108; (refine (valid4 (a1, a2) (b1, b2) (c1, c2) (d1, d2) _ _ _ hx true HV).mono ?_); rintro e w1 ⟨rfl, hb1⟩; obtain ⟨qa, k0, k1, k2, k3⟩ := box2 ha hb1; obtain ⟨qb, k4, k5, k6, k7⟩ := box2 hb hb1; obtain ⟨qc, k8, k9, kA, kB⟩ := box2 hc hb1; obtain ⟨qd, kC, kD, kE, kF⟩ := box2 hd hb1; have hB1 := below_step hB hb1)
          | (go_at_call 119; (with_reducible refine (ovl_any a1 b1 c1 d1 _ _ H1).mono ?_); rintro e w1 ⟨rfl, rfl⟩)
          | (go_at_call 119; (with_reducible refine (ovl_any a2 b2 c2 d2 _ _ H2).mono ?_); rintro e w1 ⟨rfl, rfl⟩))
        have la := BoxAt.lt qa.out
        have lb := BoxAt.lt qb.out
        have lc := BoxAt.lt qc.out
        have ld := BoxAt.lt qd.out
        have QA := qa.out
        have QB := qb.out
        have QC := qc.out
        have QD := qd.out
        clear qa qb qc qd
        obtain ⟨w9, hw9⟩ : ∃ x : World, x = w1 := ⟨_, rfl⟩
        subst hw9
        go_cut [8] from 38 to 59 (fun v w' => ∃ t : Bool, v = .bool t ∧ Hid (t = (decide (m1 ≤ 0) && decide (m2 ≤ 0))) ∧ Below w9.heap.size w9 w')
        case first =>
          clear hx ha hb hc hd hB hb1 hB1
          have j1 := I1.out
          have j2 := I2.out
          by_cases g1 : m1 ≤ 0
          · go_region_held3 (fun w' => w'.cell? ⟨w.heap.size, 0, none⟩ = some (.int .i64 a1) ∧ w'.cell? ⟨w.heap.size, 1, none⟩ = some (.int .i64 a2) ∧ w'.cell? ⟨w.heap.size + 1, 0, none⟩ = some (.int .i64 b1) ∧ w'.cell? ⟨w.heap.size + 1, 1, none⟩ = some (.int .i64 b2) ∧ w'.cell? ⟨w.heap.size + 1 + 1, 0, none⟩ = some (.int .i64 c1) ∧ w'.cell? ⟨w.heap.size + 1 + 1, 1, none⟩ = some (.int .i64 c2) ∧ w'.cell? ⟨w.heap.size + 1 + 1 + 1, 0, none⟩ = some (.int .i64 d1) ∧ w'.cell? ⟨w.heap.size + 1 + 1 + 1, 1, none⟩ = some (.int .i64 d2))
              (first | (refine ⟨?_, ?_, ?_, ?_, ?_, ?_, ?_, ?_⟩ <;> exact (Below.cell hB5 (by assumption)).trans (by assumption)) | (refine ⟨?_, ?_, ?_, ?_, ?_, ?_, ?_, ?_⟩ <;> exact (Below.cell hB4 (by assumption)).trans (by assumption)) | (refine ⟨?_, ?_, ?_, ?_, ?_, ?_, ?_, ?_⟩ <;> exact (Below.cell hB3 (by assumption)).trans (by assumption)) | (refine ⟨?_, ?_, ?_, ?_, ?_, ?_, ?_, ?_⟩ <;> exact (Below.cell hB2 (by assumption)).trans (by assumption)) | go_keep)
              (first
                | (go_at_call 92; (with_reducible refine (side_raw a1 a2 b1 b2 c1 c2 s1 _ E1).mono ?_); rintro e w2 ⟨rfl, hb2⟩; have hB2 : Below w9.heap.size w9 w2 := below_step ((Below.refl _ w9).drew) hb2)
                | (go_at_call 92; (with_reducible refine (side_raw a1 a2 b1 b2 d1 d2 s2 _ E2).mono ?_); rintro e w3 ⟨rfl, hb3⟩; have hB3 : Below w9.heap.size w9 w3 := below_step hB2 hb3)
                | (go_at_call 92; (with_reducible refine (side_raw c1 c2 d1 d2 a1 a2 s3 _ E3).mono ?_); rintro e w4 ⟨rfl, hb4⟩; have hB4 : Below w9.heap.size w9 w4 := below_step hB3 hb4)
                | (go_at_call 92; (with_reducible refine (side_raw c1 c2 d1 d2 b1 b2 s4 _ E4).mono ?_); rintro e w5 ⟨rfl, hb5⟩; have hB5 : Below w9.heap.size w9 w5 := below_step hB4 hb5))
            all_goals go_wp2
            all_goals go_meet
            all_goals exact ⟨_, rfl, (by show _ = _; rw [decide_eq_true g1]; rfl), hB5⟩
          · have g2 : 0 < m1 := by omega
            have g3 : decide (m1 ≤ 0) = false := by simp; omega
            clear g1
            refine wp_region_noPanic ?_
            refine wp_region_held_drew (S := (fun w' => w'.cell? ⟨w.heap.size, 0, none⟩ = some (.int .i64 a1) ∧ w'.cell? ⟨w.heap.size, 1, none⟩ = some (.int .i64 a2) ∧ w'.cell? ⟨w.heap.size + 1, 0, none⟩ = some (.int .i64 b1) ∧ w'.cell? ⟨w.heap.size + 1, 1, none⟩ = some (.int .i64 b2) ∧ w'.cell? ⟨w.heap.size + 1 + 1, 0, none⟩ = some (.int .i64 c1) ∧ w'.cell? ⟨w.heap.size + 1 + 1, 1, none⟩ = some (.int .i64 c2) ∧ w'.cell? ⟨w.heap.size + 1 + 1 + 1, 0, none⟩ = some (.int .i64 d1) ∧ w'.cell? ⟨w.heap.size + 1 + 1 + 1, 1, none⟩ = some (.int .i64 d2))) (by kernel_rfl) ⟨k0, k1, k4, k5, k8, k9, kC, kD⟩ (fun hHeld => ?_)
            refine wpAnyH_take (i := 0) (oi := { dst := some 38, op := Go.Op.load 24 (Go.Operand.tmp 4), type := 24, pos := "spot.go:40", after := #[], guard := none }) (v := .agg #[.int .i64 a1, .int .i64 a2]) rfl (by kernel_rfl) (by kernel_rfl) (by kernel_rfl) (fun _ _ _ h => h) (Or.inl ⟨by rfl, (by intro w0 hSw; (try dsimp only at hSw); go_simp)⟩) (by assumption) ?_
            (try simp only [Act.put, List.setIfInBounds_toArray, List.set_cons_zero, List.set_cons_succ])
            refine wpAnyH_take (i := 1) (oi := { dst := some 39, op := Go.Op.load 24 (Go.Operand.tmp 5), type := 24, pos := "spot.go:40", after := #[], guard := none }) (v := .agg #[.int .i64 b1, .int .i64 b2]) rfl (by kernel_rfl) (by kernel_rfl) (by kernel_rfl) (fun _ _ _ h => h) (Or.inl ⟨by rfl, (by intro w0 hSw; (try dsimp only at hSw); go_simp)⟩) (by assumption) ?_
            (try simp only [Act.put, List.setIfInBounds_toArray, List.set_cons_zero, List.set_cons_succ])
            refine wpAnyH_take (i := 2) (oi := { dst := some 40, op := Go.Op.load 24 (Go.Operand.tmp 6), type := 24, pos := "spot.go:40", after := #[], guard := none }) (v := .agg #[.int .i64 c1, .int .i64 c2]) rfl (by kernel_rfl) (by kernel_rfl) (by kernel_rfl) (fun _ _ _ h => h) (Or.inl ⟨by rfl, (by intro w0 hSw; (try dsimp only at hSw); go_simp)⟩) (by assumption) ?_
            (try simp only [Act.put, List.setIfInBounds_toArray, List.set_cons_zero, List.set_cons_succ])
            refine wpAnyH_take (i := 4) (oi := { dst := some 42, op := Go.Op.load 24 (Go.Operand.tmp 4), type := 24, pos := "spot.go:40", after := #[], guard := none }) (v := .agg #[.int .i64 a1, .int .i64 a2]) rfl (by kernel_rfl) (by kernel_rfl) (by kernel_rfl) (fun _ _ _ h => h) (Or.inl ⟨by rfl, (by intro w0 hSw; (try dsimp only at hSw); go_simp)⟩) (by assumption) ?_
            (try simp only [Act.put, List.setIfInBounds_toArray, List.set_cons_zero, List.set_cons_succ])
            refine wpAnyH_take (i := 5) (oi := { dst := some 43, op := Go.Op.load 24 (Go.Operand.tmp 5), type := 24, pos := "spot.go:40", after := #[], guard := none }) (v := .agg #[.int .i64 b1, .int .i64 b2]) rfl (by kernel_rfl) (by kernel_rfl) (by kernel_rfl) (fun _ _ _ h => h) (Or.inl ⟨by rfl, (by intro w0 hSw; (try dsimp only at hSw); go_simp)⟩) (by assumption) ?_
            (try simp only [Act.put, List.setIfInBounds_toArray, List.set_cons_zero, List.set_cons_succ])
            refine wpAnyH_take (i := 6) (oi := { dst := some 44, op := Go.Op.load 24 (Go.Operand.tmp 7), type := 24, pos := "spot.go:40", after := #[], guard := none }) (v := .agg #[.int .i64 d1, .int .i64 d2]) rfl (by kernel_rfl) (by kernel_rfl) (by kernel_rfl) (fun _ _ _ h => h) (Or.inl ⟨by rfl, (by intro w0 hSw; (try dsimp only at hSw); go_simp)⟩) (by assumption) ?_
            (try simp only [Act.put, List.setIfInBounds_toArray, List.set_cons_zero, List.set_cons_succ])
            refine wpAnyH_ready (rs := [3]) (by kernel_rfl) (by simp) ?_
            refine AllReadyH.cons (o := { dst := some 41, op := Go.Op.call { callee := Go.Callee.value (Go.Operand.func 92), args := #[Go.Operand.tmp 38, Go.Operand.tmp 39, Go.Operand.tmp 40], argTypes := #[24, 24, 24] }, type := 3, pos := "spot.go:40", after := #[{ on := 0, ground := Go.Ground.data }, { on := 1, ground := Go.Ground.data }, { on := 2, ground := Go.Ground.data }], guard := none }) rfl (fun K hK => ?_) AllReadyH.nil
            go_simp
            (go_at_call 92; (with_reducible refine (side_raw a1 a2 b1 b2 c1 c2 s1 _ E1).mono ?_); rintro e w2 ⟨rfl, hb2⟩; have hB2 : Below w9.heap.size w9 w2 := below_step ((Below.refl _ w9).drew) hb2)
            refine hK.out _ _ (by refine ⟨?_, ?_, ?_, ?_, ?_, ?_, ?_, ?_⟩ <;> exact (Below.cell hB2 (by assumption)).trans (by assumption)) (fun hHeld => ?_)
            clear hK K
            (try simp only [Act.put, List.setIfInBounds_toArray, List.set_cons_zero, List.set_cons_succ])
            refine wpAnyH_ready (rs := [7]) (by kernel_rfl) (by simp) ?_
            refine AllReadyH.cons (o := { dst := some 45, op := Go.Op.call { callee := Go.Callee.value (Go.Operand.func 92), args := #[Go.Operand.tmp 42, Go.Operand.tmp 43, Go.Operand.tmp 44], argTypes := #[24, 24, 24] }, type := 3, pos := "spot.go:40", after := #[{ on := 4, ground := Go.Ground.data }, { on := 5, ground := Go.Ground.data }, { on := 6, ground := Go.Ground.data }, { on := 3, ground := Go.Ground.chain }], guard := none }) rfl (fun K hK => ?_) AllReadyH.nil
            go_simp
            (go_at_call 92; (with_reducible refine (side_raw a1 a2 b1 b2 d1 d2 s2 _ E2).mono ?_); rintro e w3 ⟨rfl, hb3⟩; have hB3 : Below w9.heap.size w9 w3 := below_step hB2 hb3)
            refine hK.out _ _ (by refine ⟨?_, ?_, ?_, ?_, ?_, ?_, ?_, ?_⟩ <;> exact (Below.cell hB3 (by assumption)).trans (by assumption)) (fun hHeld => ?_)
            clear hK K
            (try simp only [Act.put, List.setIfInBounds_toArray, List.set_cons_zero, List.set_cons_succ])
            refine wpAnyH_take (i := 8) (oi := { dst := some 46, op := Go.Op.binOp Go.BinOp.mul 3 (Go.Operand.tmp 41) (Go.Operand.tmp 45) 3, type := 3, pos := "spot.go:40", after := #[{ on := 3, ground := Go.Ground.data }, { on := 7, ground := Go.Ground.data }], guard := none }) (v := .int .i64 m1) rfl (by kernel_rfl) (by kernel_rfl) (by kernel_rfl) (fun _ _ _ h => h) (Or.inl ⟨by rfl, (by intro w0 hSw; (try dsimp only at hSw); go_simp)⟩) (by assumption) ?_
            (try simp only [Act.put, List.setIfInBounds_toArray, List.set_cons_zero, List.set_cons_succ])
            refine wpAnyH_take (i := 9) (oi := { dst := some 47, op := Go.Op.binOp Go.BinOp.leq 3 (Go.Operand.tmp 46) (Go.Operand.const (Go.Value.int Go.IntKind.i64 0)) 3, type := 4, pos := "spot.go:40", after := #[{ on := 8, ground := Go.Ground.data }], guard := none }) (v := .bool false) rfl (by kernel_rfl) (by kernel_rfl) (by kernel_rfl) (fun _ _ _ h => h) (Or.inl ⟨by rfl, (by intro w0 hSw; (try dsimp only at hSw); go_simp)⟩) (by assumption) ?_
            (try simp only [Act.put, List.setIfInBounds_toArray, List.set_cons_zero, List.set_cons_succ])
            refine wpAnyH_take (i := 10) (oi := { dst := some 48, op := Go.Op.move (Go.Operand.tmp 47), type := 4, pos := "spot.go:40", after := #[{ on := 9, ground := Go.Ground.data }, { on := 7, ground := Go.Ground.chain }], guard := none }) (v := .bool false) rfl (by kernel_rfl) (by kernel_rfl) (by kernel_rfl) (fun _ _ _ h => h) (Or.inl ⟨by rfl, (by intro w0 hSw; (try dsimp only at hSw); go_simp)⟩) (by assumption) ?_
            (try simp only [Act.put, List.setIfInBounds_toArray, List.set_cons_zero, List.set_cons_succ])
            refine wpAnyH_take (i := 11) (oi := { dst := some 49, op := Go.Op.load 24 (Go.Operand.tmp 6), type := 24, pos := "spot.go:40", after := #[{ on := 10, ground := Go.Ground.guard }], guard := some (10, true) }) (v := undef) rfl (by kernel_rfl) (by kernel_rfl) (by kernel_rfl) (fun _ _ _ h => h) (Or.inr ⟨by rfl, rfl⟩) (by assumption) ?_
            (try simp only [Act.put, List.setIfInBounds_toArray, List.set_cons_zero, List.set_cons_succ])
            refine wpAnyH_take (i := 12) (oi := { dst := some 50, op := Go.Op.load 24 (Go.Operand.tmp 7), type := 24, pos := "spot.go:40", after := #[{ on := 10, ground := Go.Ground.guard }], guard := some (10, true) }) (v := undef) rfl (by kernel_rfl) (by kernel_rfl) (by kernel_rfl) (fun _ _ _ h => h) (Or.inr ⟨by rfl, rfl⟩) (by assumption) ?_
            (try simp only [Act.put, List.setIfInBounds_toArray, List.set_cons_zero, List.set_cons_succ])
            refine wpAnyH_take (i := 13) (oi := { dst := some 51, op := Go.Op.load 24 (Go.Operand.tmp 4), type := 24, pos := "spot.go:40", after := #[{ on := 10, ground := Go.Ground.guard }], guard := some (10, true) }) (v := undef) rfl (by kernel_rfl) (by kernel_rfl) (by kernel_rfl) (fun _ _ _ h => h) (Or.inr ⟨by rfl, rfl⟩) (by assumption) ?_
            (try simp only [Act.put, List.setIfInBounds_toArray, List.set_cons_zero, List.set_cons_succ])
            refine wpAnyH_take (i := 14) (oi := { dst := some 52, op := Go.Op.call { callee := Go.Callee.value (Go.Operand.func 92), args := #[Go.Operand.tmp 49, Go.Operand.tmp 50, Go.Operand.tmp 51], argTypes := #[24, 24, 24] }, type := 3, pos := "spot.go:40", after := #[{ on := 11, ground := Go.Ground.data }, { on := 12, ground := Go.Ground.data }, { on := 13, ground := Go.Ground.data }, { on := 10, ground := Go.Ground.chain }, { on := 10, ground := Go.Ground.guard }], guard := some (10, true) }) (v := undef) rfl (by kernel_rfl) (by kernel_rfl) (by kernel_rfl) (fun _ _ _ h => h) (Or.inr ⟨by rfl, rfl⟩) (by assumption) ?_
            (try simp only [Act.put, List.setIfInBounds_toArray, List.set_cons_zero, List.set_cons_succ])
            refine wpAnyH_take (i := 15) (oi := { dst := some 53, op := Go.Op.load 24 (Go.Operand.tmp 6), type := 24, pos := "spot.go:40", after := #[{ on := 10, ground := Go.Ground.guard }], guard := some (10, true) }) (v := undef) rfl (by kernel_rfl) (by kernel_rfl) (by kernel_rfl) (fun _ _ _ h => h) (Or.inr ⟨by rfl, rfl⟩) (by assumption) ?_
            (try simp only [Act.put, List.setIfInBounds_toArray, List.set_cons_zero, List.set_cons_succ])
            refine wpAnyH_take (i := 16) (oi := { dst := some 54, op := Go.Op.load 24 (Go.Operand.tmp 7), type := 24, pos := "spot.go:40", after := #[{ on := 10, ground := Go.Ground.guard }], guard := some (10, true) }) (v := undef) rfl (by kernel_rfl) (by kernel_rfl) (by kernel_rfl) (fun _ _ _ h => h) (Or.inr ⟨by rfl, rfl⟩) (by assumption) ?_
            (try simp only [Act.put, List.setIfInBounds_toArray, List.set_cons_zero, List.set_cons_succ])
            refine wpAnyH_take (i := 17) (oi := { dst := some 55, op := Go.Op.load 24 (Go.Operand.tmp 5), type := 24, pos := "spot.go:40", after := #[{ on := 10, ground := Go.Ground.guard }], guard := some (10, true) }) (v := undef) rfl (by kernel_rfl) (by kernel_rfl) (by kernel_rfl) (fun _ _ _ h => h) (Or.inr ⟨by rfl, rfl⟩) (by assumption) ?_
            (try simp only [Act.put, List.setIfInBounds_toArray, List.set_cons_zero, List.set_cons_succ])
            refine wpAnyH_take (i := 18) (oi := { dst := some 56, op := Go.Op.call { callee := Go.Callee.value (Go.Operand.func 92), args := #[Go.Operand.tmp 53, Go.Operand.tmp 54, Go.Operand.tmp 55], argTypes := #[24, 24, 24] }, type := 3, pos := "spot.go:40", after := #[{ on := 15, ground := Go.Ground.data }, { on := 16, ground := Go.Ground.data }, { on := 17, ground := Go.Ground.data }, { on := 14, ground := Go.Ground.chain }, { on := 10, ground := Go.Ground.guard }], guard := some (10, true) }) (v := undef) rfl (by kernel_rfl) (by kernel_rfl) (by kernel_rfl) (fun _ _ _ h => h) (Or.inr ⟨by rfl, rfl⟩) (by assumption) ?_
            (try simp only [Act.put, List.setIfInBounds_toArray, List.set_cons_zero, List.set_cons_succ])
            refine wpAnyH_take (i := 19) (oi := { dst := some 57, op := Go.Op.binOp Go.BinOp.mul 3 (Go.Operand.tmp 52) (Go.Operand.tmp 56) 3, type := 3, pos := "spot.go:40", after := #[{ on := 14, ground := Go.Ground.data }, { on := 18, ground := Go.Ground.data }, { on := 10, ground := Go.Ground.guard }], guard := some (10, true) }) (v := undef) rfl (by kernel_rfl) (by kernel_rfl) (by kernel_rfl) (fun _ _ _ h => h) (Or.inr ⟨by rfl, rfl⟩) (by assumption) ?_
            (try simp only [Act.put, List.setIfInBounds_toArray, List.set_cons_zero, List.set_cons_succ])
            refine wpAnyH_take (i := 20) (oi := { dst := some 58, op := Go.Op.binOp Go.BinOp.leq 3 (Go.Operand.tmp 57) (Go.Operand.const (Go.Value.int Go.IntKind.i64 0)) 3, type := 4, pos := "spot.go:40", after := #[{ on := 19, ground := Go.Ground.data }, { on := 10, ground := Go.Ground.guard }], guard := some (10, true) }) (v := undef) rfl (by kernel_rfl) (by kernel_rfl) (by kernel_rfl) (fun _ _ _ h => h) (Or.inr ⟨by rfl, rfl⟩) (by assumption) ?_
            (try simp only [Act.put, List.setIfInBounds_toArray, List.set_cons_zero, List.set_cons_succ])
            refine wpAnyH_take (i := 21) (oi := { dst := some 59, op := Go.Op.pick (Go.Operand.tmp 48) (Go.Operand.tmp 58) (Go.Operand.const (Go.Value.bool false)), type := 4, pos := "spot.go:40", after := #[{ on := 10, ground := Go.Ground.data }, { on := 20, ground := Go.Ground.data }], guard := none }) (v := .bool false) rfl (by kernel_rfl) (by kernel_rfl) (by kernel_rfl) (fun _ _ _ h => h) (Or.inl ⟨by rfl, (by intro w0 hSw; (try dsimp only at hSw); go_simp)⟩) (by assumption) ?_
            (try simp only [Act.put, List.setIfInBounds_toArray, List.set_cons_zero, List.set_cons_succ])
            refine wpAnyH_take (i := 22) (oi := { dst := some 8, op := Go.Op.assign (Go.Operand.tmp 59), type := 4, pos := "spot.go:40", after := #[{ on := 21, ground := Go.Ground.data }, { on := 18, ground := Go.Ground.chain }, { on := 0, ground := Go.Ground.phase }, { on := 1, ground := Go.Ground.phase }, { on := 2, ground := Go.Ground.phase }, { on := 3, ground := Go.Ground.phase }, { on := 4, ground := Go.Ground.phase }, { on := 5, ground := Go.Ground.phase }, { on := 6, ground := Go.Ground.phase }, { on := 7, ground := Go.Ground.phase }, { on := 8, ground := Go.Ground.phase }, { on := 9, ground := Go.Ground.phase }, { on := 10, ground := Go.Ground.phase }, { on := 11, ground := Go.Ground.phase }, { on := 12, ground := Go.Ground.phase }, { on := 13, ground := Go.Ground.phase }, { on := 14, ground := Go.Ground.phase }, { on := 15, ground := Go.Ground.phase }, { on := 16, ground := Go.Ground.phase }, { on := 17, ground := Go.Ground.phase }, { on := 18, ground := Go.Ground.phase }, { on := 19, ground := Go.Ground.phase }, { on := 20, ground := Go.Ground.phase }, { on := 21, ground := Go.Ground.phase }], guard := none }) (v := .bool false) rfl (by kernel_rfl) (by kernel_rfl) (by kernel_rfl) (fun _ _ _ h => h) (Or.inl ⟨by rfl, (by intro w0 hSw; (try dsimp only at hSw); go_simp)⟩) (by assumption) ?_
            (try simp only [Act.put, List.setIfInBounds_toArray, List.set_cons_zero, List.set_cons_succ])
            refine wpAnyH_done (by kernel_rfl) ?_ _
            refine NoPanic.normal ?_
            go_wp2
            go_meet
            exact ⟨_, rfl, (by show _ = _; rw [g3]; rfl), hB3⟩
        case rest =>
          obtain ⟨t, rfl, ht, hB9⟩ := hcut
          have hBf := below_step hB1 hB9
          have hrt : Hid (r = t) := by show r = t; rw [HZ.out, ht.out]
          clear k0 k1 k2 k3 k4 k5 k6 k7 k8 k9 kA kB kC kD kE kF
          go_wp2
          go_ret
          exact ⟨congrArg (fun z => Ending.returned (.bool z)) hrt.out.symm, hBf⟩
end Go.Proofs.Ytaehfildhmljeaa
