/- The mathematics of PlanValid: profiles of a valid queue are valid, and begin with it. -/
import Derived.Test.YtcoccfijikiamaaPstM
import Derived.Test.YtcoccfijikiamaaStops
namespace Go.Proofs.Ytcoccfijikiamaa

theorem chn_app {r : Int} : ∀ (l m : List Int) (a : Int), chn r (a :: l) = true → chn r (lst a l :: m) = true → chn r (a :: (l ++ m)) = true
  | [], _, _, _, h => h
  | x :: l, m, a, h1, h2 => by
    have h3 : (decide (a - r ≤ x ∧ x ≤ a + r) && chn r (x :: l)) = true := h1
    rw [Bool.and_eq_true] at h3
    exact chn_cons (by simpa using h3.1) (chn_app l m x h3.2 h2)
theorem chn_tail {r a : Int} : ∀ l : List Int, chn r (a :: l) = true → chn r l = true
  | [], _ => rfl
  | x :: l, h => by
    have h3 : (decide (a - r ≤ x ∧ x ≤ a + r) && chn r (x :: l)) = true := h
    rw [Bool.and_eq_true] at h3
    exact h3.2
theorem lst_all {c : Car} {a : Int} (h1 : inB c a = true) : ∀ l : List Int, l.all (inB c) = true → inB c (lst a l) = true
  | [], _ => h1
  | x :: l, h => by
    rw [List.all_cons, Bool.and_eq_true] at h
    exact lst_all h.1 l h.2
theorem inB_iff {c : Car} {a : Int} : inB c a = true ↔ -c.brk ≤ a ∧ a ≤ c.acc := by unfold inB; simp
theorem inB_rmp {c : Car} (h : c.ok) (a w : Int) : inB c (rmp c a w) = true := inB_iff.2 (rmp_in h a w)
/-- A queue that is valid behind an act. -/
def QOk (c : Car) (la : Int) (q : List Int) : Prop := inB c la = true ∧ q.all (inB c) = true ∧ chn c.rate (la :: q) = true ∧ q.length ≤ 5
theorem rmps_chnB {c : Car} (h : c.ok) (w : Int) (n : Nat) {a : Int} (ha : inB c a = true) : chn c.rate (a :: rmps c w n a) = true := by
  obtain ⟨h1, h2⟩ := inB_iff.1 ha
  exact rmps_chn h w n a h1 h2
/-- A plan that a profile gives. -/
def Good (c : Car) (q : List Int) (la v : Int) (p : List Int) : Prop := ∃ U V n, U ≤ 20 ∧ V ≤ 20 ∧ IsStop c (lst la (prf c q la U V)) (clp (vel v (prf c q la U V)) 0 2000) n ∧ p = prf c q la U V ++ rmps c (-c.brk) n (lst la (prf c q la U V))
theorem good_ok {c : Car} (hc : c.ok) {q p : List Int} {la v : Int} (hq : QOk c la q) (h : Good c q la v p) : chkP c p = 0 ∧ q.length ≤ p.length ∧ p.take q.length = q ∧ ∃ x, p[0]? = some x ∧ la - c.rate ≤ x ∧ x ≤ la + c.rate := by
  obtain ⟨U, V, n, hU, hV, hn, rfl⟩ := h
  obtain ⟨q1, q2, q3, q4⟩ := hq
  have hq5 : q.take 5 = q := List.take_of_length_le q4
  unfold prf at hn ⊢
  rw [hq5] at hn ⊢
  have i0 := lst_all q1 q q2
  have a1 := rmps_all hc c.acc U (lst la q)
  have c1 := rmps_chnB hc c.acc U i0
  have l1 := rmps_len c c.acc U (lst la q)
  generalize rmps c c.acc U (lst la q) = r1 at *
  have e1 : lst la (q ++ r1) = lst (lst la q) r1 := lst_app2 la q r1
  have i1 := lst_all i0 r1 a1
  rw [← e1] at i1
  have a2 := rmps_all hc 0 V (lst la (q ++ r1))
  have c2 := rmps_chnB hc 0 V i1
  have l2 := rmps_len c 0 V (lst la (q ++ r1))
  generalize rmps c 0 V (lst la (q ++ r1)) = r2 at *
  have e2 : lst la (q ++ r1 ++ r2) = lst (lst la (q ++ r1)) r2 := lst_app2 la (q ++ r1) r2
  have i2 := lst_all i1 r2 a2
  rw [← e2] at i2
  have a3 := rmps_all hc (-c.brk) n (lst la (q ++ r1 ++ r2))
  have c3 := rmps_chnB hc (-c.brk) n i2
  have l3 := rmps_len c (-c.brk) n (lst la (q ++ r1 ++ r2))
  have hls : lst (lst la (q ++ r1 ++ r2)) (rmps c (-c.brk) n (lst la (q ++ r1 ++ r2))) ≤ 0 := isStop_last hc (by unfold clp; omega) (by unfold clp; omega) hn
  have n1 := hn.1
  have n2 := hn.2.1
  generalize rmps c (-c.brk) n (lst la (q ++ r1 ++ r2)) = r3 at *
  have cc : chn c.rate (la :: (q ++ r1 ++ r2 ++ r3)) = true := chn_app _ _ _ (chn_app _ _ _ (chn_app _ _ _ q3 c1) c2) c3
  have ca : (q ++ r1 ++ r2 ++ r3).all (inB c) = true := by simp only [List.all_append, q2, a1, a2, a3, Bool.and_true]
  have cl : lst 0 (q ++ r1 ++ r2 ++ r3) ≤ 0 := by
    rw [lst_ne 0 la _ (by simp only [List.length_append]; omega), lst_app2]
    exact hls
  refine ⟨chkP_ok hc (by simp only [List.length_append]; omega) (by simp only [List.length_append]; omega) ca cl (chn_tail _ cc), by simp only [List.length_append]; omega, ?_, ?_⟩
  · rw [List.append_assoc, List.append_assoc, List.take_left']
    rfl
  · have hl : 0 < (q ++ r1 ++ r2 ++ r3).length := by simp only [List.length_append]; omega
    generalize q ++ r1 ++ r2 ++ r3 = L at *
    match L, hl, cc with
    | x :: L, _, h =>
      have h3 : (decide (la - c.rate ≤ x ∧ x ≤ la + c.rate) && chn c.rate (x :: L)) = true := h
      rw [Bool.and_eq_true] at h3
      exact ⟨x, rfl, by simpa using h3.1⟩
end Go.Proofs.Ytcoccfijikiamaa
