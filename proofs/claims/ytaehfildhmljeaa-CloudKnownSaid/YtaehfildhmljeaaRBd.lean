/- The reference's Bound: the same number. -/
import Derived.Test.YtaehfildhmljeaaBd
namespace Go.Proofs.Ytaehfildhmljeaa
open Go.RowKit Go.Shelf

theorem bndP_mono {s a b : Nat} (h : a ≤ b) (hp : bndP s a = true) : bndP s b = true := by
  unfold bndP at *
  rw [decide_eq_true_iff] at *
  exact Nat.le_trans hp (Nat.mul_le_mul h h)
/-- What the search between i and j finds: the first that is so, where some is. -/
theorem srch_spec (s : Nat) : ∀ (f i j : Nat), j - i ≤ f → i ≤ j → (∀ k, k < i → bndP s k = false) → bndP s j = true → (∀ k, k < srch (bndP s) i j → bndP s k = false) ∧ bndP s (srch (bndP s) i j) = true := by
  intro f
  induction f with
  | zero =>
    intro i j h1 h2 h3 h4
    have : i = j := by omega
    subst this
    rw [srch_end (Nat.le_refl _)]
    exact ⟨h3, h4⟩
  | succ f ih =>
    intro i j h1 h2 h3 h4
    by_cases h : i < j
    · cases hp : bndP s ((i + j) / 2) with
      | true => rw [srch_yes h hp]; exact ih i ((i + j) / 2) (by omega) (by omega) h3 hp
      | false =>
        rw [srch_no h hp]
        refine ih ((i + j) / 2 + 1) j (by omega) (by omega) (fun k hk => ?_) h4
        cases hq : bndP s k with
        | false => rfl
        | true => rw [bndP_mono (show k ≤ (i + j) / 2 by omega) hq] at hp; cases hp
    · have : i = j := by omega
      subst this
      rw [srch_end (Nat.le_refl _)]
      exact ⟨h3, h4⟩
theorem bndP_two (s t : Nat) (h : 2 * s ≤ t) : bndP s t = true := by
  refine bndP_mono h ?_
  unfold bndP
  rw [decide_eq_true_iff, Nat.mul_assoc, Nat.mul_assoc]
  exact Nat.mul_le_mul_left 2 (Nat.mul_le_mul_left s (by omega))
theorem srch_same (s t : Nat) (h : 2 * s ≤ t) : srch (bndP s) 0 t = srch (bndP s) 0 (2 * s) := by
  obtain ⟨a1, a2⟩ := srch_spec s t 0 t (by omega) (by omega) (fun k hk => absurd hk (by omega)) (bndP_two s t h)
  obtain ⟨b1, b2⟩ := srch_spec s (2 * s) 0 (2 * s) (by omega) (by omega) (fun k hk => absurd hk (by omega)) (bndP_two s _ (Nat.le_refl _))
  rcases Nat.lt_trichotomy (srch (bndP s) 0 t) (srch (bndP s) 0 (2 * s)) with h1 | h1 | h1
  · rw [b1 _ h1] at a2; cases a2
  · exact h1
  · rw [a1 _ h1] at b2; cases b2

theorem sized_any (size : Int) (r : Bool) (hr : r = decide (1 ≤ size ∧ size ≤ 16777216)) (w : World) :
    Calls Try.prog 69 #[.int .i64 size] w fun e w' => e = .returned (.bool r) ∧ Below w.heap.size w w' := by
  by_cases h1 : 1 ≤ size
  · by_cases h2 : size ≤ 16777216
    · have hr' : r = true := by rw [hr]; simp [h1, h2]
      subst hr'
      clear hr
      go_enter Try.func69, Try.ntmps69
      go_wp2
      go_ret
      exact ⟨rfl, Below.refl _ _⟩
    · have hr' : r = false := by rw [hr]; simp [h2]
      subst hr'
      clear hr
      go_enter Try.func69, Try.ntmps69
      go_wp2
      go_ret
      exact ⟨rfl, Below.refl _ _⟩
  · have hr' : r = false := by rw [hr]; simp [h1]
    subst hr'
    clear hr
    go_enter Try.func69, Try.ntmps69
    go_wp2
    go_ret
    exact ⟨rfl, Below.refl _ _⟩

set_option maxRecDepth 100000 in
set_option maxHeartbeats 8000000 in
theorem rbound_any (size : Int) (w : World) :
    Calls Try.prog 40 #[.int .i64 size] w fun e w' => e = .returned (.int .i64 (bndF size)) ∧ Below w.heap.size w w' := by
  by_cases h : 1 ≤ size ∧ size ≤ 16777216
  · have HV := Lib.hid (fun W => sized_any size true (by simp [h]) W)
    obtain ⟨s, hs⟩ : ∃ s : Nat, s = (size - 1).toNat := ⟨_, rfl⟩
    have he : size = (s : Int) + 1 := by omega
    have hs1 : s ≤ 16777215 := by omega
    have HE : Hid (bndF size = ((srch (bndP s) 0 33554432 : Nat) : Int)) := Lib.hid (by unfold bndF; rw [if_pos h, ← hs, srch_same s 33554432 (by omega)])
    subst he
    clear hs h
    have s0 : (0 : Int) ≤ (s : Int) := Int.natCast_nonneg _
    go_enter Try.func40, Try.ntmps40
    go_wp2_with (go_at_call 69; (with_reducible refine (HV.out _).mono ?_); rintro e w1 ⟨rfl, hb1⟩)
    have HB1 := Lib.hid hb1
    clear hb1
    go_loopw [3, 4] (fun iv jv wr => ∃ i j : Nat, i ≤ j ∧ j ≤ 33554432 ∧ iv = .int .i64 i ∧ jv = .int .i64 j ∧ Hid (srch (bndP s) i j = srch (bndP s) 0 33554432) ∧ Hid (Below w.heap.size w wr)) (fun iv jv _ => (intOf jv).toNat - (intOf iv).toNat)
    case atStart => exact ⟨0, 33554432, by omega, by omega, rfl, rfl, Lib.hid rfl, HB1⟩
    case round =>
      clear HB1
      obtain ⟨i, j, hij, hjn, rfl, rfl, HS, HB⟩ := hrel
      by_cases h : i < j
      · have h' : (i : Int) < (j : Int) := by omega
        obtain ⟨m, hm⟩ : ∃ m, m = (i + j) / 2 := ⟨_, rfl⟩
        have hmi : ((i : Int) + (j : Int)).tdiv 2 = (m : Int) := by rw [Int.tdiv_eq_ediv_of_nonneg (by omega)]; omega
        have hmj : m < j := by omega
        have him : i ≤ m := by omega
        have HR1 : Hid (bndP s m = true → srch (bndP s) i m = srch (bndP s) 0 33554432) := Lib.hid (fun h1 => by rw [← HS.out, srch_yes h (by rw [← hm]; exact h1), hm])
        have HR2 : Hid (bndP s m = false → srch (bndP s) (m + 1) j = srch (bndP s) 0 33554432) := Lib.hid (fun h1 => by rw [← HS.out, srch_no h (by rw [← hm]; exact h1), hm])
        clear hm HS
        have m0 : (0 : Int) ≤ (m : Int) := Int.natCast_nonneg _
        have hmb : (m : Int) ≤ 33554432 := by omega
        have b1 : (0 : Int) ≤ (m : Int) * (m : Int) := Int.mul_nonneg m0 m0
        have b2 : (m : Int) * (m : Int) ≤ 33554432 * 33554432 := Int.mul_le_mul hmb hmb m0 (by omega)
        have b3 : (0 : Int) ≤ 2 * (s : Int) * (s : Int) := Int.mul_nonneg (by omega) s0
        have b4 : 2 * (s : Int) * (s : Int) ≤ 33554432 * 16777216 := Int.mul_le_mul (by omega) (by omega) s0 (by omega)
        have e1 : wrap64 ((m : Int) * (m : Int)) = (m : Int) * (m : Int) := by unfold wrap64; omega
        have e2 : wrap64 (2 * (s : Int) * (s : Int)) = 2 * (s : Int) * (s : Int) := by unfold wrap64; omega
        have hv : bndP s m = decide (2 * (s : Int) * (s : Int) ≤ (m : Int) * (m : Int)) := by
          unfold bndP
          rw [Bool.eq_iff_iff, decide_eq_true_iff, decide_eq_true_iff]
          constructor
          · intro h; exact_mod_cast h
          · intro h; exact_mod_cast h
        by_cases hc : 2 * (s : Int) * (s : Int) ≤ (m : Int) * (m : Int)
        · have HG := Lib.hid (HR1.out (by rw [hv]; exact decide_eq_true hc))
          have hc2 : wrap64 (2 * (s : Int) * (s : Int)) ≤ wrap64 ((m : Int) * (m : Int)) := by rw [e1, e2]; exact hc
          clear HR1 HR2 hv b1 b2 b3 b4 e1 e2 hc
          go_wp2
          go_roundw
          case rel => exact ⟨i, m, by omega, by omega, rfl, rfl, HG, HB⟩
          case measure => simp [intOf]; omega
        · have HG := Lib.hid (HR2.out (by rw [hv]; exact decide_eq_false hc))
          have hc2 : ¬ wrap64 (2 * (s : Int) * (s : Int)) ≤ wrap64 ((m : Int) * (m : Int)) := by rw [e1, e2]; exact hc
          clear HR1 HR2 hv b1 b2 b3 b4 e1 e2 hc
          go_wp2
          go_roundw
          case rel => exact ⟨m + 1, j, by omega, by omega, by go_num, rfl, HG, HB⟩
          case measure => simp [intOf]; omega
      · have h' : ¬ (i : Int) < (j : Int) := by omega
        have hs : srch (bndP s) 0 33554432 = i := by rw [← HS.out]; exact srch_end (by omega)
        have HQ := Lib.hid hs
        clear hs
        go_wp2
        go_ret
        exact ⟨by rw [HE.out, HQ.out]; rfl, HB.out⟩
  · have HV := Lib.hid (fun W => sized_any size false (by simp [h]) W)
    have HE : Hid (bndF size = 0) := Lib.hid (by unfold bndF; rw [if_neg h])
    clear h
    go_enter Try.func40, Try.ntmps40
    go_wp2_with (go_at_call 69; (with_reducible refine (HV.out _).mono ?_); rintro e w1 ⟨rfl, hb1⟩)
    go_ret
    exact ⟨by rw [HE.out]; rfl, hb1⟩
end Go.Proofs.Ytaehfildhmljeaa
