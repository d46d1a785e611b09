/- Bound. -/
import Derived.Test.YtaehfildhmljeaaSrch
namespace Go.Proofs.Ytaehfildhmljeaa
open Go.RowKit Go.Shelf

def bndP (s k : Nat) : Bool := decide (2 * s * s ≤ k * k)
/-- Bound of any size. -/
def bndF (size : Int) : Int := if 1 ≤ size ∧ size ≤ 16777216 then ((srch (bndP (size - 1).toNat) 0 (2 * (size - 1).toNat) : Nat) : Int) else 0
theorem bnd_1000 : bndF 1000 = 1413 := by decide +kernel

theorem vsize_any (size : Int) (r : Bool) (hr : r = decide (1 ≤ size ∧ size ≤ 16777216)) (w : World) :
    Calls Try.prog 81 #[.int .i64 size] w fun e w' => e = .returned (.bool r) ∧ Below w.heap.size w w' := by
  by_cases h1 : 1 ≤ size
  · by_cases h2 : size ≤ 16777216
    · have hr' : r = true := by rw [hr]; simp [h1, h2]
      subst hr'
      clear hr
      go_enter Try.func81, Try.ntmps81
      go_wp2
      go_ret
      exact ⟨rfl, Below.refl _ _⟩
    · have hr' : r = false := by rw [hr]; simp [h2]
      subst hr'
      clear hr
      go_enter Try.func81, Try.ntmps81
      go_wp2
      go_ret
      exact ⟨rfl, Below.refl _ _⟩
  · have hr' : r = false := by rw [hr]; simp [h1]
    subst hr'
    clear hr
    go_enter Try.func81, Try.ntmps81
    go_wp2
    go_ret
    exact ⟨rfl, Below.refl _ _⟩

theorem bclo_any (s k L : Nat) (hs : s ≤ 16777215) (hk : k ≤ 33554432) (w : World) (hb : BoxAt w L 2 #[.int .i64 (s : Int)]) :
    Calls Try.prog 83 #[.int .i64 (k : Int), .pointer (some ⟨L, 0, none⟩)] w fun e w' => e = .returned (.bool (bndP s k)) ∧ Below w.heap.size w w' := by
  have c0 : w.cell? ⟨L, 0, none⟩ = some (.int .i64 (s : Int)) := hb.cell 0
  have l1 := hb.lt
  have s0 : (0 : Int) ≤ (s : Int) := Int.natCast_nonneg _
  have k0 : (0 : Int) ≤ (k : Int) := Int.natCast_nonneg _
  have b1 : (0 : Int) ≤ (k : Int) * (k : Int) := Int.mul_nonneg k0 k0
  have b2 : (k : Int) * (k : Int) ≤ 33554432 * 33554432 := Int.mul_le_mul (by omega) (by omega) k0 (by omega)
  have b3 : (0 : Int) ≤ 2 * (s : Int) * (s : Int) := Int.mul_nonneg (by omega) s0
  have b4 : 2 * (s : Int) * (s : Int) ≤ 33554432 * 16777216 := Int.mul_le_mul (by omega) (by omega) s0 (by omega)
  have e1 : wrap64 ((k : Int) * (k : Int)) = (k : Int) * (k : Int) := by unfold wrap64; omega
  have e2 : wrap64 (2 * (s : Int) * (s : Int)) = 2 * (s : Int) * (s : Int) := by unfold wrap64; omega
  have hv : decide (wrap64 (2 * (s : Int) * (s : Int)) ≤ wrap64 ((k : Int) * (k : Int))) = bndP s k := by
    rw [e1, e2]
    unfold bndP
    rw [Bool.eq_iff_iff, decide_eq_true_iff, decide_eq_true_iff]
    constructor
    · intro h; exact_mod_cast h
    · intro h; exact_mod_cast h
  have HV := Lib.hid hv
  clear hv hb b1 b2 b3 b4 e1 e2
  go_enter Try.func83, Try.ntmps83
  go_wp2
  go_ret
  exact ⟨congrArg (fun b => Ending.returned (.bool b)) HV.out, Below.refl _ _⟩

set_option maxRecDepth 100000 in
set_option maxHeartbeats 8000000 in
theorem bound_any (size : Int) (w : World) :
    Calls Try.prog 39 #[.int .i64 size] w fun e w' => e = .returned (.int .i64 (bndF size)) ∧ Below w.heap.size w w' := by
  by_cases h : 1 ≤ size ∧ size ≤ 16777216
  · have HV := Lib.hid (fun W => vsize_any size true (by simp [h]) W)
    obtain ⟨s, hs⟩ : ∃ s : Nat, s = (size - 1).toNat := ⟨_, rfl⟩
    have he : size = (s : Int) + 1 := by omega
    have hs1 : s ≤ 16777215 := by omega
    have HE : Hid (bndF size = ((srch (bndP s) 0 (2 * s) : Nat) : Int)) := Lib.hid (by unfold bndF; rw [if_pos h, ← hs])
    subst he
    clear hs h
    have s0 : (0 : Int) ≤ (s : Int) := Int.natCast_nonneg _
    obtain ⟨t, ht⟩ : ∃ t : Nat, t = 2 * s := ⟨_, rfl⟩
    have EN : Hid ((2 : Int) * (s : Int) = (t : Int)) := Lib.hid (by omega)
    have ht1 : t ≤ 33554432 := by omega
    rw [← ht] at HE
    clear ht
    have HS := Lib.hid (fun (W : World) (L : Nat) (hb : BoxAt W L 2 #[.int .i64 (s : Int)]) (hl : L < W.heap.size) => search_any (bndP s) t L ht1 W (fun k hk W' hW => bclo_any s k L hs1 (by omega) W' (hb.below hW hl)))
    go_enter Try.func39, Try.ntmps39
    go_wp2_with (first
      | (go_at_call 81; (with_reducible refine (HV.out _).mono ?_); rintro e w1 ⟨rfl, hb1⟩)
      | (go_at_call 82; rw [EN.out]; (with_reducible refine (HS.out _ _ (BoxAt.new _ _ _) (by simp)).mono ?_); rintro e w2 ⟨rfl, hb2⟩))
    go_ret
    exact ⟨by rw [HE.out]; rfl, below_step2 hb1 hb2⟩
  · have HV := Lib.hid (fun W => vsize_any size false (by simp [h]) W)
    have HE : Hid (bndF size = 0) := Lib.hid (by unfold bndF; rw [if_neg h])
    clear h
    go_enter Try.func39, Try.ntmps39
    go_wp2_with (go_at_call 81; (with_reducible refine (HV.out _).mono ?_); rintro e w1 ⟨rfl, hb1⟩)
    go_ret
    exact ⟨by rw [HE.out]; rfl, hb1⟩

end Go.Proofs.Ytaehfildhmljeaa
