/- sort.Search, and Bound. Bound. -/
import Derived.Test.YtaehfildhmljeaaAid
namespace Go.Proofs.Ytaehfildhmljeaa
open Go.RowKit Go.Shelf

/-- The search between i and j, with so many rounds at most. -/
def srchF (p : Nat → Bool) : Nat → Nat → Nat → Nat
  | 0, i, _ => i
  | f + 1, i, j => if i < j then (if p ((i + j) / 2) then srchF p f i ((i + j) / 2) else srchF p f ((i + j) / 2 + 1) j) else i
theorem srchF_fuel (p : Nat → Bool) : ∀ (f g i j : Nat), j - i ≤ f → j - i ≤ g → srchF p f i j = srchF p g i j := by
  intro f
  induction f with
  | zero =>
    intro g i j h1 h2
    cases g with
    | zero => rfl
    | succ g =>
      show i = _
      unfold srchF
      rw [if_neg (by omega)]
  | succ f ih =>
    intro g i j h1 h2
    cases g with
    | zero =>
      show _ = i
      unfold srchF
      rw [if_neg (by omega)]
    | succ g =>
      unfold srchF
      by_cases h : i < j
      · rw [if_pos h, if_pos h]
        split
        · exact ih g _ _ (by omega) (by omega)
        · exact ih g _ _ (by omega) (by omega)
      · rw [if_neg h, if_neg h]
/-- The search between i and j. -/
def srch (p : Nat → Bool) (i j : Nat) : Nat := srchF p (j - i) i j
theorem srch_yes {p : Nat → Bool} {i j : Nat} (h : i < j) (hp : p ((i + j) / 2) = true) : srch p i j = srch p i ((i + j) / 2) := by
  unfold srch
  obtain ⟨f, hf⟩ : ∃ f, j - i = f + 1 := ⟨j - i - 1, by omega⟩
  rw [hf]
  show (if i < j then (if p ((i + j) / 2) then srchF p f i ((i + j) / 2) else srchF p f ((i + j) / 2 + 1) j) else i) = _
  rw [if_pos h, if_pos hp]
  exact srchF_fuel p _ _ _ _ (by omega) (by omega)
theorem srch_no {p : Nat → Bool} {i j : Nat} (h : i < j) (hp : p ((i + j) / 2) = false) : srch p i j = srch p ((i + j) / 2 + 1) j := by
  unfold srch
  obtain ⟨f, hf⟩ : ∃ f, j - i = f + 1 := ⟨j - i - 1, by omega⟩
  rw [hf]
  show (if i < j then (if p ((i + j) / 2) then srchF p f i ((i + j) / 2) else srchF p f ((i + j) / 2 + 1) j) else i) = _
  rw [if_pos h, if_neg (by simp [hp])]
  exact srchF_fuel p _ _ _ _ (by omega) (by omega)
theorem srch_end {p : Nat → Bool} {i j : Nat} (h : j ≤ i) : srch p i j = i := by
  unfold srch
  rw [show j - i = 0 by omega]
  rfl
theorem srch_bd (p : Nat → Bool) : ∀ (f i j : Nat), j - i ≤ f → i ≤ j → i ≤ srch p i j ∧ srch p i j ≤ j := by
  intro f
  induction f with
  | zero => intro i j h1 h2; rw [srch_end (by omega)]; omega
  | succ f ih =>
    intro i j h1 h2
    by_cases h : i < j
    · cases hp : p ((i + j) / 2) with
      | true => rw [srch_yes h hp]; have := ih i ((i + j) / 2) (by omega) (by omega); omega
      | false => rw [srch_no h hp]; have := ih ((i + j) / 2 + 1) j (by omega) (by omega); omega
    · rw [srch_end (by omega)]; omega

set_option maxRecDepth 100000 in
set_option maxHeartbeats 8000000 in
/-- **sort.Search**, over a function that captures one variable. -/
theorem search_any (p : Nat → Bool) (n L : Nat) (hn : n ≤ 33554432) (w : World)
    (HP : ∀ k, k < n → ∀ W, Below w.heap.size w W → Calls Try.prog 83 #[.int .i64 k, .pointer (some ⟨L, 0, none⟩)] W fun e w' => e = .returned (.bool (p k)) ∧ Below W.heap.size W w') :
    Calls Try.prog 82 #[.int .i64 n, .func (.func 83) #[] #[.pointer (some ⟨L, 0, none⟩)]] w fun e w' => e = .returned (.int .i64 (srch p 0 n)) ∧ Below w.heap.size w w' := by
  have HPP := Lib.hid HP
  clear HP
  have I : ∃ i j : Nat, i ≤ j ∧ j ≤ n ∧ (Value.int .i64 0) = .int .i64 i ∧ (Value.int .i64 n) = .int .i64 j ∧ Hid (srch p i j = srch p 0 n) ∧ Hid (Below w.heap.size w w) := ⟨0, n, by omega, by omega, rfl, rfl, Lib.hid rfl, Lib.hid (Below.refl _ _)⟩
  go_enter Try.func82, Try.ntmps82
  go_wp2
  go_loopw [5, 6] (fun iv jv wr => ∃ i j : Nat, i ≤ j ∧ j ≤ n ∧ iv = .int .i64 i ∧ jv = .int .i64 j ∧ Hid (srch p i j = srch p 0 n) ∧ Hid (Below w.heap.size w wr)) (fun iv jv _ => (intOf jv).toNat - (intOf iv).toNat)
  case atStart => exact I
  case round =>
    clear I
    obtain ⟨i, j, hij, hjn, rfl, rfl, HS, HB⟩ := hrel
    by_cases h : i < j
    · have h' : (i : Int) < (j : Int) := by omega
      obtain ⟨m, hm⟩ : ∃ m, m = (i + j) / 2 := ⟨_, rfl⟩
      have hmi : ((i : Int) + (j : Int)) / 2 = (m : Int) := by omega
      have hmj : m < j := by omega
      have him : i ≤ m := by omega
      obtain ⟨t, ht⟩ : ∃ t, t = p m := ⟨_, rfl⟩
      have HC := Lib.hid (HPP.out m (by omega) wr HB.out)
      rw [← ht] at HC
      have HR : Hid ((t = true → srch p i m = srch p 0 n) ∧ (t = false → srch p (m + 1) j = srch p 0 n)) := by
        refine ⟨fun h1 => ?_, fun h1 => ?_⟩
        · rw [← HS.out, srch_yes h (by rw [← hm, ← ht, h1]), hm]
        · rw [← HS.out, srch_no h (by rw [← hm, ← ht, h1]), hm]
      clear hm ht HPP HS
      go_upto_region 4 with fail
      clear hmi
      cases t with
      | true =>
        have HR1 := Lib.hid (HR.out.1 rfl)
        clear HR
        go_wp2_with (go_at_call 83; (with_reducible refine HC.out.mono ?_); rintro e w1 ⟨rfl, hb1⟩)
        go_roundw
        case rel => exact ⟨i, m, by omega, by omega, rfl, rfl, HR1, Lib.hid (below_step HB.out hb1)⟩
        case measure => simp [intOf]; omega
      | false =>
        have HR1 := Lib.hid (HR.out.2 rfl)
        clear HR
        go_wp2_with (go_at_call 83; (with_reducible refine HC.out.mono ?_); rintro e w1 ⟨rfl, hb1⟩)
        go_roundw
        case rel => exact ⟨m + 1, j, by omega, by omega, by go_num, rfl, HR1, Lib.hid (below_step HB.out hb1)⟩
        case measure => simp [intOf]; omega
    · have h' : ¬ (i : Int) < (j : Int) := by omega
      have hs : srch p 0 n = i := by rw [← HS.out]; exact srch_end (by omega)
      go_wp2
      go_ret
      exact ⟨by simp, HB.out⟩
end Go.Proofs.Ytaehfildhmljeaa
namespace Go.Proofs.Ytaehfildhmljeaa
open Go.RowKit Go.Shelf


end Go.Proofs.Ytaehfildhmljeaa

namespace Go.Proofs.Ytaehfildhmljeaa
open Go.RowKit Go.Shelf

def bndP (s k : Nat) : Bool := decide (2 * s * s ≤ k * k)
/-- Bound of any size. -/
def bndF (size : Int) : Int := if 1 ≤ size ∧ size ≤ 16777216 then ((srch (bndP (size - 1).toNat) 0 (2 * (size - 1).toNat) : Nat) : Int) else 0
theorem bnd_1000 : bndF 1000 = 1413 := by decide +kernel

theorem vsize_any (size : Int) (r : Bool) (hr : r = decide (1 ≤ size ∧ size ≤ 16777216)) (w : World) :
    Calls Try.prog 81 #[.int .i64 size] w fun e w' => e = .returned (.bool r) ∧ Below w.heap.size w w' := by
  by_cases h1 : 1 ≤ size
  · by_cases h2 : size ≤ 16777216
    · have hr' : r = true := by rw [hr]; simp [h1, h2]
      subst hr'
      clear hr
      go_enter Try.func81, Try.ntmps81
      go_wp2
      go_ret
      exact ⟨rfl, Below.refl _ _⟩
    · have hr' : r = false := by rw [hr]; simp [h2]
      subst hr'
      clear hr
      go_enter Try.func81, Try.ntmps81
      go_wp2
      go_ret
      exact ⟨rfl, Below.refl _ _⟩
  · have hr' : r = false := by rw [hr]; simp [h1]
    subst hr'
    clear hr
    go_enter Try.func81, Try.ntmps81
    go_wp2
    go_ret
    exact ⟨rfl, Below.refl _ _⟩

theorem bclo_any (s k L : Nat) (hs : s ≤ 16777215) (hk : k ≤ 33554432) (w : World) (hb : BoxAt w L 2 #[.int .i64 (s : Int)]) :
    Calls Try.prog 83 #[.int .i64 (k : Int), .pointer (some ⟨L, 0, none⟩)] w fun e w' => e = .returned (.bool (bndP s k)) ∧ Below w.heap.size w w' := by
  have c0 : w.cell? ⟨L, 0, none⟩ = some (.int .i64 (s : Int)) := hb.cell 0
  have l1 := hb.lt
  have s0 : (0 : Int) ≤ (s : Int) := Int.natCast_nonneg _
  have k0 : (0 : Int) ≤ (k : Int) := Int.natCast_nonneg _
  have b1 : (0 : Int) ≤ (k : Int) * (k : Int) := Int.mul_nonneg k0 k0
  have b2 : (k : Int) * (k : Int) ≤ 33554432 * 33554432 := Int.mul_le_mul (by omega) (by omega) k0 (by omega)
  have b3 : (0 : Int) ≤ 2 * (s : Int) * (s : Int) := Int.mul_nonneg (by omega) s0
  have b4 : 2 * (s : Int) * (s : Int) ≤ 33554432 * 16777216 := Int.mul_le_mul (by omega) (by omega) s0 (by omega)
  have e1 : wrap64 ((k : Int) * (k : Int)) = (k : Int) * (k : Int) := by unfold wrap64; omega
  have e2 : wrap64 (2 * (s : Int) * (s : Int)) = 2 * (s : Int) * (s : Int) := by unfold wrap64; omega
  have hv : decide (wrap64 (2 * (s : Int) * (s : Int)) ≤ wrap64 ((k : Int) * (k : Int))) = bndP s k := by
    rw [e1, e2]
    unfold bndP
    rw [Bool.eq_iff_iff, decide_eq_true_iff, decide_eq_true_iff]
    constructor
    · intro h; exact_mod_cast h
    · intro h; exact_mod_cast h
  have HV := Lib.hid hv
  clear hv hb b1 b2 b3 b4 e1 e2
  go_enter Try.func83, Try.ntmps83
  go_wp2
  go_ret
  exact ⟨congrArg (fun b => Ending.returned (.bool b)) HV.out, Below.refl _ _⟩

set_option maxRecDepth 100000 in
set_option maxHeartbeats 8000000 in
theorem bound_any (size : Int) (w : World) :
    Calls Try.prog 39 #[.int .i64 size] w fun e w' => e = .returned (.int .i64 (bndF size)) ∧ Below w.heap.size w w' := by
  by_cases h : 1 ≤ size ∧ size ≤ 16777216
  · have HV := Lib.hid (fun W => vsize_any size true (by simp [h]) W)
    obtain ⟨s, hs⟩ : ∃ s : Nat, s = (size - 1).toNat := ⟨_, rfl⟩
    have he : size = (s : Int) + 1 := by omega
    have hs1 : s ≤ 16777215 := by omega
    have HE : Hid (bndF size = ((srch (bndP s) 0 (2 * s) : Nat) : Int)) := Lib.hid (by unfold bndF; rw [if_pos h, ← hs])
    subst he
    clear hs h
    have s0 : (0 : Int) ≤ (s : Int) := Int.natCast_nonneg _
    obtain ⟨t, ht⟩ : ∃ t : Nat, t = 2 * s := ⟨_, rfl⟩
    have EN : Hid ((2 : Int) * (s : Int) = (t : Int)) := Lib.hid (by omega)
    have ht1 : t ≤ 33554432 := by omega
    rw [← ht] at HE
    clear ht
    have HS := Lib.hid (fun (W : World) (L : Nat) (hb : BoxAt W L 2 #[.int .i64 (s : Int)]) (hl : L < W.heap.size) => search_any (bndP s) t L ht1 W (fun k hk W' hW => bclo_any s k L hs1 (by omega) W' (hb.below hW hl)))
    go_enter Try.func39, Try.ntmps39
    go_wp2_with (first
      | (go_at_call 81; (with_reducible refine (HV.out _).mono ?_); rintro e w1 ⟨rfl, hb1⟩)
      | (go_at_call 82; rw [EN.out]; (with_reducible refine (HS.out _ _ (BoxAt.new _ _ _) (by simp)).mono ?_); rintro e w2 ⟨rfl, hb2⟩))
    go_ret
    exact ⟨by rw [HE.out]; rfl, below_step2 hb1 hb2⟩
  · have HV := Lib.hid (fun W => vsize_any size false (by simp [h]) W)
    have HE : Hid (bndF size = 0) := Lib.hid (by unfold bndF; rw [if_neg h])
    clear h
    go_enter Try.func39, Try.ntmps39
    go_wp2_with (go_at_call 81; (with_reducible refine (HV.out _).mono ?_); rintro e w1 ⟨rfl, hb1⟩)
    go_ret
    exact ⟨by rw [HE.out]; rfl, hb1⟩

end Go.Proofs.Ytaehfildhmljeaa
