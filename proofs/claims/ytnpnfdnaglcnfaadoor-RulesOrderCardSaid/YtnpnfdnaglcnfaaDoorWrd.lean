/- The words of the operators; the operator of a word. -/
import Derived.Test.YtnpnfdnaglcnfaaDoorSml
namespace Go.Proofs.YtnpnfdnaglcnfaaDoor
open Go.RowKit Go.Shelf

/-- The word of an operator. -/
def wdB (op : Int) : ByteArray :=
  if op = 1 then ⟨#[116, 114, 117, 101]⟩ else if op = 2 then ⟨#[108, 101]⟩ else if op = 3 then ⟨#[110, 111, 116]⟩ else if op = 4 then ⟨#[97, 110, 100]⟩ else if op = 5 then ⟨#[111, 114]⟩
  else if op = 6 then ⟨#[97, 108, 119, 97, 121, 115]⟩ else if op = 7 then ⟨#[115, 111, 109, 101]⟩ else if op = 8 then ⟨#[117, 110, 116, 105, 108]⟩ else ⟨#[]⟩
set_option maxHeartbeats 1000000 in
theorem word_any (op : Int) (w : World) : Calls Tryd.prog 63 #[iv op] w fun e w' => e = .returned (.string (wdB op)) ∧ w' = w := by
  go_enter Tryd.func63, Tryd.ntmps63
  go_wp2
  all_goals go_ret
  all_goals (refine ⟨?_, rfl⟩)
  all_goals simp_all [wdB]
set_option maxRecDepth 100000 in
set_option maxHeartbeats 2000000 in
/-- The operator of a word that is one. -/
theorem oper_ok (s : ByteArray) (k : Nat) (h1 : 1 ≤ k) (h8 : k ≤ 8) (hk : wdB k = s) (hn : ∀ j : Nat, 1 ≤ j → j < k → ((wdB j).toList == s.toList) = false) (w : World) : Calls Tryd.prog 95 #[.string s] w fun e w' => e = .returned (iv k) ∧ w' = w := by
  have HK := Lib.hid hk
  have HN := Lib.hid hn
  clear hk hn
  go_enter Tryd.func95, Tryd.ntmps95
  go_wp2
  go_loopw [3] (fun i wr => ∃ j : Nat, 1 ≤ j ∧ j ≤ k ∧ i = iv j ∧ Hid (wr = w)) (fun i _ => 9 - (intOf i).toNat)
  case atStart => exact ⟨1, Nat.le_refl _, h1, rfl, Lib.hid rfl⟩
  case round =>
    obtain ⟨j, hj1, hj2, rfl, hw⟩ := hrel
    have j8 : (j : Int) ≤ 8 := by omega
    have j0 : (0 : Int) ≤ (j : Int) := Int.natCast_nonneg _
    by_cases hj : j = k
    · subst hj
      have HW := Lib.hid (fun W => word_any j W)
      have hk := HK.out
      rw [hk] at HW
      clear hk
      go_wp2_with (go_at_call 63; (with_reducible refine (HW.out _).mono ?_); rintro e wb ⟨rfl, hw2⟩; obtain rfl := hw2.symm)
      go_ret
      exact ⟨rfl, hw.out⟩
    · have HW := Lib.hid (fun W => word_any j W)
      have hne := HN.out j hj1 (by omega)
      generalize wdB j = z at *
      go_wp2_with (go_at_call 63; (with_reducible refine (HW.out _).mono ?_); rintro e wb ⟨rfl, hw2⟩; obtain rfl := hw2.symm)
      exact ⟨⟨j + 1, by omega, by omega, by go_num, hw⟩, by simp [intOf]; omega⟩
end Go.Proofs.YtnpnfdnaglcnfaaDoor
