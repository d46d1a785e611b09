/- The program's Eval. -/
import Derived.Test.YtnpnfdnaglcnfaaDoorVf
namespace Go.Proofs.YtnpnfdnaglcnfaaDoor
open Go.RowKit Go.Shelf

/-- What Eval returns. -/
def evR (L : List Nd) (x : Int) (t : List (List Int)) (i : Int) : Value := .tuple #[iv (evV L x t i), iv (evE L x t i)]
set_option maxRecDepth 100000 in
set_option maxHeartbeats 8000000 in
theorem eval_any (A : Option Addr) (cap : Nat) (L : List Nd) (x : Int) (B : Option Addr) (cb : Nat) (t : List (List Int)) (i : Int) (w : World) (hi : i ≤ 9223372036854775807) (hsh : Short t) (hA : NdsL w A L) (hB : RowsL w B t) :
    Calls Tryd.prog 29 #[.slice A L.length cap, iv x, .slice B t.length cb, iv i] w fun e w' => e = .returned (evR L x t i) ∧ Below w.heap.size w w' := by
  have HC := Lib.hid (check_any A cap L x w hA)
  have HT := Lib.hid (fun W (hW : Below w.heap.size w W) => trace_any B cb t x W hsh (hB.below hW))
  have HV : Hid (∀ W, Below w.heap.size w W → chkE L x = 0 → trE t x = 0 → Calls Tryd.prog 53 #[.slice A L.length cap, .slice B t.length cb] W fun e w' => ∃ v, e = .returned v ∧ LineAt w' v t.length (vdsF t L) ∧ Below W.heap.size W w') :=
    Lib.hid (fun W hW h1 h2 => verdicts_any A cap L B cb t x W (by unfold chkE at h1; split at h1 <;> omega) h2 (hA.below hW) (hB.below hW))
  have HL : Hid (trE t x = 0 → t.length ≤ 400) := Lib.hid (fun h => (trE_rows h).2.1)
  have HR : Hid (evR L x t i = .tuple #[iv (if chkE L x ≠ 0 then 0 else if trE t x ≠ 0 then 0 else if i < 0 then 0 else atL t.length (vdsF t L) i.toNat), iv (if chkE L x ≠ 0 then chkE L x else if trE t x ≠ 0 then trE t x else if i < 0 then 2 else 0)]) := Lib.hid (by
    unfold evR evV evE
    by_cases h1 : chkE L x = 0
    · by_cases h2 : trE t x = 0
      · by_cases h3 : i < 0
        · simp [h1, h2, h3]
        · simp [h1, h2, h3, atL]
      · simp [h1, h2]
    · simp [h1])
  generalize evR L x t i = R at *
  obtain ⟨N, hN⟩ : ∃ N, N = L.length := ⟨_, rfl⟩
  rw [← hN] at HC HV ⊢
  generalize chkE L x = c at *
  obtain ⟨T, hT⟩ : ∃ T, T = t.length := ⟨_, rfl⟩
  rw [← hT] at HT HV HL HR ⊢
  generalize trE t x = e at *
  generalize vdsF t L = F at *
  clear hA hB hsh hN hT
  by_cases h1 : c = 0
  · subst h1
    by_cases h2 : e = 0
    · subst h2
      have hTl : T ≤ 400 := HL.out rfl
      have HV2 := Lib.hid (fun W hW => HV.out W hW rfl rfl)
      clear HV HL
      by_cases h3 : i < 0
      · have HR2 : Hid (R = .tuple #[iv 0, iv 2]) := Lib.hid (by rw [HR.out]; simp [h3])
        go_enter Tryd.func29, Tryd.ntmps29
        go_wp2_with (first
          | (go_at_call 14; (with_reducible refine HC.out.mono ?_); rintro e w1 ⟨rfl, hb1⟩)
          | (go_at_call 18; (with_reducible refine (HT.out _ hb1).mono ?_); rintro e w2 ⟨rfl, hb2⟩))
        refine bodyPost_ret (v := R) (by rw [HR2.out]; simp [results, Tryd.results29, go_sem]) rfl ⟨rfl, below_step hb1 hb2⟩
      · have h4 : 0 ≤ i := by omega
        obtain ⟨j, rfl⟩ : ∃ j : Nat, i = j := ⟨i.toNat, by omega⟩
        have HR2 : Hid (R = .tuple #[iv (atL T F j), iv 0]) := Lib.hid (by rw [HR.out]; simp [h3])
        go_enter Tryd.func29, Tryd.ntmps29
        go_wp2_with (first
          | (go_at_call 14; (with_reducible refine HC.out.mono ?_); rintro e w1 ⟨rfl, hb1⟩)
          | (go_at_call 18; (with_reducible refine (HT.out _ hb1).mono ?_); rintro e w2 ⟨rfl, hb2⟩)
          | (go_at_call 53; (with_reducible refine (HV2.out _ (below_step hb1 hb2)).mono ?_); rintro e w3 ⟨v, rfl, hv3, hb3⟩)
          | (go_at_call 54; (with_reducible refine (at_any v T j F _ (by omega) (by omega) hv3).mono ?_); rintro e w4 ⟨rfl, hw⟩; obtain rfl := hw.symm))
        refine bodyPost_ret (v := R) (by rw [HR2.out]; simp [results, Tryd.results29, go_sem]) rfl ⟨rfl, below_step (below_step hb1 hb2) hb3⟩
    · have HR2 : Hid (R = .tuple #[iv 0, iv e]) := Lib.hid (by rw [HR.out]; simp [h2])
      go_enter Tryd.func29, Tryd.ntmps29
      go_wp2_with (first
        | (go_at_call 14; (with_reducible refine HC.out.mono ?_); rintro e w1 ⟨rfl, hb1⟩)
        | (go_at_call 18; (with_reducible refine (HT.out _ hb1).mono ?_); rintro e w2 ⟨rfl, hb2⟩))
      refine bodyPost_ret (v := R) (by rw [HR2.out]; simp [results, Tryd.results29, go_sem]) rfl ⟨rfl, below_step hb1 hb2⟩
  · have HR2 : Hid (R = .tuple #[iv 0, iv c]) := Lib.hid (by rw [HR.out]; simp [h1])
    go_enter Tryd.func29, Tryd.ntmps29
    go_wp2_with (go_at_call 14; (with_reducible refine HC.out.mono ?_); rintro e w1 ⟨rfl, hb1⟩)
    refine bodyPost_ret (v := R) (by rw [HR2.out]; simp [results, Tryd.results29, go_sem]) rfl ⟨rfl, hb1⟩
end Go.Proofs.YtnpnfdnaglcnfaaDoor
