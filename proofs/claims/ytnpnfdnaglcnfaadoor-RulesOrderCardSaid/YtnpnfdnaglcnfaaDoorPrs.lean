/- Parse of a text that is one; the chapter's examples that every statement asks. -/
import Derived.Test.YtnpnfdnaglcnfaaDoorRdw
import Derived.Test.YtnpnfdnaglcnfaaDoorEvl
namespace Go.Proofs.YtnpnfdnaglcnfaaDoor
open Go.RowKit Go.Shelf

set_option maxRecDepth 100000 in
theorem of_ok (s : ByteArray) (N : Nat) (q : Nat → Nat) (op : Nat → Nat) (x : Nat → Nat → Int) (ht : Txt s N q op x) (hc : chkE (ndsT op x N) 12 = 0) (w : World) (hE : Env w) :
    Calls Tryd.prog 39 #[.string s] w fun e w' => ∃ A c, e = .returned (.slice A N c) ∧ NdsL w' A (ndsT op x N) ∧ Below w.heap.size w w' := by
  have HR := Lib.hid (read_ok s N q op x ht w hE)
  have HC : Hid (∀ A c W, NdsL W A (ndsT op x N) → Calls Tryd.prog 14 #[.slice A N c, iv 12] W fun e w' => e = .returned (iv 0) ∧ Below W.heap.size W w') := Lib.hid (fun A c W h => by
    have h2 := check_any A c (ndsT op x N) 12 W h
    rw [hc, ndsT_len] at h2
    exact h2)
  have HP : Hid (Calls Tryd.prog 37 #[.string s] w fun e w' => ∃ A c, e = .returned (.tuple #[.slice A N c, iv 0]) ∧ NdsL w' A (ndsT op x N) ∧ Below w.heap.size w w') := Lib.hid (by
    clear hE hc ht
    go_enter Tryd.func37, Tryd.ntmps37
    go_wp2_with (first
      | (go_at_call 67; (with_reducible refine HR.out.mono ?_); rintro e w1 ⟨A, c, rfl, hA, hb1⟩)
      | (go_at_call 14; (with_reducible refine (HC.out A c _ hA).mono ?_); rintro e w2 ⟨rfl, hb2⟩))
    exact bodyPost_ret (v := .tuple #[.slice A N c, iv 0]) (by simp [results, Tryd.results37, go_sem]) rfl ⟨_, _, rfl, hA.below hb2, below_step hb1 hb2⟩)
  clear hE hc ht HR HC
  go_enter Tryd.func39, Tryd.ntmps39
  go_wp2_with (go_at_call 37; (with_reducible refine HP.out.mono ?_); rintro e w1 ⟨A, c, rfl, hA, hb1⟩)
  go_ret
  exact ⟨_, _, rfl, hA, hb1⟩

/- The two texts. -/
def tA : ByteArray := ⟨#[97, 108, 119, 97, 121, 115, 32, 48, 32, 50, 32, 108, 101, 32, 48, 32, 45, 49, 32, 53]⟩
def tU : ByteArray := ⟨#[117, 110, 116, 105, 108, 32, 48, 32, 52, 32, 116, 114, 117, 101, 32, 108, 101, 32, 48, 32, 45, 49, 32, 49]⟩
def qA : Nat → Nat | 0 => 0 | 1 => 3 | _ => 7
def oA : Nat → Nat | 0 => 6 | _ => 2
def xA : Nat → Nat → Int | 0, 0 => 0 | 0, _ => 2 | _, 0 => 0 | _, 1 => -1 | _, _ => 5
def qU : Nat → Nat | 0 => 0 | 1 => 3 | 2 => 4 | _ => 8
def oU : Nat → Nat | 0 => 8 | 1 => 1 | _ => 2
def xU : Nat → Nat → Int | 0, 0 => 0 | 0, _ => 4 | 1, _ => 0 | _, 0 => 0 | _, 1 => -1 | _, _ => 1
theorem rst_none {s : ByteArray} {n : Nat} (h : (rst s n).data = #[]) : ∀ k, (rst s (n + k)).data = #[]
  | 0 => h
  | k + 1 => by
    have ih := rst_none h k
    show (cutR (rst s (n + k))).data = #[]
    unfold cutR
    rw [ih]
    rfl
theorem ba_nil {s : ByteArray} (h : s.data = #[]) : s = ⟨#[]⟩ := by
  cases s with
  | mk d =>
    have : d = #[] := h
    rw [this]
theorem txA : Txt tA 2 qA oA xA where
  pos := by decide
  le := by decide
  q0 := rfl
  qs := by decide
  sz := fun p => by
    by_cases h : p < 7
    · have : ∀ p, p < 7 → (rst tA p).size ≤ 1000 ∧ (cutH (rst tA p)).size ≤ 1000 := by decide +kernel
      exact this p h
    · obtain ⟨k, rfl⟩ : ∃ k, p = 7 + k := ⟨p - 7, by omega⟩
      have hz := rst_none (s := tA) (n := 7) (by decide +kernel) k
      rw [ba_nil hz]
      decide
  o1 := by decide
  wd := by decide +kernel
  wn := fun j hj i h1 h2 => (show ∀ j, j < 2 → ∀ i : Nat, i < oA j → 1 ≤ i → ((wdB i).toList == (cutH (rst tA (qA j))).toList) = false by decide +kernel) j hj i h2 h1
  num := by decide +kernel
  bd := by decide +kernel
  wr := by decide +kernel
  mo := by decide +kernel
theorem txU : Txt tU 3 qU oU xU where
  pos := by decide
  le := by decide
  q0 := rfl
  qs := by decide
  sz := fun p => by
    by_cases h : p < 8
    · have : ∀ p, p < 8 → (rst tU p).size ≤ 1000 ∧ (cutH (rst tU p)).size ≤ 1000 := by decide +kernel
      exact this p h
    · obtain ⟨k, rfl⟩ : ∃ k, p = 8 + k := ⟨p - 8, by omega⟩
      have hz := rst_none (s := tU) (n := 8) (by decide +kernel) k
      rw [ba_nil hz]
      decide
  o1 := by decide
  wd := by decide +kernel
  wn := fun j hj i h1 h2 => (show ∀ j, j < 3 → ∀ i : Nat, i < oU j → 1 ≤ i → ((wdB i).toList == (cutH (rst tU (qU j))).toList) = false by decide +kernel) j hj i h2 h1
  num := by decide +kernel
  bd := by decide +kernel
  wr := by decide +kernel
  mo := by decide +kernel
theorem chA : chkE (ndsT oA xA 2) 12 = 0 := by decide +kernel
theorem chU : chkE (ndsT oU xU 3) 12 = 0 := by decide +kernel
theorem hrU : hrzF (ndsT oU xU 3) = 4 := by decide +kernel
theorem evA1 : evR (ndsT oA xA 2) 1 [[3], [4]] 0 = .tuple #[iv 2, iv 0] := by
  have h1 : evV (ndsT oA xA 2) 1 [[3], [4]] 0 = 2 := by decide +kernel
  have h2 : evE (ndsT oA xA 2) 1 [[3], [4]] 0 = 0 := by decide +kernel
  unfold evR
  rw [h1, h2]
theorem evA2 : evR (ndsT oA xA 2) 1 [[3], [9]] 0 = .tuple #[iv 0, iv 0] := by
  have h1 : evV (ndsT oA xA 2) 1 [[3], [9]] 0 = 0 := by decide +kernel
  have h2 : evE (ndsT oA xA 2) 1 [[3], [9]] 0 = 0 := by decide +kernel
  unfold evR
  rw [h1, h2]
end Go.Proofs.YtnpnfdnaglcnfaaDoor
