/- floor and mod of numbers, and checkGrid. -/
import Derived.Test.YtaehfildhmljeaaBd
import Derived.Test.YtaehfildhmljeaaChkC
namespace Go.Proofs.Ytaehfildhmljeaa
open Go.RowKit Go.Shelf

/-- What checkGrid returns. -/
def gridF (n : Nat) (X Y V : Nat → Int) (size : Int) : Int := if chkF n X Y V ≠ 0 then chkF n X Y V else if 1 ≤ size ∧ size ≤ 16777216 then 0 else 2
set_option maxHeartbeats 2000000 in
theorem grid_any (A : Option Addr) (n cap : Nat) (X Y V : Nat → Int) (size : Int) (w : World) (hcl : Cloud w A n X Y V) :
    Calls Try.prog 65 #[.slice A n cap, .int .i64 size] w fun e w' => e = .returned (.int .i64 (gridF n X Y V size)) ∧ Below w.heap.size w w' := by
  have HK := Lib.hid (check_any A n cap X Y V w hcl)
  clear hcl
  by_cases hok : chkF n X Y V = 0
  · by_cases h : 1 ≤ size ∧ size ≤ 16777216
    · have HE : Hid (gridF n X Y V size = 0) := Lib.hid (by unfold gridF; rw [hok, if_neg (by simp), if_pos h])
      have HV := Lib.hid (fun W => vsize_any size true (by simp [h]) W)
      rw [hok] at HK
      clear hok h
      go_enter Try.func65, Try.ntmps65
      go_wp2_with (first
        | (go_at_call 22; (with_reducible refine HK.out.mono ?_); rintro e w1 ⟨rfl, hb1⟩)
        | (go_at_call 81; (with_reducible refine (HV.out _).mono ?_); rintro e w2 ⟨rfl, hb2⟩))
      go_ret
      exact ⟨by rw [HE.out]; rfl, below_step hb1 hb2⟩
    · have HE : Hid (gridF n X Y V size = 2) := Lib.hid (by unfold gridF; rw [hok, if_neg (by simp), if_neg h])
      have HV := Lib.hid (fun W => vsize_any size false (by simp [h]) W)
      rw [hok] at HK
      clear hok h
      go_enter Try.func65, Try.ntmps65
      go_wp2_with (first
        | (go_at_call 22; (with_reducible refine HK.out.mono ?_); rintro e w1 ⟨rfl, hb1⟩)
        | (go_at_call 81; (with_reducible refine (HV.out _).mono ?_); rintro e w2 ⟨rfl, hb2⟩))
      go_ret
      exact ⟨by rw [HE.out]; rfl, below_step hb1 hb2⟩
  · have HE : Hid (gridF n X Y V size = chkF n X Y V) := Lib.hid (by unfold gridF; rw [if_pos hok])
    rw [HE.out]
    obtain ⟨z, hz⟩ : ∃ z, z = chkF n X Y V := ⟨_, rfl⟩
    rw [← hz] at HK hok ⊢
    clear hz HE
    go_enter Try.func65, Try.ntmps65
    go_wp2_with (go_at_call 22; (with_reducible refine HK.out.mono ?_); rintro e w1 ⟨rfl, hb1⟩)
    go_ret
    exact ⟨rfl, hb1⟩
end Go.Proofs.Ytaehfildhmljeaa
