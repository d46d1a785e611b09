/- The reference's Length of a valid curve; lists of numbers compared. -/
import Derived.Test.YtglkpabcflecmaaRPcs
import Derived.BigQuiet
namespace Go.Proofs.Ytglkpabcflecmaa
open Go.RowKit Go.Shelf

set_option maxHeartbeats 4000000 in
theorem rlength_good (b off cap : Nat) (c : Crv) (hg : Good c) (w : World) (hp : Pts w b off c.n c.X c.Y) :
    Calls Try.prog 23 #[cv b off c.n cap] w fun e w' => e = .returned (.int .i64 (c.st (c.n - 1))) ∧ Below w.heap.size w w' := by
  obtain ⟨hn, hn', hok, _⟩ := id hg
  have hb := hp.lt (by omega)
  have hB : Below w.heap.size w (w.alloc (.cells #[.slice (some ⟨b, off, none⟩) c.n cap] 24)) := (Below.refl _ w).alloc (Nat.le_refl _) _
  have HC := Lib.hid (rpieces_good b off cap c hg _ (hp.below hB hb))
  go_enter Try.func23, Try.ntmps23
  go_wp2_with (go_at_call 26; (with_reducible refine HC.out.mono ?_); rintro e w1 ⟨g, cap1, rfl, hI, hb1⟩; replace hB := below_step hB hb1; have HI := Lib.hid hI; clear hI)
  clear HC
  go_loopw [3, 5] (fun u i wr => ∃ k : Nat, k ≤ c.n - 1 ∧ u = .int .i64 (c.st k) ∧ i = .int .i64 k ∧ Below w.heap.size w wr ∧ Hid (Ints wr g (c.n - 1) c.len)) (fun _ i _ => c.n - (intOf i).toNat)
  case atStart => exact ⟨0, Nat.zero_le _, rfl, rfl, hB, HI⟩
  case round =>
    clear hB HI
    obtain ⟨k, hk, rfl, rfl, hB, HI⟩ := hrel
    by_cases hlt : k < c.n - 1
    · have c0 := HI.out k hlt
      have i1 : (0 : Int) ≤ (k : Int) := Int.natCast_nonneg _
      have i2 : (k : Int) < ((c.n - 1 : Nat) : Int) := by omega
      have hst := Lib.hid (st_wrap hok (k := k) (by omega) hn')
      go_wp2
      go_roundw
      case rel => exact ⟨k + 1, by omega, by rw [← hst.out], by go_num, by
        repeat (first | exact hB | exact ⟨hB, HI⟩ | exact HI)⟩
      case measure => simp [intOf]; omega
    · obtain rfl : k = c.n - 1 := by omega
      go_wp2
      go_ret
      exact ⟨rfl, hB⟩

/-- SameLongs of two lists of the same numbers. -/
def Longs (w : World) (A : Option Addr) (n : Nat) (f : Nat → Int) : Prop := n = 0 ∨ ∃ g, A = some ⟨g, 0, none⟩ ∧ Ints w g n f

set_option maxHeartbeats 4000000 in
theorem same_longs (g1 g2 n c1 c2 : Nat) (f : Nat → Int) (w : World) (hn : n ≤ 1000000) (h1 : Ints w g1 n f) (h2 : Ints w g2 n f) :
    Calls Try.prog 24 #[.slice (some ⟨g1, 0, none⟩) n c1, .slice (some ⟨g2, 0, none⟩) n c2] w fun e w' => e = .returned (.bool true) ∧ Below w.heap.size w w' := by
  have H1 := Lib.hid h1
  have H2 := Lib.hid h2
  clear h1 h2
  go_enter Try.func24, Try.ntmps24
  go_wp2
  go_loopw [5] (fun i wr => ∃ k : Nat, k ≤ n ∧ i = .int .i64 k ∧ Below w.heap.size w wr ∧ Hid (Ints wr g1 n f) ∧ Hid (Ints wr g2 n f)) (fun i _ => n - (intOf i).toNat)
  case atStart => exact ⟨0, Nat.zero_le _, rfl, Below.refl _ _, H1, H2⟩
  case round =>
    clear H1 H2
    obtain ⟨k, hk, rfl, hB, H1, H2⟩ := hrel
    by_cases hlt : k < n
    · have c0 := H1.out k hlt
      have c1' := H2.out k hlt
      have i1 : (0 : Int) ≤ (k : Int) := Int.natCast_nonneg _
      have i2 : (k : Int) < (n : Int) := by omega
      go_wp2_with fail
      go_quiet (fail)
      go_wp2
      go_roundw
      case rel => exact ⟨k + 1, by omega, by go_num, below_drewN hB _, H1, H2⟩
      case measure => simp [intOf]; omega
    · obtain rfl : k = n := by omega
      go_wp2
      go_ret
      exact ⟨rfl, hB⟩

set_option maxHeartbeats 4000000 in
theorem same_longs_nil (w : World) :
    Calls Try.prog 24 #[.slice none 0 0, .slice none 0 0] w fun e w' => e = .returned (.bool true) ∧ Below w.heap.size w w' := by
  go_enter Try.func24, Try.ntmps24
  go_wp2
  go_loopw [5] (fun i wr => i = .int .i64 0 ∧ Below w.heap.size w wr) (fun _ _ => 0)
  case atStart => exact ⟨rfl, Below.refl _ _⟩
  case round =>
    obtain ⟨rfl, hB⟩ := hrel
    go_wp2
    go_ret
    exact ⟨rfl, hB⟩
end Go.Proofs.Ytglkpabcflecmaa
