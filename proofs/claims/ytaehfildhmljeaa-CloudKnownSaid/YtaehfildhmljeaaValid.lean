/- 'valid' over a list of spots. -/
import Derived.Test.YtaehfildhmljeaaAid
namespace Go.Proofs.Ytaehfildhmljeaa
open Go.RowKit

/-- n spots lie in block b from offset off on. -/
def Pts (w : World) (b off n : Nat) (X Y : Nat → Int) : Prop :=
  ∀ i, i < n → w.cell? ⟨b, off + i * 2, none⟩ = some (.int .i64 (X i)) ∧ w.cell? ⟨b, off + i * 2 + 1, none⟩ = some (.int .i64 (Y i))
theorem Pts.below {B : Nat} {w w' : World} {b off n : Nat} {X Y : Nat → Int} (h : Pts w b off n X Y) (hb : Below B w w') (hlt : b < B) : Pts w' b off n X Y :=
  fun i hi => ⟨(hb.cell (p := ⟨b, off + i * 2, none⟩) hlt).trans (h i hi).1, (hb.cell (p := ⟨b, off + i * 2 + 1, none⟩) hlt).trans (h i hi).2⟩
theorem Pts.lt {w : World} {b off n : Nat} {X Y : Nat → Int} (h : Pts w b off n X Y) (hn : 0 < n) : b < w.heap.size := World.block_lt_of_cell? w _ (h 0 hn).1

set_option maxHeartbeats 800000 in
theorem valid_yes (b off n cap : Nat) (X Y : Nat → Int) (w : World) (hp : Pts w b off n X Y) (hb : b < w.heap.size) (hn : n ≤ 1000000) (hok : ∀ i, i < n → okc (X i) ∧ okc (Y i)) :
    Calls Try.prog 108 #[.slice (some ⟨b, off, none⟩) n cap] w fun e w' => e = .returned (.bool true) ∧ Below w.heap.size w w' := by
  go_enter Try.func108, Try.ntmps108
  go_wp2
  go_loopw [7] (fun i wr => ∃ k : Nat, k ≤ n ∧ i = .int .i64 k ∧ Below w.heap.size w wr) (fun i _ => n - (intOf i).toNat)
  case atStart => exact ⟨0, Nat.zero_le _, rfl, Below.refl _ _⟩
  case round =>
    obtain ⟨k, hk, rfl, hB⟩ := hrel
    have hsz := hB.size
    by_cases hlt : k < n
    · obtain ⟨hx, hy⟩ := (hp.below hB hb) k hlt
      obtain ⟨⟨x1, x2⟩, ⟨y1, y2⟩⟩ := hok k hlt
      go_wp2
      go_roundw
      case rel => exact ⟨k + 1, by omega, by go_num, by
        repeat (first | exact hB | refine Below.setCell ?_ (by first | omega | (simp; omega) | simp) _ | refine Below.alloc ?_ (by first | omega | (simp; omega) | simp) _)⟩
      case measure => simp [intOf]; omega
    · go_wp2
      go_ret
      exact ⟨rfl, hB⟩
set_option maxHeartbeats 1600000 in
theorem valid_no (b off n cap : Nat) (X Y : Nat → Int) (w : World) (hp : Pts w b off n X Y) (hb : b < w.heap.size) (hn : n ≤ 1000000) (j : Nat) (hj : j < n) (hbad : ¬ (okc (X j) ∧ okc (Y j))) :
    Calls Try.prog 108 #[.slice (some ⟨b, off, none⟩) n cap] w fun e w' => e = .returned (.bool false) ∧ Below w.heap.size w w' := by
  have HB := Lib.hid hbad
  clear hbad
  go_enter Try.func108, Try.ntmps108
  go_wp2
  go_loopw [7] (fun i wr => ∃ k : Nat, k ≤ j ∧ i = .int .i64 k ∧ Below w.heap.size w wr) (fun i _ => n - (intOf i).toNat)
  case atStart => exact ⟨0, Nat.zero_le _, rfl, Below.refl _ _⟩
  case round =>
    obtain ⟨k, hk, rfl, hB⟩ := hrel
    have hsz := hB.size
    have hlt : k < n := by omega
    obtain ⟨hx, hy⟩ := (hp.below hB hb) k hlt
    by_cases x1 : X k < -16777216
    · go_wp2
      go_ret
      exact ⟨rfl, by
        repeat (first | exact hB | refine Below.setCell ?_ (by first | omega | (simp; omega) | simp) _ | refine Below.alloc ?_ (by first | omega | (simp; omega) | simp) _)⟩
    by_cases x2 : X k > 16777216
    · go_wp2
      go_ret
      exact ⟨rfl, by
        repeat (first | exact hB | refine Below.setCell ?_ (by first | omega | (simp; omega) | simp) _ | refine Below.alloc ?_ (by first | omega | (simp; omega) | simp) _)⟩
    by_cases y1 : Y k < -16777216
    · go_wp2
      go_ret
      exact ⟨rfl, by
        repeat (first | exact hB | refine Below.setCell ?_ (by first | omega | (simp; omega) | simp) _ | refine Below.alloc ?_ (by first | omega | (simp; omega) | simp) _)⟩
    by_cases y2 : Y k > 16777216
    · go_wp2
      go_ret
      exact ⟨rfl, by
        repeat (first | exact hB | refine Below.setCell ?_ (by first | omega | (simp; omega) | simp) _ | refine Below.alloc ?_ (by first | omega | (simp; omega) | simp) _)⟩
    have hkj : k < j := by
      rcases Nat.lt_or_ge k j with h | h
      · exact h
      · obtain rfl : k = j := by omega
        exact absurd ⟨⟨by omega, by omega⟩, ⟨by omega, by omega⟩⟩ HB.out
    go_wp2
    go_roundw
    case rel => exact ⟨k + 1, by omega, by go_num, by
        repeat (first | exact hB | refine Below.setCell ?_ (by first | omega | (simp; omega) | simp) _ | refine Below.alloc ?_ (by first | omega | (simp; omega) | simp) _)⟩
    case measure => simp [intOf]; omega

/-- No spot at all. -/
theorem valid_nil (A : Option Addr) (cap : Nat) (w : World) :
    Calls Try.prog 108 #[.slice A 0 cap] w fun e w' => e = .returned (.bool true) ∧ Below w.heap.size w w' := by
  go_enter Try.func108, Try.ntmps108
  go_wp2
  go_loopw [7] (fun i wr => i = .int .i64 0 ∧ Below w.heap.size w wr) (fun _ _ => 0)
  case atStart => exact ⟨rfl, Below.refl _ _⟩
  case round =>
    obtain ⟨rfl, hB⟩ := hrel
    go_wp2
    go_ret
    exact ⟨rfl, hB⟩
end Go.Proofs.Ytaehfildhmljeaa
