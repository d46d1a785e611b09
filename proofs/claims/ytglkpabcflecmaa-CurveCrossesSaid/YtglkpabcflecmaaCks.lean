/- Length and Pieces of any curve, by the program and by the reference; lists compared. -/
import Derived.Test.YtglkpabcflecmaaOwn
namespace Go.Proofs.Ytglkpabcflecmaa
open Go.RowKit Go.Shelf

open Classical in
noncomputable def lenF (c : Crv) : Int := if chkF c = 0 then c.st (c.n - 1) else 0
open Classical in
noncomputable def pcN (c : Crv) : Nat := if chkF c = 0 then c.n - 1 else 0
/-- A list of m numbers, wherever it lies. -/
def Lst (w : World) (A : Option Addr) (m : Nat) (f : Nat → Int) : Prop := 0 < m → ∃ g, A = some ⟨g, 0, none⟩ ∧ Ints w g m f
theorem Lst.below {w w' : World} {A : Option Addr} {m : Nat} {f : Nat → Int} (h : Lst w A m f) (hb : Below w.heap.size w w') : Lst w' A m f := fun hm => by
  obtain ⟨g, e, hi⟩ := h hm
  exact ⟨g, e, hi.below hb⟩

theorem len_any (A : Option Addr) (cap : Nat) (c : Crv) (w : World) (h : Spots w A c.n c.X c.Y) :
    Calls Try.prog 22 #[.agg #[.slice A c.n cap]] w fun e w' => e = .returned (.int .i64 (lenF c)) ∧ Below w.heap.size w w' := by
  unfold lenF
  by_cases hz : chkF c = 0
  · rw [if_pos hz]
    have hg := good_of hz
    obtain ⟨b, off, rfl, hp⟩ := h (by have := hg.lo; omega)
    exact length_good b off cap c hg w hp
  · rw [if_neg hz]; exact length_bad A cap c w h hz
theorem rlen_any (A : Option Addr) (cap : Nat) (c : Crv) (w : World) (h : Spots w A c.n c.X c.Y) :
    Calls Try.prog 23 #[.agg #[.slice A c.n cap]] w fun e w' => e = .returned (.int .i64 (lenF c)) ∧ Below w.heap.size w w' := by
  unfold lenF
  by_cases hz : chkF c = 0
  · rw [if_pos hz]
    have hg := good_of hz
    obtain ⟨b, off, rfl, hp⟩ := h (by have := hg.lo; omega)
    exact rlength_good b off cap c hg w hp
  · rw [if_neg hz]; exact rlength_bad A cap c w h hz
theorem pcs_any (A : Option Addr) (cap : Nat) (c : Crv) (w : World) (h : Spots w A c.n c.X c.Y) :
    Calls Try.prog 25 #[.agg #[.slice A c.n cap]] w fun e w' => ∃ B cap', e = .returned (.slice B (pcN c) cap') ∧ Lst w' B (pcN c) c.len ∧ Below w.heap.size w w' := by
  unfold pcN
  by_cases hz : chkF c = 0
  · rw [if_pos hz]
    have hg := good_of hz
    obtain ⟨b, off, rfl, hp⟩ := h (by have := hg.lo; omega)
    refine (pieces_good b off cap c hg w hp).mono ?_
    rintro e w' ⟨g, cap', rfl, hi, hb⟩
    exact ⟨_, cap', rfl, fun _ => ⟨g, rfl, hi⟩, hb⟩
  · rw [if_neg hz]
    refine (pieces_bad A cap c w h hz).mono ?_
    rintro e w' ⟨rfl, hb⟩
    exact ⟨none, 0, rfl, fun h => absurd h (by omega), hb⟩
theorem rpcs_any (A : Option Addr) (cap : Nat) (c : Crv) (w : World) (h : Spots w A c.n c.X c.Y) :
    Calls Try.prog 26 #[.agg #[.slice A c.n cap]] w fun e w' => ∃ B cap', e = .returned (.slice B (pcN c) cap') ∧ Lst w' B (pcN c) c.len ∧ Below w.heap.size w w' := by
  unfold pcN
  by_cases hz : chkF c = 0
  · rw [if_pos hz]
    have hg := good_of hz
    obtain ⟨b, off, rfl, hp⟩ := h (by have := hg.lo; omega)
    refine (rpieces_good b off cap c hg w hp).mono ?_
    rintro e w' ⟨g, cap', rfl, hi, hb⟩
    exact ⟨_, cap', rfl, fun _ => ⟨g, rfl, hi⟩, hb⟩
  · rw [if_neg hz]
    refine (rpieces_bad A cap c w h hz).mono ?_
    rintro e w' ⟨rfl, hb⟩
    exact ⟨none, 0, rfl, fun h => absurd h (by omega), hb⟩
theorem pcN_le (c : Crv) : pcN c ≤ 16 := by
  unfold pcN
  by_cases hz : chkF c = 0
  · rw [if_pos hz]; have := (good_of hz).hi; omega
  · rw [if_neg hz]; omega

set_option maxHeartbeats 4000000 in
theorem same_longs_none (A B : Option Addr) (c1 c2 : Nat) (w : World) :
    Calls Try.prog 24 #[.slice A 0 c1, .slice B 0 c2] w fun e w' => e = .returned (.bool true) ∧ Below w.heap.size w w' := by
  go_enter Try.func24, Try.ntmps24
  go_wp2
  go_loopw [5] (fun i wr => i = .int .i64 0 ∧ Below w.heap.size w wr) (fun _ _ => 0)
  case atStart => exact ⟨rfl, Below.refl _ _⟩
  case round =>
    obtain ⟨rfl, hB⟩ := hrel
    go_wp2
    go_ret
    exact ⟨rfl, hB⟩
theorem same_longs_any (A B : Option Addr) (m c1 c2 : Nat) (f : Nat → Int) (hm : m ≤ 16) (w : World) (h1 : Lst w A m f) (h2 : Lst w B m f) :
    Calls Try.prog 24 #[.slice A m c1, .slice B m c2] w fun e w' => e = .returned (.bool true) ∧ Below w.heap.size w w' := by
  rcases Nat.eq_zero_or_pos m with rfl | h
  · exact same_longs_none A B c1 c2 w
  · obtain ⟨g1, rfl, i1⟩ := h1 h
    obtain ⟨g2, rfl, i2⟩ := h2 h
    exact same_longs g1 g2 m c1 c2 f w (by omega) i1 i2
theorem same_spots_any (A B : Option Addr) (n c1 c2 : Nat) (X Y : Nat → Int) (hn : n ≤ 20) (w : World) (h1 : Spots w A n X Y) (h2 : Spots w B n X Y) :
    Calls Try.prog 27 #[.slice A n c1, .slice B n c2] w fun e w' => e = .returned (.bool true) ∧ Below w.heap.size w w' := by
  rcases Nat.eq_zero_or_pos n with rfl | h
  · exact same_spots_nil A B c1 c2 w
  · obtain ⟨b1, o1, rfl, i1⟩ := h1 h
    obtain ⟨b2, o2, rfl, i2⟩ := h2 h
    exact same_spots b1 o1 b2 o2 n c1 c2 X Y w (by omega) i1 i2
end Go.Proofs.Ytglkpabcflecmaa
