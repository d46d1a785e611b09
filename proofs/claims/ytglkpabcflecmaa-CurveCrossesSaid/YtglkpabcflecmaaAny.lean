/- Check of any curve, by the program and by the reference; Length and Pieces of what is no curve. -/
import Derived.Test.YtglkpabcflecmaaRChk
namespace Go.Proofs.Ytglkpabcflecmaa
open Go.RowKit Go.Shelf

open Classical in
/-- What Check answers. -/
noncomputable def chkF (c : Crv) : Int := if c.n < 2 then 6 else if 16 < c.n then 5 else if c.AllOk then firstE c.ferr (c.n - 1) else 2

/-- A slice of n spots, wherever it lies. -/
def Spots (w : World) (A : Option Addr) (n : Nat) (X Y : Nat → Int) : Prop := 0 < n → ∃ b off, A = some ⟨b, off, none⟩ ∧ Pts w b off n X Y
theorem Spots.below {w w' : World} {A : Option Addr} {n : Nat} {X Y : Nat → Int} (h : Spots w A n X Y) (hb : Below w.heap.size w w') : Spots w' A n X Y := fun hn => by
  obtain ⟨b, off, e, hp⟩ := h hn
  exact ⟨b, off, e, hp.below hb (hp.lt hn)⟩

theorem good_of {c : Crv} (h : chkF c = 0) : Good c := by
  unfold chkF at h
  split at h
  · omega
  split at h
  · omega
  split at h
  · rename_i h1 h2 h3
    exact ⟨by omega, by omega, h3, fun i hi => of_firstE h i (by omega)⟩
  · omega
theorem of_good {c : Crv} (h : Good c) : chkF c = 0 := by
  unfold chkF
  rw [if_neg (by have := h.lo; omega), if_neg (by have := h.hi; omega), if_pos h.ok]
  exact h.first

theorem bad_at {c : Crv} (h : ¬ c.AllOk) : ∃ j, j < c.n ∧ ¬ (okc (c.X j) ∧ okc (c.Y j)) := by
  apply Classical.byContradiction
  intro hc
  exact h (fun i hi => Classical.byContradiction fun hb => hc ⟨i, hi, hb⟩)

theorem check_any (A : Option Addr) (cap : Nat) (c : Crv) (w : World) (h : Spots w A c.n c.X c.Y) :
    Calls Try.prog 20 #[.agg #[.slice A c.n cap]] w fun e w' => e = .returned (.int .i64 (chkF c)) ∧ Below w.heap.size w w' := by
  unfold chkF
  by_cases h1 : c.n < 2
  · rw [if_pos h1]; exact check_short A c.n cap h1 w
  rw [if_neg h1]
  by_cases h2 : 16 < c.n
  · rw [if_pos h2]; exact check_long A c.n cap h2 w
  rw [if_neg h2]
  obtain ⟨b, off, rfl, hp⟩ := h (by omega)
  by_cases h3 : c.AllOk
  · rw [if_pos h3]; exact check_ok b off cap c (by omega) (by omega) h3 w hp
  · rw [if_neg h3]
    obtain ⟨j, hj, hbad⟩ := bad_at h3
    exact check_range b off c.n cap c.X c.Y (by omega) (by omega) w hp j hj hbad

theorem rcheck_any (A : Option Addr) (cap : Nat) (c : Crv) (w : World) (h : Spots w A c.n c.X c.Y) :
    Calls Try.prog 21 #[.agg #[.slice A c.n cap]] w fun e w' => e = .returned (.int .i64 (chkF c)) ∧ Below w.heap.size w w' := by
  unfold chkF
  by_cases h1 : c.n < 2
  · rw [if_pos h1]; exact rcheck_short A c.n cap h1 w
  rw [if_neg h1]
  by_cases h2 : 16 < c.n
  · rw [if_pos h2]; exact rcheck_long A c.n cap h2 w
  rw [if_neg h2]
  obtain ⟨b, off, rfl, hp⟩ := h (by omega)
  by_cases h3 : c.AllOk
  · rw [if_pos h3]; exact rcheck_ok b off cap c (by omega) (by omega) h3 w hp
  · rw [if_neg h3]
    obtain ⟨j, hj, hbad⟩ := bad_at h3
    exact rcheck_range b off c.n cap c.X c.Y (by omega) (by omega) w hp j hj hbad

set_option maxHeartbeats 2000000 in
theorem length_bad (A : Option Addr) (cap : Nat) (c : Crv) (w : World) (h : Spots w A c.n c.X c.Y) (hne : chkF c ≠ 0) :
    Calls Try.prog 22 #[.agg #[.slice A c.n cap]] w fun e w' => e = .returned (.int .i64 0) ∧ Below w.heap.size w w' := by
  have hB : Below w.heap.size w (w.alloc (.cells #[.slice A c.n cap] 24)) := (Below.refl _ w).alloc (Nat.le_refl _) _
  have h' := h.below hB
  obtain ⟨r, hr⟩ : ∃ r, r = chkF c := ⟨_, rfl⟩
  have HC := Lib.hid (check_any A cap c _ h')
  rw [← hr] at HC hne
  have hrb : (r == 0) = false := by simp [hne]
  have hrn : (r != 0) = true := by simp [hne]
  clear hr hne
  go_enter Try.func22, Try.ntmps22
  go_wp2_with (go_at_call 20; (with_reducible refine HC.out.mono ?_); rintro e w1 ⟨rfl, hb1⟩; replace hB := below_step hB hb1)
  go_ret
  exact ⟨rfl, hB⟩

set_option maxHeartbeats 2000000 in
theorem pieces_bad (A : Option Addr) (cap : Nat) (c : Crv) (w : World) (h : Spots w A c.n c.X c.Y) (hne : chkF c ≠ 0) :
    Calls Try.prog 25 #[.agg #[.slice A c.n cap]] w fun e w' => e = .returned (.slice none 0 0) ∧ Below w.heap.size w w' := by
  have hB : Below w.heap.size w (w.alloc (.cells #[.slice A c.n cap] 24)) := (Below.refl _ w).alloc (Nat.le_refl _) _
  have h' := h.below hB
  obtain ⟨r, hr⟩ : ∃ r, r = chkF c := ⟨_, rfl⟩
  have HC := Lib.hid (check_any A cap c _ h')
  rw [← hr] at HC hne
  have hrb : (r == 0) = false := by simp [hne]
  have hrn : (r != 0) = true := by simp [hne]
  clear hr hne
  go_enter Try.func25, Try.ntmps25
  go_wp2_with (go_at_call 20; (with_reducible refine HC.out.mono ?_); rintro e w1 ⟨rfl, hb1⟩; replace hB := below_step hB hb1)
  go_ret
  exact ⟨rfl, hB⟩

set_option maxHeartbeats 2000000 in
theorem rpieces_bad (A : Option Addr) (cap : Nat) (c : Crv) (w : World) (h : Spots w A c.n c.X c.Y) (hne : chkF c ≠ 0) :
    Calls Try.prog 26 #[.agg #[.slice A c.n cap]] w fun e w' => e = .returned (.slice none 0 0) ∧ Below w.heap.size w w' := by
  have hB : Below w.heap.size w (w.alloc (.cells #[.slice A c.n cap] 24)) := (Below.refl _ w).alloc (Nat.le_refl _) _
  have h' := h.below hB
  obtain ⟨r, hr⟩ : ∃ r, r = chkF c := ⟨_, rfl⟩
  have HC := Lib.hid (rcheck_any A cap c _ h')
  rw [← hr] at HC hne
  have hrb : (r == 0) = false := by simp [hne]
  have hrn : (r != 0) = true := by simp [hne]
  clear hr hne
  go_enter Try.func26, Try.ntmps26
  go_wp2_with (go_at_call 21; (with_reducible refine HC.out.mono ?_); rintro e w1 ⟨rfl, hb1⟩; replace hB := below_step hB hb1)
  go_ret
  exact ⟨rfl, hB⟩

set_option maxHeartbeats 2000000 in
theorem rlength_bad (A : Option Addr) (cap : Nat) (c : Crv) (w : World) (h : Spots w A c.n c.X c.Y) (hne : chkF c ≠ 0) :
    Calls Try.prog 23 #[.agg #[.slice A c.n cap]] w fun e w' => e = .returned (.int .i64 0) ∧ Below w.heap.size w w' := by
  have hB : Below w.heap.size w (w.alloc (.cells #[.slice A c.n cap] 24)) := (Below.refl _ w).alloc (Nat.le_refl _) _
  have h' := h.below hB
  have HC := Lib.hid (rpieces_bad A cap c _ h' hne)
  clear hne
  go_enter Try.func23, Try.ntmps23
  go_wp2_with (go_at_call 26; (with_reducible refine HC.out.mono ?_); rintro e w1 ⟨rfl, hb1⟩; replace hB := below_step hB hb1)
  go_loopw [3, 5] (fun u i wr => u = .int .i64 0 ∧ i = .int .i64 0 ∧ Below w.heap.size w wr) (fun _ _ _ => 0)
  case atStart => exact ⟨rfl, rfl, hB⟩
  case round =>
    obtain ⟨rfl, rfl, hB⟩ := hrel
    go_wp2
    go_ret
    exact ⟨rfl, hB⟩
end Go.Proofs.Ytglkpabcflecmaa
