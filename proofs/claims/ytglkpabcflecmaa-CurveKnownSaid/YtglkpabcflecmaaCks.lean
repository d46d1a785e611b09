/- Copies of curves; lists of spots compared; long. -/
/- Length and Pieces of any curve, by the program and by the reference; lists compared. -/
import Derived.Test.YtglkpabcflecmaaPcsG
namespace Go.Proofs.Ytglkpabcflecmaa
open Go.RowKit Go.Shelf

theorem long_any (A : Option Addr) (n cap : Nat) (w : World) :
    Calls Try.prog 17 #[.agg #[.slice A n cap]] w fun e w' => e = .returned (.bool (decide (20 < n))) ∧ Below w.heap.size w w' := by
  by_cases h : 20 < n
  · have hi : (20 : Int) < (n : Int) := by omega
    have hd : decide (20 < n) = true := decide_eq_true h
    rw [hd]
    clear hd
    go_enter Try.func17, Try.ntmps17
    go_wp2
    go_ret
    exact ⟨by rfl, (Below.refl _ _).alloc (Nat.le_refl _) _⟩
  · have hi : ¬ (20 : Int) < (n : Int) := by omega
    have hd : decide (20 < n) = false := decide_eq_false h
    rw [hd]
    clear hd
    go_enter Try.func17, Try.ntmps17
    go_wp2
    go_ret
    exact ⟨by rfl, (Below.refl _ _).alloc (Nat.le_refl _) _⟩

theorem cellsL_inv {X Y : Nat → Int} {n j : Nat} {u : Value} (h : (cellsL X Y n)[j]? = some u) : ∃ i, i < n ∧ ((j = i * 2 ∧ u = .int .i64 (X i)) ∨ (j = i * 2 + 1 ∧ u = .int .i64 (Y i))) := by
  have hj : j < (cellsL X Y n).length := (List.getElem?_eq_some_iff.1 h).1
  rw [cellsL_length] at hj
  have hi : j / 2 < n := by omega
  obtain ⟨a, b⟩ := cellsL_get X Y hi
  refine ⟨j / 2, hi, ?_⟩
  rcases Nat.mod_two_eq_zero_or_one j with e | e
  · have e2 : j / 2 * 2 = j := by omega
    rw [e2] at a; rw [a] at h; cases h
    exact .inl ⟨e2.symm, rfl⟩
  · have e2 : j / 2 * 2 + 1 = j := by omega
    rw [e2] at b; rw [b] at h; cases h
    exact .inr ⟨e2.symm, rfl⟩

theorem empty_row (w : World) : (w.alloc (.cells #[] 43)).ownsRow w.heap.size 43 2 (.slice (some ⟨w.heap.size, 0, none⟩) 0 0) 0 [] :=
  ⟨rfl, .inr ⟨w.heap.size, 0, #[], rfl, Nat.le_refl _, World.alloc_heap_new w _, Nat.le_refl _, by decide, rfl, rfl⟩⟩

theorem add_plain (b off j : Nat) : (⟨b, off, none⟩ : Addr).add j = ⟨b, off + j, none⟩ := by unfold Addr.add; split <;> simp_all

set_option maxHeartbeats 2000000 in
theorem ownspots_some (b off n cap : Nat) (X Y : Nat → Int) (hn : 0 < n) (hn' : n ≤ 20) (w : World) (hp : Pts w b off n X Y) :
    Calls Try.prog 58 #[.slice (some ⟨b, off, none⟩) n cap] w fun e w' => ∃ g cap', e = .returned (.slice (some ⟨g, 0, none⟩) n cap') ∧ Pts w' g 0 n X Y ∧ Below w.heap.size w w' := by
  obtain ⟨i0, hi0, hz0, hz1, hz2⟩ := info_parts Try.info43
  have hI0 := Lib.hid hi0
  have hZ0 := Lib.hid hz0
  have hZ1 := Lib.hid hz1
  have hZ2 := Lib.hid hz2
  clear hi0 hz0 hz1 hz2
  have hb := hp.lt hn
  have hE := Lib.hid (empty_row w)
  have hB : Below w.heap.size w (w.alloc (.cells #[] 43)) := (Below.refl _ _).alloc (Nat.le_refl _) _
  have hP := Lib.hid (hp.below hB hb)
  have hnews : Hid (∀ j u, (cellsL X Y n)[j]? = some u → (w.alloc (.cells #[] 43)).cell? ((⟨b, off, none⟩ : Addr).add j) = some u) := by
    intro j u h
    obtain ⟨i, hi, ⟨rfl, rfl⟩ | ⟨rfl, rfl⟩⟩ := cellsL_inv h
    · rw [add_plain]; exact (hP.out i hi).1
    · rw [add_plain, ← Nat.add_assoc]; exact (hP.out i hi).2
  have hone : Hid (∀ u ∈ cellsL X Y n, u.oneCell' = true) := by
    intro u hu
    obtain ⟨j, hj⟩ := List.getElem?_of_mem hu
    obtain ⟨i, hi, ⟨_, rfl⟩ | ⟨_, rfl⟩⟩ := cellsL_inv hj <;> simp [Value.oneCell']
  clear hp
  go_enter Try.func58, Try.ntmps58
  go_wp2_with (at_builtin; refine wpList_append_lies _ rfl _ _ 22 rfl w.heap.size 43 i0 _ 2 16 Try.underlying22 hI0.out hZ0.out hZ1.out hZ2.out rfl (by decide) (.slice (some ⟨w.heap.size, 0, none⟩) 0 0) 0 [] rfl hE.out ⟨b, off, none⟩ n cap (cellsL X Y n) rfl (cellsL_length X Y n) hnews.out hone.out hn (by unfold maxLen; omega) (by omega) (by simp) _ rfl ?_; intro gg cap1 w7 hown7 hgrow hat hlt7)
  rw [Nat.zero_add, List.nil_append] at hown7
  have hP7 := Lib.hid (Pts.of_own hown7)
  have hB7 : Below w.heap.size w w7 := hB.grown hgrow (by simp) (fun g e => by simp [Value.ownBlock] at e; omega)
  have e0 : 0 + n = n := Nat.zero_add n
  clear hown7 hat
  go_wp2
  go_ret
  exact ⟨gg, cap1, by simp, hP7.out, hB7⟩
set_option maxHeartbeats 2000000 in
theorem ownspots_nil (A : Option Addr) (cap : Nat) (w : World) :
    Calls Try.prog 58 #[.slice A 0 cap] w fun e w' => ∃ B cap', e = .returned (.slice B 0 cap') ∧ Below w.heap.size w w' := by
  obtain _ | ⟨b, off, row⟩ := A
  · go_enter Try.func58, Try.ntmps58
    go_wp2
    go_ret
    exact ⟨_, _, rfl, (Below.refl _ _).alloc (Nat.le_refl _) _⟩
  · go_enter Try.func58, Try.ntmps58
    go_wp2
    go_ret
    exact ⟨_, _, rfl, (Below.refl _ _).alloc (Nat.le_refl _) _⟩

theorem ownspots_any (A : Option Addr) (n cap : Nat) (X Y : Nat → Int) (hn' : n ≤ 20) (w : World) (h : Spots w A n X Y) :
    Calls Try.prog 58 #[.slice A n cap] w fun e w' => ∃ B cap', e = .returned (.slice B n cap') ∧ Spots w' B n X Y ∧ Below w.heap.size w w' := by
  rcases Nat.eq_zero_or_pos n with rfl | hn
  · refine (ownspots_nil A cap w).mono ?_
    rintro e w' ⟨B, cap', rfl, hb⟩
    exact ⟨B, cap', rfl, fun h => absurd h (by omega), hb⟩
  · obtain ⟨b, off, rfl, hp⟩ := h hn
    refine (ownspots_some b off n cap X Y hn hn' w hp).mono ?_
    rintro e w' ⟨g, cap', rfl, hp', hb⟩
    exact ⟨_, cap', rfl, fun _ => ⟨g, 0, rfl, hp'⟩, hb⟩

set_option maxHeartbeats 2000000 in
theorem own_any (A : Option Addr) (n cap : Nat) (X Y : Nat → Int) (hn' : n ≤ 20) (w : World) (h : Spots w A n X Y) :
    Calls Try.prog 19 #[.agg #[.slice A n cap]] w fun e w' => ∃ B cap', e = .returned (.agg #[.slice B n cap']) ∧ Spots w' B n X Y ∧ Below w.heap.size w w' := by
  have hB : Below w.heap.size w ((w.alloc (.cells #[.slice A n cap] 24)).alloc (.cells #[.slice none 0 0] 24)) := ((Below.refl _ w).alloc (Nat.le_refl _) _).alloc (by simp) _
  have hr : BoxAt ((w.alloc (.cells #[.slice A n cap] 24)).alloc (.cells #[.slice none 0 0] 24)) (w.heap.size + 1) 24 #[.slice none 0 0] := by
    have := BoxAt.new (w.alloc (.cells #[.slice A n cap] 24)) 24 #[.slice none 0 0]
    rwa [World.size_alloc] at this
  have HC := Lib.hid (ownspots_any A n cap X Y hn' _ (h.below hB))
  clear h
  go_enter Try.func19, Try.ntmps19
  go_wp2_with (go_at_call 58; (with_reducible refine HC.out.mono ?_); rintro e w1 ⟨B, cap', rfl, hS, hb1⟩; have HS := Lib.hid hS; clear hS; have hR := Lib.hid (box_step hr hb1); have r0 := BoxAt.cell hR.out 0; have r1 := BoxAt.frozen hR.out 0; replace hB := below_step hB hb1)
  have hq := BoxAt.cell (BoxAt.set hR.out 0 (.slice B n cap')) 0
  have e1 : ((#[Value.slice none 0 0] : Array Value).setIfInBounds 0 (.slice B n cap')) = #[.slice B n cap'] := rfl
  rw [e1] at hq
  refine bodyPost_ret (v := .agg #[.slice B n cap']) (by simp [results, Try.results19, go_sem, hq]) rfl ⟨B, cap', rfl, ?_, hB.setCell (p := ⟨w.heap.size + 1, 0, none⟩) (by simp) _⟩
  intro hn
  obtain ⟨b, off, e, hp⟩ := HS.out hn
  refine ⟨b, off, e, ?_⟩
  have hne : b ≠ w.heap.size + 1 := by
    rintro rfl
    have h0 := (hp 0 hn).1
    rw [BoxAt.cell hR.out] at h0
    cases off <;> simp at h0
  intro i hi
  have far : ∀ j, (w1.setCell ⟨w.heap.size + 1, 0, none⟩ (.slice B n cap')).cell? ⟨b, j, none⟩ = w1.cell? ⟨b, j, none⟩ := fun j => World.cell?_of_block (Below.heap_setCell _ _ _ _ hne)
  exact ⟨(far _).trans (hp i hi).1, (far _).trans (hp i hi).2⟩

set_option maxHeartbeats 4000000 in
theorem same_spots (b1 o1 b2 o2 n c1 c2 : Nat) (X Y : Nat → Int) (w : World) (hn : n ≤ 1000000) (h1 : Pts w b1 o1 n X Y) (h2 : Pts w b2 o2 n X Y) :
    Calls Try.prog 27 #[.slice (some ⟨b1, o1, none⟩) n c1, .slice (some ⟨b2, o2, none⟩) n c2] w fun e w' => e = .returned (.bool true) ∧ Below w.heap.size w w' := by
  have H1 := Lib.hid h1
  have H2 := Lib.hid h2
  clear h1 h2
  go_enter Try.func27, Try.ntmps27
  go_wp2
  go_loopw [5] (fun i wr => ∃ k : Nat, k ≤ n ∧ i = .int .i64 k ∧ Below w.heap.size w wr ∧ Hid (Pts wr b1 o1 n X Y) ∧ Hid (Pts wr b2 o2 n X Y)) (fun i _ => n - (intOf i).toNat)
  case atStart => exact ⟨0, Nat.zero_le _, rfl, Below.refl _ _, H1, H2⟩
  case round =>
    clear H1 H2
    obtain ⟨k, hk, rfl, hB, H1, H2⟩ := hrel
    by_cases hlt : k < n
    · obtain ⟨a0, a1⟩ := H1.out k hlt
      obtain ⟨a2, a3⟩ := H2.out k hlt
      have i1 : (0 : Int) ≤ (k : Int) := Int.natCast_nonneg _
      have i2 : (k : Int) < (n : Int) := by omega
      go_wp2_with fail
      go_quiet (fail)
      go_wp2
      go_roundw
      case rel => exact ⟨k + 1, by omega, by go_num, below_drewN hB _, H1, H2⟩
      case measure => simp [intOf]; omega
    · obtain rfl : k = n := by omega
      go_wp2
      go_ret
      exact ⟨rfl, hB⟩

set_option maxHeartbeats 4000000 in
theorem same_spots_nil (A B : Option Addr) (c1 c2 : Nat) (w : World) :
    Calls Try.prog 27 #[.slice A 0 c1, .slice B 0 c2] w fun e w' => e = .returned (.bool true) ∧ Below w.heap.size w w' := by
  go_enter Try.func27, Try.ntmps27
  go_wp2
  go_loopw [5] (fun i wr => i = .int .i64 0 ∧ Below w.heap.size w wr) (fun _ _ => 0)
  case atStart => exact ⟨rfl, Below.refl _ _⟩
  case round =>
    obtain ⟨rfl, hB⟩ := hrel
    go_wp2
    go_ret
    exact ⟨rfl, hB⟩
end Go.Proofs.Ytglkpabcflecmaa

namespace Go.Proofs.Ytglkpabcflecmaa
open Go.RowKit Go.Shelf

open Classical in
noncomputable def lenF (c : Crv) : Int := if chkF c = 0 then c.st (c.n - 1) else 0
open Classical in
noncomputable def pcN (c : Crv) : Nat := if chkF c = 0 then c.n - 1 else 0
/-- A list of m numbers, wherever it lies. -/
def Lst (w : World) (A : Option Addr) (m : Nat) (f : Nat → Int) : Prop := 0 < m → ∃ g, A = some ⟨g, 0, none⟩ ∧ Ints w g m f
theorem Lst.below {w w' : World} {A : Option Addr} {m : Nat} {f : Nat → Int} (h : Lst w A m f) (hb : Below w.heap.size w w') : Lst w' A m f := fun hm => by
  obtain ⟨g, e, hi⟩ := h hm
  exact ⟨g, e, hi.below hb⟩

theorem len_any (A : Option Addr) (cap : Nat) (c : Crv) (w : World) (h : Spots w A c.n c.X c.Y) :
    Calls Try.prog 22 #[.agg #[.slice A c.n cap]] w fun e w' => e = .returned (.int .i64 (lenF c)) ∧ Below w.heap.size w w' := by
  unfold lenF
  by_cases hz : chkF c = 0
  · rw [if_pos hz]
    have hg := good_of hz
    obtain ⟨b, off, rfl, hp⟩ := h (by have := hg.lo; omega)
    exact length_good b off cap c hg w hp
  · rw [if_neg hz]; exact length_bad A cap c w h hz
theorem rlen_any (A : Option Addr) (cap : Nat) (c : Crv) (w : World) (h : Spots w A c.n c.X c.Y) :
    Calls Try.prog 23 #[.agg #[.slice A c.n cap]] w fun e w' => e = .returned (.int .i64 (lenF c)) ∧ Below w.heap.size w w' := by
  unfold lenF
  by_cases hz : chkF c = 0
  · rw [if_pos hz]
    have hg := good_of hz
    obtain ⟨b, off, rfl, hp⟩ := h (by have := hg.lo; omega)
    exact rlength_good b off cap c hg w hp
  · rw [if_neg hz]; exact rlength_bad A cap c w h hz
theorem pcs_any (A : Option Addr) (cap : Nat) (c : Crv) (w : World) (h : Spots w A c.n c.X c.Y) :
    Calls Try.prog 25 #[.agg #[.slice A c.n cap]] w fun e w' => ∃ B cap', e = .returned (.slice B (pcN c) cap') ∧ Lst w' B (pcN c) c.len ∧ Below w.heap.size w w' := by
  unfold pcN
  by_cases hz : chkF c = 0
  · rw [if_pos hz]
    have hg := good_of hz
    obtain ⟨b, off, rfl, hp⟩ := h (by have := hg.lo; omega)
    refine (pieces_good b off cap c hg w hp).mono ?_
    rintro e w' ⟨g, cap', rfl, hi, hb⟩
    exact ⟨_, cap', rfl, fun _ => ⟨g, rfl, hi⟩, hb⟩
  · rw [if_neg hz]
    refine (pieces_bad A cap c w h hz).mono ?_
    rintro e w' ⟨rfl, hb⟩
    exact ⟨none, 0, rfl, fun h => absurd h (by omega), hb⟩
theorem rpcs_any (A : Option Addr) (cap : Nat) (c : Crv) (w : World) (h : Spots w A c.n c.X c.Y) :
    Calls Try.prog 26 #[.agg #[.slice A c.n cap]] w fun e w' => ∃ B cap', e = .returned (.slice B (pcN c) cap') ∧ Lst w' B (pcN c) c.len ∧ Below w.heap.size w w' := by
  unfold pcN
  by_cases hz : chkF c = 0
  · rw [if_pos hz]
    have hg := good_of hz
    obtain ⟨b, off, rfl, hp⟩ := h (by have := hg.lo; omega)
    refine (rpieces_good b off cap c hg w hp).mono ?_
    rintro e w' ⟨g, cap', rfl, hi, hb⟩
    exact ⟨_, cap', rfl, fun _ => ⟨g, rfl, hi⟩, hb⟩
  · rw [if_neg hz]
    refine (rpieces_bad A cap c w h hz).mono ?_
    rintro e w' ⟨rfl, hb⟩
    exact ⟨none, 0, rfl, fun h => absurd h (by omega), hb⟩
theorem pcN_le (c : Crv) : pcN c ≤ 16 := by
  unfold pcN
  by_cases hz : chkF c = 0
  · rw [if_pos hz]; have := (good_of hz).hi; omega
  · rw [if_neg hz]; omega

set_option maxHeartbeats 4000000 in
theorem same_longs_none (A B : Option Addr) (c1 c2 : Nat) (w : World) :
    Calls Try.prog 24 #[.slice A 0 c1, .slice B 0 c2] w fun e w' => e = .returned (.bool true) ∧ Below w.heap.size w w' := by
  go_enter Try.func24, Try.ntmps24
  go_wp2
  go_loopw [5] (fun i wr => i = .int .i64 0 ∧ Below w.heap.size w wr) (fun _ _ => 0)
  case atStart => exact ⟨rfl, Below.refl _ _⟩
  case round =>
    obtain ⟨rfl, hB⟩ := hrel
    go_wp2
    go_ret
    exact ⟨rfl, hB⟩
theorem same_longs_any (A B : Option Addr) (m c1 c2 : Nat) (f : Nat → Int) (hm : m ≤ 16) (w : World) (h1 : Lst w A m f) (h2 : Lst w B m f) :
    Calls Try.prog 24 #[.slice A m c1, .slice B m c2] w fun e w' => e = .returned (.bool true) ∧ Below w.heap.size w w' := by
  rcases Nat.eq_zero_or_pos m with rfl | h
  · exact same_longs_none A B c1 c2 w
  · obtain ⟨g1, rfl, i1⟩ := h1 h
    obtain ⟨g2, rfl, i2⟩ := h2 h
    exact same_longs g1 g2 m c1 c2 f w (by omega) i1 i2
theorem same_spots_any (A B : Option Addr) (n c1 c2 : Nat) (X Y : Nat → Int) (hn : n ≤ 20) (w : World) (h1 : Spots w A n X Y) (h2 : Spots w B n X Y) :
    Calls Try.prog 27 #[.slice A n c1, .slice B n c2] w fun e w' => e = .returned (.bool true) ∧ Below w.heap.size w w' := by
  rcases Nat.eq_zero_or_pos n with rfl | h
  · exact same_spots_nil A B c1 c2 w
  · obtain ⟨b1, o1, rfl, i1⟩ := h1 h
    obtain ⟨b2, o2, rfl, i2⟩ := h2 h
    exact same_spots b1 o1 b2 o2 n c1 c2 X Y w (by omega) i1 i2
end Go.Proofs.Ytglkpabcflecmaa

