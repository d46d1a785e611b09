/- Lists of points: copied, compared; long. -/
import Derived.Test.YtaehfildhmljeaaSegL
import Derived.BigQuiet
namespace Go.Proofs.Ytaehfildhmljeaa
open Go.RowKit Go.Shelf

theorem Try.info69 : (Try.prog.info? 69).map (fun i => (i.zero, i.size, i.bytes)) = some (some (.agg #[.int .i64 0, .int .i64 0, .int .i64 0]), 3, 24) := by kernel_rfl
/-- The cells of the first points. -/
def cellsP (X Y V : Nat → Int) : Nat → List Value
  | 0 => []
  | k + 1 => cellsP X Y V k ++ [.int .i64 (X k), .int .i64 (Y k), .int .i64 (V k)]
theorem cellsP_length (X Y V : Nat → Int) (k : Nat) : (cellsP X Y V k).length = k * 3 := by
  induction k with
  | zero => rfl
  | succ k ih => simp [cellsP, ih]; omega
theorem cellsP_get (X Y V : Nat → Int) {k i : Nat} (h : i < k) : (cellsP X Y V k)[i * 3]? = some (.int .i64 (X i)) ∧ (cellsP X Y V k)[i * 3 + 1]? = some (.int .i64 (Y i)) ∧ (cellsP X Y V k)[i * 3 + 2]? = some (.int .i64 (V i)) := by
  induction k with
  | zero => omega
  | succ k ih =>
    have hl := cellsP_length X Y V k
    rcases Nat.lt_or_ge i k with h1 | h1
    · obtain ⟨a, b, c⟩ := ih h1
      unfold cellsP
      refine ⟨?_, ?_, ?_⟩
      · rw [List.getElem?_append_left (by omega)]; exact a
      · rw [List.getElem?_append_left (by omega)]; exact b
      · rw [List.getElem?_append_left (by omega)]; exact c
    · obtain rfl : i = k := by omega
      unfold cellsP
      refine ⟨?_, ?_, ?_⟩
      · rw [List.getElem?_append_right (by omega), hl, Nat.sub_self]; rfl
      · rw [List.getElem?_append_right (by omega), hl, show i * 3 + 1 - i * 3 = 1 by omega]; rfl
      · rw [List.getElem?_append_right (by omega), hl, show i * 3 + 2 - i * 3 = 2 by omega]; rfl
theorem cellsP_inv {X Y V : Nat → Int} {n j : Nat} {u : Value} (h : (cellsP X Y V n)[j]? = some u) : ∃ i, i < n ∧ ((j = i * 3 ∧ u = .int .i64 (X i)) ∨ (j = i * 3 + 1 ∧ u = .int .i64 (Y i)) ∨ (j = i * 3 + 2 ∧ u = .int .i64 (V i))) := by
  have hj : j < (cellsP X Y V n).length := (List.getElem?_eq_some_iff.1 h).1
  rw [cellsP_length] at hj
  have hi : j / 3 < n := by omega
  obtain ⟨a, b, c⟩ := cellsP_get X Y V hi
  refine ⟨j / 3, hi, ?_⟩
  have e : j % 3 = 0 ∨ j % 3 = 1 ∨ j % 3 = 2 := by omega
  rcases e with e | e | e
  · have e2 : j / 3 * 3 = j := by omega
    rw [e2] at a; rw [a] at h; cases h
    exact .inl ⟨e2.symm, rfl⟩
  · have e2 : j / 3 * 3 + 1 = j := by omega
    rw [e2] at b; rw [b] at h; cases h
    exact .inr (.inl ⟨e2.symm, rfl⟩)
  · have e2 : j / 3 * 3 + 2 = j := by omega
    rw [e2] at c; rw [c] at h; cases h
    exact .inr (.inr ⟨e2.symm, rfl⟩)
theorem add_plain (b off j : Nat) : (⟨b, off, none⟩ : Addr).add j = ⟨b, off + j, none⟩ := by unfold Addr.add; split <;> simp_all
theorem Clo.of_own {w : World} {base g k cap : Nat} {X Y V : Nat → Int} (h : w.ownsRow base 69 3 (.slice (some ⟨g, 0, none⟩) k cap) k (cellsP X Y V k)) : Clo w g 0 k X Y V := by
  intro i hi
  obtain ⟨a, b, c⟩ := cellsP_get X Y V hi
  have h1 := h.cells (g := g) rfl _ _ a
  have h2 := h.cells (g := g) rfl _ _ b
  have h3 := h.cells (g := g) rfl _ _ c
  rw [add_plain] at h1 h2 h3
  exact ⟨h1, by rw [show 0 + i * 3 + 1 = 0 + (i * 3 + 1) by omega]; exact h2, by rw [show 0 + i * 3 + 2 = 0 + (i * 3 + 2) by omega]; exact h3⟩
theorem empty_row (w : World) : (w.alloc (.cells #[] 69)).ownsRow w.heap.size 69 3 (.slice (some ⟨w.heap.size, 0, none⟩) 0 0) 0 [] :=
  ⟨rfl, .inr ⟨w.heap.size, 0, #[], rfl, Nat.le_refl _, World.alloc_heap_new w _, Nat.le_refl _, by decide, rfl, rfl⟩⟩

set_option maxHeartbeats 2000000 in
theorem ownpoints_some (b off n cap : Nat) (X Y V : Nat → Int) (hn : 0 < n) (hn' : n ≤ 1100) (w : World) (hp : Clo w b off n X Y V) :
    Calls Try.prog 17 #[.slice (some ⟨b, off, none⟩) n cap] w fun e w' => ∃ g cap', e = .returned (.slice (some ⟨g, 0, none⟩) n cap') ∧ n ≤ cap' ∧ w.heap.size ≤ g ∧ Clo w' g 0 n X Y V ∧ Below w.heap.size w w' := by
  obtain ⟨i0, hi0, hz0, hz1, hz2⟩ := info_parts Try.info69
  have hI0 := Lib.hid hi0
  have hZ0 := Lib.hid hz0
  have hZ1 := Lib.hid hz1
  have hZ2 := Lib.hid hz2
  clear hi0 hz0 hz1 hz2
  have hb := hp.lt hn
  have hE := Lib.hid (empty_row w)
  have hB : Below w.heap.size w (w.alloc (.cells #[] 69)) := (Below.refl _ _).alloc (Nat.le_refl _) _
  have hP := Lib.hid (hp.below hB hb)
  have hnews : Hid (∀ j u, (cellsP X Y V n)[j]? = some u → (w.alloc (.cells #[] 69)).cell? ((⟨b, off, none⟩ : Addr).add j) = some u) := by
    intro j u h
    obtain ⟨i, hi, ⟨rfl, rfl⟩ | ⟨rfl, rfl⟩ | ⟨rfl, rfl⟩⟩ := cellsP_inv h
    · rw [add_plain]; exact (hP.out i hi).1
    · rw [add_plain, ← Nat.add_assoc]; exact (hP.out i hi).2.1
    · rw [add_plain, ← Nat.add_assoc]; exact (hP.out i hi).2.2
  have hone : Hid (∀ u ∈ cellsP X Y V n, u.oneCell' = true) := by
    intro u hu
    obtain ⟨j, hj⟩ := List.getElem?_of_mem hu
    obtain ⟨i, hi, ⟨_, rfl⟩ | ⟨_, rfl⟩ | ⟨_, rfl⟩⟩ := cellsP_inv hj <;> simp [Value.oneCell']
  clear hp
  go_enter Try.func17, Try.ntmps17
  go_wp2_with (at_builtin; refine wpList_append_lies _ rfl _ _ 22 rfl w.heap.size 69 i0 _ 3 24 Try.underlying22 hI0.out hZ0.out hZ1.out hZ2.out rfl (by decide) (.slice (some ⟨w.heap.size, 0, none⟩) 0 0) 0 [] rfl hE.out ⟨b, off, none⟩ n cap (cellsP X Y V n) rfl (cellsP_length X Y V n) hnews.out hone.out hn (by unfold maxLen; omega) (by omega) (by simp) _ rfl ?_; intro gg cap1 w7 hown7 hgrow hat hlt7)
  rw [Nat.zero_add, List.nil_append] at hown7
  have hP7 := Lib.hid (Clo.of_own hown7)
  have hg7 : w.heap.size ≤ gg := (hown7.lt gg rfl).1
  have hc7 : n ≤ cap1 := by
    rcases hown7.2 with ⟨h, _⟩ | ⟨g, c, cur, h, _, _, hle, _⟩
    · cases h
    · obtain ⟨_, rfl⟩ : gg = g ∧ cap1 = c := by simpa using h
      exact hle
  have hB7 : Below w.heap.size w w7 := hB.grown hgrow (by simp) (fun g e => by simp [Value.ownBlock] at e; omega)
  have e0 : 0 + n = n := Nat.zero_add n
  clear hown7 hat
  go_wp2
  go_ret
  exact ⟨gg, cap1, by simp, hc7, hg7, hP7.out, hB7⟩
set_option maxHeartbeats 2000000 in
theorem ownpoints_nil (A : Option Addr) (cap : Nat) (w : World) :
    Calls Try.prog 17 #[.slice A 0 cap] w fun e w' => ∃ B cap', e = .returned (.slice B 0 cap') ∧ Below w.heap.size w w' := by
  obtain _ | ⟨b, off, row⟩ := A
  · go_enter Try.func17, Try.ntmps17
    go_wp2
    go_ret
    exact ⟨_, _, rfl, (Below.refl _ _).alloc (Nat.le_refl _) _⟩
  · go_enter Try.func17, Try.ntmps17
    go_wp2
    go_ret
    exact ⟨_, _, rfl, (Below.refl _ _).alloc (Nat.le_refl _) _⟩
theorem ownpoints_any (A : Option Addr) (n cap : Nat) (X Y V : Nat → Int) (hn' : n ≤ 1100) (w : World) (h : Cloud w A n X Y V) :
    Calls Try.prog 17 #[.slice A n cap] w fun e w' => ∃ B cap', e = .returned (.slice B n cap') ∧ n ≤ cap' ∧ Cloud w' B n X Y V ∧ Below w.heap.size w w' := by
  rcases Nat.eq_zero_or_pos n with rfl | hn
  · refine (ownpoints_nil A cap w).mono ?_
    rintro e w' ⟨B, cap', rfl, hb⟩
    exact ⟨B, cap', rfl, Nat.zero_le _, fun h => absurd h (by omega), hb⟩
  · obtain ⟨b, off, rfl, hp⟩ := h hn
    refine (ownpoints_some b off n cap X Y V hn hn' w hp).mono ?_
    rintro e w' ⟨g, cap', rfl, hc, _, hp', hb⟩
    exact ⟨_, cap', rfl, hc, fun _ => ⟨g, 0, rfl, hp'⟩, hb⟩

set_option maxHeartbeats 4000000 in
theorem same_points (A1 A2 : Option Addr) (n c1 c2 : Nat) (X Y V : Nat → Int) (w : World) (hn : n ≤ 1000000) (h1 : Cloud w A1 n X Y V) (h2 : Cloud w A2 n X Y V) :
    Calls Try.prog 24 #[.slice A1 n c1, .slice A2 n c2] w fun e w' => e = .returned (.bool true) ∧ Below w.heap.size w w' := by
  have H1 := Lib.hid h1
  have H2 := Lib.hid h2
  clear h1 h2
  go_enter Try.func24, Try.ntmps24
  go_wp2
  go_loopw [5] (fun i wr => ∃ k : Nat, k ≤ n ∧ i = .int .i64 k ∧ Hid (Below w.heap.size w wr)) (fun i _ => n - (intOf i).toNat)
  case atStart => exact ⟨0, Nat.zero_le _, rfl, Lib.hid (Below.refl _ _)⟩
  case round =>
    obtain ⟨k, hk, rfl, hB⟩ := hrel
    by_cases hlt : k < n
    · obtain ⟨b1, o1, e1, p1⟩ := H1.out (by omega)
      obtain ⟨b2, o2, e2, p2⟩ := H2.out (by omega)
      subst e1
      subst e2
      obtain ⟨a0, a1, a2⟩ := (p1.below hB.out (p1.lt (by omega))) k hlt
      obtain ⟨a3, a4, a5⟩ := (p2.below hB.out (p2.lt (by omega))) k hlt
      have l1 := World.block_lt_of_cell? wr _ a0
      have l2 := World.block_lt_of_cell? wr _ a3
      clear p1 p2
      have i1 : (0 : Int) ≤ (k : Int) := Int.natCast_nonneg _
      have i2 : (k : Int) < (n : Int) := by omega
      go_wp2_with fail
      go_quiet (fail)
      go_wp2
      go_roundw
      case rel => exact ⟨k + 1, by omega, by go_num, Lib.hid (below_drewN hB.out _)⟩
      case measure => simp [intOf]; omega
    · obtain rfl : k = n := by omega
      go_wp2
      go_ret
      exact ⟨rfl, hB.out⟩

theorem long_any (A : Option Addr) (n cap m : Nat) (r : Bool) (hr : Hid (decide ((m < n ∧ n ≤ 1000) ∨ 1100 < n) = r)) (w : World) :
    Calls Try.prog 15 #[.slice A n cap, .int .i64 (m : Int)] w fun e w' => e = .returned (.bool r) ∧ Below w.heap.size w w' := by
  by_cases h1 : m < n
  · by_cases h2 : n ≤ 1000
    · have hz : Hid (true = r) := Lib.hid (by rw [← hr.out]; simp [h1, h2])
      have i1 : (m : Int) < (n : Int) := by omega
      have i2 : (n : Int) ≤ 1000 := by omega
      go_enter Try.func15, Try.ntmps15
      go_wp2
      go_ret
      exact ⟨congrArg (fun z => Ending.returned (.bool z)) hz.out, Below.refl _ _⟩
    · by_cases h3 : 1100 < n
      · have hz : Hid (true = r) := Lib.hid (by rw [← hr.out]; simp [h3])
        have i1 : (m : Int) < (n : Int) := by omega
        have i2 : ¬ (n : Int) ≤ 1000 := by omega
        have i3 : (1100 : Int) < (n : Int) := by omega
        go_enter Try.func15, Try.ntmps15
        go_wp2
        go_ret
        exact ⟨congrArg (fun z => Ending.returned (.bool z)) hz.out, Below.refl _ _⟩
      · have hz : Hid (false = r) := Lib.hid (by rw [← hr.out]; simp [h2, h3])
        have i1 : (m : Int) < (n : Int) := by omega
        have i2 : ¬ (n : Int) ≤ 1000 := by omega
        have i3 : ¬ (1100 : Int) < (n : Int) := by omega
        go_enter Try.func15, Try.ntmps15
        go_wp2
        go_ret
        exact ⟨congrArg (fun z => Ending.returned (.bool z)) hz.out, Below.refl _ _⟩
  · by_cases h3 : 1100 < n
    · have hz : Hid (true = r) := Lib.hid (by rw [← hr.out]; simp [h3])
      have i1 : ¬ (m : Int) < (n : Int) := by omega
      have i3 : (1100 : Int) < (n : Int) := by omega
      go_enter Try.func15, Try.ntmps15
      go_wp2
      go_ret
      exact ⟨congrArg (fun z => Ending.returned (.bool z)) hz.out, Below.refl _ _⟩
    · have hz : Hid (false = r) := Lib.hid (by rw [← hr.out]; simp [h1, h3])
      have i1 : ¬ (m : Int) < (n : Int) := by omega
      have i3 : ¬ (1100 : Int) < (n : Int) := by omega
      go_enter Try.func15, Try.ntmps15
      go_wp2
      go_ret
      exact ⟨congrArg (fun z => Ending.returned (.bool z)) hz.out, Below.refl _ _⟩
end Go.Proofs.Ytaehfildhmljeaa
