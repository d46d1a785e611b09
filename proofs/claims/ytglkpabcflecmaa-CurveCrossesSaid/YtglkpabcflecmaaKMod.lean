/- The kit's 'Mod', 'Mod64' and its table of triangles. -/
import Derived.Test.YtglkpabcflecmaaAwk2
import Derived.Test.YtglkpabcflecmaaKMath
namespace Go.Proofs.Ytglkpabcflecmaa
open Go.RowKit Go.Shelf

theorem tmod_cases (n m : Int) (hm : 0 < m) : (n.tmod m < 0 → n % m = n.tmod m + m) ∧ (0 ≤ n.tmod m → n % m = n.tmod m) ∧ -m < n.tmod m ∧ n.tmod m < m := by
  have h1 := Int.emod_nonneg n (show m ≠ 0 by omega)
  have h2 := Int.emod_lt_of_pos n hm
  have h := Int.tmod_eq_emod (a := n) (b := m)
  split at h
  · omega
  · rename_i h3
    have h4 : n % m ≠ 0 := fun h => h3 (.inr (Int.dvd_of_emod_eq_zero h))
    omega

set_option maxHeartbeats 1000000 in
theorem mod_any (n m : Int) (w : World) (hm : 0 < m) (hm' : m ≤ 1048576) : Calls Try.prog 67 #[.int .i64 n, .int .i64 m] w fun e w' => e = .returned (.int .i64 (n % m)) ∧ w = w' := by
  have hm0 : ¬ m = 0 := by omega
  obtain ⟨h1, h2, h3, h4⟩ := tmod_cases n m hm
  obtain ⟨r, hr⟩ : ∃ r, r = n % m := ⟨_, rfl⟩
  rw [← hr] at h1 h2 ⊢
  clear hr
  obtain ⟨t, ht⟩ : ∃ t, n.tmod m = t := ⟨_, rfl⟩
  rw [ht] at h1 h2 h3 h4
  rcases Int.lt_or_le t 0 with h | h
  · have E := Lib.hid (h1 h)
    clear h1 h2
    go_enter Try.func67, Try.ntmps67
    go_wp2
    go_ret
    exact ⟨congrArg (fun z => Ending.returned (.int .i64 z)) E.out.symm, rfl⟩
  · have E := Lib.hid (h2 h)
    clear h1 h2
    go_enter Try.func67, Try.ntmps67
    go_wp2
    go_ret
    exact ⟨congrArg (fun z => Ending.returned (.int .i64 z)) E.out.symm, rfl⟩
set_option maxHeartbeats 1000000 in
theorem mod64_any (n m : Int) (w : World) (hm : 0 < m) (hm' : m ≤ 4294967296) : Calls Try.prog 56 #[.int .i64 n, .int .i64 m] w fun e w' => e = .returned (.int .i64 (n % m)) ∧ w = w' := by
  have hm0 : ¬ m = 0 := by omega
  obtain ⟨h1, h2, h3, h4⟩ := tmod_cases n m hm
  obtain ⟨r, hr⟩ : ∃ r, r = n % m := ⟨_, rfl⟩
  rw [← hr] at h1 h2 ⊢
  clear hr
  obtain ⟨t, ht⟩ : ∃ t, n.tmod m = t := ⟨_, rfl⟩
  rw [ht] at h1 h2 h3 h4
  rcases Int.lt_or_le t 0 with h | h
  · have E := Lib.hid (h1 h)
    clear h1 h2
    go_enter Try.func56, Try.ntmps56
    go_wp2
    go_ret
    exact ⟨congrArg (fun z => Ending.returned (.int .i64 z)) E.out.symm, rfl⟩
  · have E := Lib.hid (h2 h)
    clear h1 h2
    go_enter Try.func56, Try.ntmps56
    go_wp2
    go_ret
    exact ⟨congrArg (fun z => Ending.returned (.int .i64 z)) E.out.symm, rfl⟩

abbrev i64s (l : List Int) : Array Value := (l.map (fun z => Value.int .i64 z)).toArray
abbrev triCells : Array Value := #[.int .i64 1, .int .i64 0, .int .i64 1, .int .i64 3, .int .i64 4, .int .i64 5, .int .i64 4, .int .i64 3, .int .i64 5, .int .i64 5, .int .i64 12, .int .i64 13, .int .i64 12, .int .i64 5, .int .i64 13,
  .int .i64 8, .int .i64 15, .int .i64 17, .int .i64 15, .int .i64 8, .int .i64 17, .int .i64 7, .int .i64 24, .int .i64 25, .int .i64 24, .int .i64 7, .int .i64 25, .int .i64 20, .int .i64 21, .int .i64 29, .int .i64 21, .int .i64 20, .int .i64 29, .int .i64 0, .int .i64 1, .int .i64 1]
set_option maxHeartbeats 1000000 in
theorem triples_any (w : World) : Calls Try.prog 66 #[] w fun e w' => e = .returned (.slice (some ⟨w.heap.size, 0, none⟩) 12 12) ∧ w' = w.alloc (.cells triCells 88) := by
  go_enter Try.func66, Try.ntmps66
  go_wp2
  go_ret
  exact ⟨rfl, rfl⟩
theorem tri_cells {w : World} {g : Nat} (h : BoxAt w g 88 triCells) (r : Nat) (hr : r < 11) :
    w.cell? ⟨g, 0 + r * 3, none⟩ = some (.int .i64 (tri0 r)) ∧ w.cell? ⟨g, 0 + r * 3 + 1, none⟩ = some (.int .i64 (tri1 r)) ∧ w.cell? ⟨g, 0 + r * 3 + 2, none⟩ = some (.int .i64 (tri2 r)) := by
  have : r = 0 ∨ r = 1 ∨ r = 2 ∨ r = 3 ∨ r = 4 ∨ r = 5 ∨ r = 6 ∨ r = 7 ∨ r = 8 ∨ r = 9 ∨ r = 10 := by omega
  rcases this with rfl | rfl | rfl | rfl | rfl | rfl | rfl | rfl | rfl | rfl | rfl <;> exact ⟨h.cell _, h.cell _, h.cell _⟩
end Go.Proofs.Ytglkpabcflecmaa
