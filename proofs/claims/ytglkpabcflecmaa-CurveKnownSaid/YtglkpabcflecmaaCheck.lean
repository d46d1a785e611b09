/- 'pieces', 'piece.check', 'Check'. -/
import Derived.Test.YtglkpabcflecmaaIter
namespace Go.Proofs.Ytglkpabcflecmaa
open Go.RowKit Go.Shelf

abbrev cv (b off n cap : Nat) : Value := .agg #[.slice (some ⟨b, off, none⟩) n cap]

theorem pieces_any (b off n cap : Nat) (w : World) :
    Calls Try.prog 60 #[cv b off n cap] w fun e w' => e = .returned (.func (.func 89) #[] #[.pointer (some ⟨w.heap.size, 0, none⟩)]) ∧ w' = w.alloc (.cells #[.slice (some ⟨b, off, none⟩) n cap] 24) := by
  go_enter Try.func60, Try.ntmps60
  go_wp2
  go_ret
  exact ⟨rfl, rfl⟩

/-- The error of one piece. -/
def perrOf (l d : Int) : Int := if l * l ≠ d then 3 else if l < 1000 ∨ 1048576 < l then 2 else 0

set_option maxRecDepth 100000 in
set_option maxHeartbeats 2000000 in
theorem pcheck_n (x y p q l s d : Int) (w : World) (hp : okd p) (hq : okd q) (hd : Hid (p * p + q * q = d)) (hl : 0 ≤ l * l) (hl' : l * l ≤ 4503599627370496) :
    Calls Try.prog 61 #[.agg #[.int .i64 x, .int .i64 y, .int .i64 p, .int .i64 q, .int .i64 l, .int .i64 s]] w fun e w' => e = .returned (.int .i64 (perrOf l d)) ∧ Below w.heap.size w w' := by
  have h1 : Hid (l * l ≠ d → perrOf l d = 3) := fun h => by unfold perrOf; rw [if_pos h]
  have h2 : Hid (l * l = d → l < 1000 ∨ 1048576 < l → perrOf l d = 2) := fun h h' => by unfold perrOf; rw [if_neg (by simp [h]), if_pos h']
  have h3 : Hid (l * l = d → ¬ (l < 1000 ∨ 1048576 < l) → perrOf l d = 0) := fun h h' => by unfold perrOf; rw [if_neg (by simp [h]), if_neg h']
  generalize perrOf l d = r at *
  go_enter Try.func61, Try.ntmps61
  go_wp2
  have hbx := BoxAt.new w 81 #[.int .i64 x, .int .i64 y, .int .i64 p, .int .i64 q, .int .i64 l, .int .i64 s]
  have hB0 : Below w.heap.size w (w.alloc (.cells #[.int .i64 x, .int .i64 y, .int .i64 p, .int .i64 q, .int .i64 l, .int .i64 s] 81)) := (Below.refl _ _).alloc (Nat.le_refl _) _
  generalize w.alloc (.cells #[.int .i64 x, .int .i64 y, .int .i64 p, .int .i64 q, .int .i64 l, .int .i64 s] 81) = w0 at hbx hB0 ⊢
  have c2 : w0.cell? ⟨w.heap.size, 2, none⟩ = some (.int .i64 p) := hbx.cell 2
  have c3 : w0.cell? ⟨w.heap.size, 3, none⟩ = some (.int .i64 q) := hbx.cell 3
  have c4 : w0.cell? ⟨w.heap.size, 4, none⟩ = some (.int .i64 l) := hbx.cell 4
  have lt := hbx.lt
  go_cut [13] from 3 to 12 (fun v w' => ∃ t : Bool, v = .bool t ∧ Hid ((t = true ↔ l * l ≠ d)) ∧ Below w0.heap.size w0 w')
  case first =>
    go_region_held3 (fun w' => w'.cell? ⟨w.heap.size, 2, none⟩ = some (.int .i64 p) ∧ w'.cell? ⟨w.heap.size, 3, none⟩ = some (.int .i64 q) ∧ w'.cell? ⟨w.heap.size, 4, none⟩ = some (.int .i64 l))
      (first | (refine ⟨?_, ?_, ?_⟩ <;> (refine (Below.cell (w := w0) (B := w0.heap.size) ?_ (by assumption)).trans (by assumption); (repeat (first | (with_reducible exact hb1) | (with_reducible exact Below.refl _ _) | ((with_reducible refine bset ?_ ?_ _); (first | exact Nat.le_refl _ | omega | (simp; omega) | simp)) | ((with_reducible refine balloc ?_ ?_ _); (first | exact Nat.le_refl _ | omega | (simp; omega) | simp)) | (with_reducible refine Below.drew ?_) | refine Below.trans ?_ (hb1.mono (by first | omega | (simp; omega) | simp)))))) | go_keep)
      (first | (go_at_call 62; refine (dot_n _ _ _ _ d _ hp hq hp hq hd.out).mono ?_; rintro e w1 ⟨rfl, hb1⟩))
    all_goals go_wp2
    all_goals go_meet
    exact ⟨_, rfl, Lib.hid (by rw [IntWalk.i64_in (l * l) (by omega)]; simp), by (repeat (first | (with_reducible exact hb1) | (with_reducible exact Below.refl _ _) | ((with_reducible refine bset ?_ ?_ _); (first | exact Nat.le_refl _ | omega | (simp; omega) | simp)) | ((with_reducible refine balloc ?_ ?_ _); (first | exact Nat.le_refl _ | omega | (simp; omega) | simp)) | (with_reducible refine Below.drew ?_) | refine Below.trans ?_ (hb1.mono (by first | omega | (simp; omega) | simp))))⟩
  case rest =>
    obtain ⟨t, rfl, ht, hbw⟩ := hcut
    have d4 := (hbw.cell (p := ⟨w.heap.size, 4, none⟩) lt).trans c4
    have hsz := hB0.size
    clear hbx c2 c3 c4
    cases t with
    | true =>
      have hr := Lib.hid (h1.out (ht.out.1 rfl))
      go_wp2
      go_ret
      exact ⟨congrArg (fun z => Ending.returned (.int .i64 z)) hr.out.symm, hB0.trans (hbw.mono hsz)⟩
    | false =>
      have hE : Hid (l * l = d) := Classical.not_not.1 (fun h => absurd (ht.out.2 h) (by simp))
      by_cases l1 : l < 1000
      · have hr := Lib.hid (h2.out hE.out (.inl l1))
        go_wp2
        go_ret
        exact ⟨congrArg (fun z => Ending.returned (.int .i64 z)) hr.out.symm, hB0.trans (hbw.mono hsz)⟩
      · by_cases l2 : 1048576 < l
        · have hr := Lib.hid (h2.out hE.out (.inr l2))
          go_wp2
          go_ret
          exact ⟨congrArg (fun z => Ending.returned (.int .i64 z)) hr.out.symm, hB0.trans (hbw.mono hsz)⟩
        · have hr := Lib.hid (h3.out hE.out (by omega))
          go_wp2
          go_ret
          exact ⟨congrArg (fun z => Ending.returned (.int .i64 z)) hr.out.symm, hB0.trans (hbw.mono hsz)⟩
end Go.Proofs.Ytglkpabcflecmaa
