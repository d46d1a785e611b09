/- shown: the drawn points. -/
import Derived.Test.YtaehfildhmljeaaSegL
namespace Go.Proofs.Ytaehfildhmljeaa
open Go.RowKit Go.Shelf

def shX : Nat → Int := fun i => #[0, 300, 2000, 2000, 300].getD i 0
def shY : Nat → Int := fun i => #[0, 400, 0, 100, 400].getD i 0
def shV : Nat → Int := fun i => #[0, 5, 0, 7, 9].getD i 0

theorem shown_any (w : World) : Calls Try.prog 53 #[] w fun e w' => ∃ g, e = .returned (.slice (some ⟨g, 0, none⟩) 5 5) ∧ Clo w' g 0 5 shX shY shV ∧ w.heap.size ≤ g ∧ Below w.heap.size w w' := by
  go_enter Try.func53, Try.ntmps53
  go_wp2
  go_ret
  refine ⟨_, rfl, ?_, Nat.le_refl _, (Below.refl _ w).alloc (Nat.le_refl _) _⟩
  have hq := BoxAt.new w 69 #[.int .i64 0, .int .i64 0, .int .i64 0, .int .i64 300, .int .i64 400, .int .i64 5, .int .i64 2000, .int .i64 0, .int .i64 0, .int .i64 2000, .int .i64 100, .int .i64 7, .int .i64 300, .int .i64 400, .int .i64 9]
  intro i hi
  have : i = 0 ∨ i = 1 ∨ i = 2 ∨ i = 3 ∨ i = 4 := by omega
  rcases this with rfl | rfl | rfl | rfl | rfl <;> exact ⟨hq.cell _, hq.cell _, hq.cell _⟩
end Go.Proofs.Ytaehfildhmljeaa
