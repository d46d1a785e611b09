/- The builtin max of four numbers. -/
import Derived.Test.YtaehfildhmljeaaKCl
namespace Go.Proofs.Ytaehfildhmljeaa
open Go.RowKit Go.Shelf

theorem run_max4 (a b c d M : Int) (h1 : M = a ∨ M = b ∨ M = c ∨ M = d) (h2 : a ≤ M) (h3 : b ≤ M) (h4 : c ≤ M) (h5 : d ≤ M) (W : World) :
    Sem.run Try.prog (Builtin.max_ #[2, 2, 2, 2] 2 #[.int .i64 a, .int .i64 b, .int .i64 c, .int .i64 d]) W = Result.ok (.int .i64 M) W := by
  have e : Sem.run Try.prog (Builtin.max_ #[2, 2, 2, 2] 2 #[.int .i64 a, .int .i64 b, .int .i64 c, .int .i64 d]) W = Result.ok (.int .i64 (if d > (if c > (if b > a then b else a) then c else (if b > a then b else a)) then d else (if c > (if b > a then b else a) then c else (if b > a then b else a)))) W := by
    rfl
  rw [e]
  have : (if d > (if c > (if b > a then b else a) then c else (if b > a then b else a)) then d else (if c > (if b > a then b else a) then c else (if b > a then b else a))) = M := by
    (repeat' split) <;> omega
  rw [this]
end Go.Proofs.Ytaehfildhmljeaa
