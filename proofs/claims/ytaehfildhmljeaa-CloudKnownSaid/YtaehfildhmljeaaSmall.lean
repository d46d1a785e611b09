/- The small functions of package curve: differences, products, the root. -/
import Derived.Test.YtaehfildhmljeaaRows
import Derived.Test.YtaehfildhmljeaaModel
import Derived.WalkKit
import Derived.WalkSpells
import Derived.WalkLawsBesides
import Derived.IntWalk
import Derived.Lib.Hide
namespace Go.Proofs.Ytaehfildhmljeaa
open Go.RowKit

abbrev sp (x y : Int) : Value := .agg #[.int .i64 x, .int .i64 y]

set_option maxHeartbeats 400000 in
theorem minus_any (a b c d : Int) (w : World) (ha : okc a) (hb : okc b) (hc : okc c) (hd : okc d) :
    Calls Try.prog 110 #[sp a b, sp c d] w fun e w' => e = .returned (sp (a - c) (b - d)) ∧ Below w.heap.size w w' := by
  obtain ⟨ha1, ha2⟩ := ha; obtain ⟨hb1, hb2⟩ := hb; obtain ⟨hc1, hc2⟩ := hc; obtain ⟨hd1, hd2⟩ := hd
  go_enter Try.func110, Try.ntmps110
  go_wp2
  exact bodyPost_ret (v := sp (a - c) (b - d)) (by simp [results, Try.results110, go_sem]) rfl ⟨rfl, by
    repeat (first | exact Below.refl _ _ | refine Below.setCell ?_ (by first | omega | (simp; omega) | simp) _ | refine Below.alloc ?_ (by first | omega | (simp; omega) | simp) _)⟩

set_option maxHeartbeats 400000 in
theorem dot_any (a b c d : Int) (w : World) (ha : okd a) (hb : okd b) (hc : okd c) (hd : okd d) :
    Calls Try.prog 111 #[sp a b, sp c d] w fun e w' => e = .returned (.int .i64 (a * c + b * d)) ∧ Below w.heap.size w w' := by
  obtain ⟨h1, h2⟩ := okd_mul ha hc
  obtain ⟨h3, h4⟩ := okd_mul hb hd
  clear ha hb hc hd
  go_enter Try.func111, Try.ntmps111
  go_wp2
  go_ret
  exact ⟨rfl, by
    repeat (first | exact Below.refl _ _ | refine Below.setCell ?_ (by first | omega | (simp; omega) | simp) _ | refine Below.alloc ?_ (by first | omega | (simp; omega) | simp) _)⟩

set_option maxHeartbeats 400000 in
theorem cross_any (a b c d : Int) (w : World) (ha : okd a) (hb : okd b) (hc : okd c) (hd : okd d) :
    Calls Try.prog 120 #[sp a b, sp c d] w fun e w' => e = .returned (.int .i64 (a * d - b * c)) ∧ Below w.heap.size w w' := by
  obtain ⟨h1, h2⟩ := okd_mul ha hd
  obtain ⟨h3, h4⟩ := okd_mul hb hc
  clear ha hb hc hd
  go_enter Try.func120, Try.ntmps120
  go_wp2
  go_ret
  exact ⟨rfl, by
    repeat (first | exact Below.refl _ _ | refine Below.setCell ?_ (by first | omega | (simp; omega) | simp) _ | refine Below.alloc ?_ (by first | omega | (simp; omega) | simp) _)⟩
end Go.Proofs.Ytaehfildhmljeaa
