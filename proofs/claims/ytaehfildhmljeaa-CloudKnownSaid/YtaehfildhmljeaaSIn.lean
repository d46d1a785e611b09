/- SameInts of two rows of the same numbers. -/
import Derived.Test.YtaehfildhmljeaaSegR
import Derived.BigQuiet
namespace Go.Proofs.Ytaehfildhmljeaa
open Go.RowKit Go.Shelf

/-- A row of numbers, owned from some block on. -/
def Row (W : World) (v : Value) (l : List Nat) : Prop := ∃ base, W.ownsRow base 3 1 v l.length (natV l)
theorem Row.below {W W' : World} {v : Value} {l : List Nat} (h : Row W v l) (hb : Below W.heap.size W W') : Row W' v l := by
  obtain ⟨base, h⟩ := h
  exact ⟨base, h.kept (grown_of_below hb) (Classical.em _)⟩
theorem Row.form {W : World} {v : Value} {l : List Nat} (h : Row W v l) : ∃ A c, v = .slice A l.length c := by
  obtain ⟨base, h⟩ := h
  by_cases h0 : l.length = 0
  · rcases h.2 with ⟨rfl, h2⟩ | ⟨g, cap, cur, rfl, _⟩
    · exact ⟨none, 0, by rw [h0]⟩
    · exact ⟨_, _, rfl⟩
  · obtain ⟨g, c, rfl, _⟩ := h.form (by omega)
    exact ⟨_, _, rfl⟩
theorem Row.cell {W : World} {A : Option Addr} {c : Nat} {l : List Nat} (h : Row W (.slice A l.length c) l) {k : Nat} (hk : k < l.length) :
    ∃ g x, A = some ⟨g, 0, none⟩ ∧ l[k]? = some x ∧ W.cell? ⟨g, k, none⟩ = some (.int .i64 (x : Int)) := by
  obtain ⟨base, h⟩ := h
  obtain ⟨g, cap, hv, hg, _⟩ := h.form (by omega)
  obtain ⟨rfl, rfl⟩ : A = some ⟨g, 0, none⟩ ∧ c = cap := by simpa using hv
  refine ⟨g, l[k], rfl, List.getElem?_eq_getElem hk, ?_⟩
  have := World.ownsRow.cellAt h k (by omega)
  rw [this]
  simp [natV, hk]

set_option maxHeartbeats 4000000 in
theorem same_ints (v1 v2 : Value) (l : List Nat) (w : World) (hn : l.length ≤ 1000000) (h1 : Row w v1 l) (h2 : Row w v2 l) :
    Calls Try.prog 27 #[v1, v2] w fun e w' => e = .returned (.bool true) ∧ Below w.heap.size w w' := by
  obtain ⟨A1, c1, rfl⟩ := h1.form
  obtain ⟨A2, c2, rfl⟩ := h2.form
  have H1 := Lib.hid h1
  have H2 := Lib.hid h2
  clear h1 h2
  obtain ⟨n, hn'⟩ : ∃ n, n = l.length := ⟨_, rfl⟩
  rw [← hn'] at hn ⊢
  have HN := Lib.hid hn'
  clear hn'
  go_enter Try.func27, Try.ntmps27
  go_wp2
  go_loopw [5] (fun i wr => ∃ k : Nat, k ≤ n ∧ i = .int .i64 k ∧ Below w.heap.size w wr) (fun i _ => n - (intOf i).toNat)
  case atStart => exact ⟨0, Nat.zero_le _, rfl, Below.refl _ _⟩
  case round =>
    obtain ⟨k, hk, rfl, hB⟩ := hrel
    by_cases hlt : k < n
    · obtain ⟨g1, x1, rfl, hx1, d0⟩ := (H1.out.below hB).cell (k := k) (by rw [← HN.out]; exact hlt)
      obtain ⟨g2, x2, rfl, hx2, d1⟩ := (H2.out.below hB).cell (k := k) (by rw [← HN.out]; exact hlt)
      obtain rfl : x1 = x2 := Option.some.inj (hx1.symm.trans hx2)
      clear hx1 hx2
      have i1 : (0 : Int) ≤ (k : Int) := Int.natCast_nonneg _
      have i2 : (k : Int) < (n : Int) := by omega
      go_wp2_with fail
      go_quiet (fail)
      go_wp2
      go_roundw
      case rel => exact ⟨k + 1, by omega, by go_num, below_drewN hB _⟩
      case measure => simp [intOf]; omega
    · obtain rfl : k = n := by omega
      go_wp2
      go_ret
      exact ⟨rfl, hB⟩
end Go.Proofs.Ytaehfildhmljeaa
