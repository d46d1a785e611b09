/- SameGroups of two rows of the same rows of numbers. -/
import Derived.Test.YtaehfildhmljeaaSIn
namespace Go.Proofs.Ytaehfildhmljeaa
open Go.RowKit Go.Shelf

/-- Rows of numbers, owned from some block on. -/
def Grps (W : World) (v : Value) (R : List (List Nat)) : Prop := ∃ base, SegsAt W base v R
theorem Grps.below {W W' : World} {v : Value} {R : List (List Nat)} (h : Grps W v R) (hb : Below W.heap.size W W') : Grps W' v R := by
  obtain ⟨base, h⟩ := h
  exact ⟨base, h.below hb⟩
theorem Grps.form {W : World} {v : Value} {R : List (List Nat)} (h : Grps W v R) : ∃ A c, v = .slice A R.length c := by
  obtain ⟨base, xs, h1, h, _⟩ := h
  by_cases h0 : R.length = 0
  · rcases h.2 with ⟨rfl, h2⟩ | ⟨g, cap, cur, rfl, _⟩
    · exact ⟨none, 0, by rw [h0]⟩
    · exact ⟨_, _, rfl⟩
  · obtain ⟨g, c, rfl, _⟩ := h.form (by omega)
    exact ⟨_, _, rfl⟩
theorem Grps.cell {W : World} {A : Option Addr} {c : Nat} {R : List (List Nat)} (h : Grps W (.slice A R.length c) R) {k : Nat} (hk : k < R.length) :
    ∃ g x, A = some ⟨g, 0, none⟩ ∧ Row W x R[k] ∧ W.cell? ⟨g, k, none⟩ = some x := by
  obtain ⟨base, xs, h1, h, h3, _⟩ := h
  obtain ⟨g, cap, hv, hg, _⟩ := h.form (by omega)
  obtain ⟨rfl, rfl⟩ : A = some ⟨g, 0, none⟩ ∧ c = cap := by simpa using hv
  have hx : xs[k]? = some xs[k] := List.getElem?_eq_getElem (by omega)
  refine ⟨g, xs[k], rfl, ⟨base, h3 k _ _ hx (List.getElem?_eq_getElem hk)⟩, ?_⟩
  have := World.ownsRow.cellAt h k (by omega)
  rw [this, hx]

set_option maxHeartbeats 4000000 in
theorem same_groups (v1 v2 : Value) (R : List (List Nat)) (w : World) (hn : R.length ≤ 1000000) (hr : ∀ k (h : k < R.length), R[k].length ≤ 1000000) (h1 : Grps w v1 R) (h2 : Grps w v2 R) :
    Calls Try.prog 36 #[v1, v2] w fun e w' => e = .returned (.bool true) ∧ Below w.heap.size w w' := by
  obtain ⟨A1, c1, rfl⟩ := h1.form
  obtain ⟨A2, c2, rfl⟩ := h2.form
  have H1 := Lib.hid h1
  have H2 := Lib.hid h2
  have HRR := Lib.hid hr
  clear h1 h2 hr
  obtain ⟨n, hn'⟩ : ∃ n, n = R.length := ⟨_, rfl⟩
  rw [← hn'] at hn ⊢
  have HN := Lib.hid hn'
  clear hn'
  go_enter Try.func36, Try.ntmps36
  go_wp2
  go_loopw [5] (fun i wr => ∃ k : Nat, k ≤ n ∧ i = .int .i64 k ∧ Hid (Below w.heap.size w wr)) (fun i _ => n - (intOf i).toNat)
  case atStart => exact ⟨0, Nat.zero_le _, rfl, Lib.hid (Below.refl _ _)⟩
  case round =>
    obtain ⟨k, hk, rfl, HB⟩ := hrel
    by_cases hlt : k < n
    · obtain ⟨g1, x1, rfl, hx1, d0⟩ := (H1.out.below HB.out).cell (k := k) (by rw [← HN.out]; exact hlt)
      obtain ⟨g2, x2, rfl, hx2, d1⟩ := (H2.out.below HB.out).cell (k := k) (by rw [← HN.out]; exact hlt)
      obtain ⟨Ax, cx, rfl⟩ := hx1.form
      obtain ⟨Ay, cy, rfl⟩ := hx2.form
      have i1 : (0 : Int) ≤ (k : Int) := Int.natCast_nonneg _
      have i2 : (k : Int) < (n : Int) := by omega
      have l1 := World.block_lt_of_cell? wr _ d0
      have l2 := World.block_lt_of_cell? wr _ d1
      have HS := Lib.hid (fun (W : World) (hW : Below wr.heap.size wr W) => same_ints _ _ _ W (HRR.out k (by rw [← HN.out]; exact hlt)) (hx1.below hW) (hx2.below hW))
      have hBr := Below.refl wr.heap.size wr
      clear hx1 hx2
      obtain ⟨q, hq⟩ : ∃ q, q = (R[k]'(by rw [← HN.out]; exact hlt)).length := ⟨_, rfl⟩
      rw [← hq] at HS d0 d1
      clear hq
      go_upto_region 6 with fail
      go_cut [26] from 17 to 26 (fun v w' => v = .bool false ∧ Below wr.heap.size wr w')
      case first =>
        go_region_held3 (fun w' => w'.cell? ⟨g1, k, none⟩ = some (.slice Ax q cx) ∧ w'.cell? ⟨g2, k, none⟩ = some (.slice Ay q cy))
          (first | exact ⟨d0, d1⟩ | go_keep | (exact ⟨(Below.cell (w := wr) (B := wr.heap.size) hBw l1).trans d0, (Below.cell (w := wr) (B := wr.heap.size) hBw l2).trans d1⟩))
          (first | (go_at_call 27; (with_reducible refine (HS.out wr.drew (Below.drew (Below.refl _ _))).mono ?_); rintro e w1 ⟨rfl, hb1⟩; have hBw : Below wr.heap.size wr w1 := below_step (Below.drew (Below.refl _ _)) hb1))
        all_goals go_wp2
        all_goals go_meet
        exact ⟨rfl, hBw⟩
      case rest =>
        obtain ⟨wx, rfl⟩ : ∃ x : World, x = wc := ⟨_, rfl⟩
        obtain ⟨rfl, hB⟩ := hcut
        have HB2 := Lib.hid (below_step HB.out hB)
        clear hB
        go_wp2
        go_roundw
        case rel => exact ⟨k + 1, by omega, by go_num, HB2⟩
        case measure => simp [intOf]; omega
    · obtain rfl : k = n := by omega
      go_wp2
      go_ret
      exact ⟨rfl, HB.out⟩
end Go.Proofs.Ytaehfildhmljeaa
