/- Two arrays of ten numbers that are compared. -/
import Derived.Test.YtnpnfdnaglcnfaaDoorBet
import Derived.DeepKeys
namespace Go.Proofs.YtnpnfdnaglcnfaaDoor
open Go.RowKit Go.Shelf

theorem c102 : Tryd.prog.cellsOf 102 = 10 := by kernel_rfl
theorem c2 : Tryd.prog.cellsOf 2 = 1 := by kernel_rfl
theorem lit_one (a : Int) (h : 0 ≤ a ∧ a ≤ 100000) : Tryd.prog.keyLits 1 2 [iv a] = some [Lit.int .i64 a] := by
  have hw : (Lit.int .i64 a).wf = true := by
    simp only [Lit.wf, Bool.and_eq_true, decide_eq_true_eq]
    exact ⟨Int.le_trans (by decide) h.1, Int.le_trans h.2 (by decide)⟩
  simp [Program.keyLits, Tryd.underlying2, hw]
theorem lit_ten (l : List Int) (hl : l.length = 10) (h : ∀ x ∈ l, 0 ≤ x ∧ x ≤ 100000) : Tryd.prog.keyLits 2 102 (l.map fun x => iv x) = some (l.map fun x => Lit.int .i64 x) := by
  obtain ⟨a0, a1, a2, a3, a4, a5, a6, a7, a8, a9, rfl⟩ := arr10 l hl
  simp only [List.mem_cons, List.not_mem_nil, or_false, forall_eq_or_imp, forall_eq] at h
  obtain ⟨h0, h1, h2, h3, h4, h5, h6, h7, h8, h9⟩ := h
  unfold Program.keyLits
  rw [Tryd.underlying102]
  simp [c102, c2, List.range, List.range.loop, lit_one _ h0, lit_one _ h1, lit_one _ h2, lit_one _ h3, lit_one _ h4, lit_one _ h5, lit_one _ h6, lit_one _ h7, lit_one _ h8, lit_one _ h9]
theorem lit_inj : ∀ l m : List Int, (l.map fun x => Lit.int .i64 x) = (m.map fun x => Lit.int .i64 x) → l = m
  | [], [], _ => rfl
  | [], _ :: _, h => by simp at h
  | _ :: _, [], h => by simp at h
  | x :: l, y :: m, h => by
    simp only [List.map_cons, List.cons.injEq, Lit.int.injEq, true_and] at h
    rw [h.1, lit_inj l m h.2]
theorem eql_ten (l m : List Int) (hl : l.length = 10) (hm : m.length = 10) (h1 : ∀ x ∈ l, 0 ≤ x ∧ x ≤ 100000) (h2 : ∀ x ∈ m, 0 ≤ x ∧ x ≤ 100000) (W : World) :
    Sem.run Tryd.prog (binOp BinOp.eql 102 (.agg (l.map fun x => iv x).toArray) (.agg (m.map fun x => iv x).toArray)) W = .ok (.bool (decide (l = m))) W := by
  have hk : Tryd.prog.keyTypeAt 2 102 = true := by kernel_rfl
  obtain ⟨r, hr, hiff⟩ := run_equalIn_deep (P := Tryd.prog) 9998 2 102 hk W 2 2 (.agg (l.map fun x => iv x).toArray) (.agg (m.map fun x => iv x).toArray) (l.map fun x => Lit.int .i64 x) (m.map fun x => Lit.int .i64 x)
    (by unfold Value.formed; rw [Tryd.underlying102]; simp [c102, hl]) (by unfold Value.formed; rw [Tryd.underlying102]; simp [c102, hm]) (by simpa [Value.cells] using lit_ten l hl h1) (by simpa [Value.cells] using lit_ten m hm h2)
  rw [run_eql_struct, show (10000 : Nat) = 9998 + 2 from rfl, hr]
  have e : r = decide (l = m) := by
    by_cases h : l = m
    · rw [decide_eq_true h]; exact hiff.2 (by rw [h])
    · rw [decide_eq_false h]
      cases r with
      | false => rfl
      | true => exact absurd (lit_inj l m (hiff.1 rfl)) h
  rw [e]
  rfl
end Go.Proofs.YtnpnfdnaglcnfaaDoor
