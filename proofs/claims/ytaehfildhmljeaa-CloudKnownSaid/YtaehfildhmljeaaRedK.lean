/- Cells as keys of a map, and what the map holds. -/
import Derived.Test.YtaehfildhmljeaaRedM
import Derived.Maps.OwnSet
import Derived.DeepKeys4
namespace Go.Proofs.Ytaehfildhmljeaa
open Go.RowKit Go.Shelf Go.Maps Go.WideMaps

theorem Try.laidOut : laidOutB Try.prog = true := by kernel_rfl
theorem Try.row24 : (24 : TypeId) < Try.prog.types.size := of_decide_eq_true (by kernel_rfl)
theorem Try.wide24 : (match Try.prog.underlying 24 with | some (.array _ _) | some (.struct _) => true | _ => false) = true := by kernel_rfl
set_option maxRecDepth 100000 in
theorem Try.law24 : KeyLaw Try.prog 24 := deep_law_laid Try.laidOut (m := 3) (by omega) Try.row24 (by kernel_rfl) Try.wide24
theorem Try.keyed24 : Keyed Try.prog 24 := Keyed.of_law Try.law24
theorem Try.keyType24 : Try.prog.keyType 24 = true := by kernel_rfl
theorem Try.cells24 : Try.prog.cellsOf 24 = 2 := by kernel_rfl
theorem Try.cells2 : Try.prog.cellsOf 2 = 1 := by kernel_rfl
set_option maxRecDepth 100000 in
theorem key_ok (x y : Int) (hx : (Lit.int .i64 x).wf = true) (hy : (Lit.int .i64 y).wf = true) : ∃ l, keyOf Try.prog 24 (sp x y) = some l := by
  obtain ⟨m, hm⟩ : ∃ m, Try.prog.types.size + 1 = m + 2 := by
    have h : (24 : Nat) < Try.prog.types.size := Try.row24
    generalize Try.prog.types.size = z at h ⊢
    exact ⟨z - 1, by omega⟩
  unfold keyOf
  rw [hm]
  simp [Try.underlying24, Try.keyType24, Value.formed, Try.cells24, Program.keyLits, Try.cells2, Try.underlying2, hx, hy, Value.cells]
/-- The key of a cell. -/
noncomputable def kL (c : Int × Int) : Lit := (keyOf Try.prog 24 (sp c.1 c.2)).getD (.bool true)
/-- The numbers of a cell are such that it is a key. -/
def wfC (c : Int × Int) : Prop := (Lit.int .i64 c.1).wf = true ∧ (Lit.int .i64 c.2).wf = true
theorem kL_is {c : Int × Int} (h : wfC c) : keyOf Try.prog 24 (sp c.1 c.2) = some (kL c) := by
  obtain ⟨l, hl⟩ := key_ok c.1 c.2 h.1 h.2
  unfold kL
  rw [hl]
  rfl
theorem kL_inj {c d : Int × Int} (hc : wfC c) (hd : wfC d) (e : kL c = kL d) : c = d := by
  have h := Try.law24.inj (kL_is hc) (by rw [e]; exact kL_is hd)
  obtain ⟨a, b⟩ := c
  obtain ⟨a', b'⟩ := d
  simp [sp] at h
  rw [h.1, h.2]
set_option maxRecDepth 100000 in
theorem kL_key {c : Int × Int} (h : wfC c) : WideAt.IsKeyLit (kL c) := Try.keyed24.key (kL_is h)

set_option maxRecDepth 100000 in
/-- Keys of cells, without their making. -/
theorem keys_ex : ∃ K : Int × Int → Lit, (∀ c, wfC c → keyOf Try.prog 24 (sp c.1 c.2) = some (K c)) ∧ (∀ c, wfC c → WideAt.IsKeyLit (K c)) ∧ (∀ c d, wfC c → wfC d → K c = K d → c = d) :=
  ⟨kL, fun _ h => kL_is h, fun _ h => kL_key h, fun _ _ h h' e => kL_inj h h' e⟩

/-- The map behind the first k points: each cell's place among the kept ones. -/
def redD (K : Int × Int → Lit) (C : Nat → Int × Int) : Nat → DataW Unit
  | 0 => .map []
  | k + 1 => if fstB C k then (redD K C k).put (K (C k)) (.lit (.int .i64 (rnk C k))) else redD K C k
theorem redD_succ (K : Int × Int → Lit) (C : Nat → Int × Int) (k : Nat) : redD K C (k + 1) = if fstB C k then (redD K C k).put (K (C k)) (.lit (.int .i64 (rnk C k))) else redD K C k := rfl
theorem redD_map (K : Int × Int → Lit) (C : Nat → Int × Int) : ∀ k, IsMap (redD K C k) := by
  intro k
  induction k with
  | zero => exact isMap_empty
  | succ k ih =>
    rw [redD_succ]
    split
    · exact ih.put _ _
    · exact ih
section
variable {K : Int × Int → Lit} {C : Nat → Int × Int} {n : Nat} (hk : ∀ i, i < n → WideAt.IsKeyLit (K (C i))) (hinj : ∀ i j, i < n → j < n → K (C i) = K (C j) → C i = C j)
include hk hinj
theorem redD_has {i : Nat} (hi : i < n) : ∀ k, k ≤ n → (Maps.has (redD K C k) (K (C i)) = true ↔ ∃ j, j < k ∧ C j = C i) := by
  intro k
  induction k with
  | zero => intro _; constructor
            · intro h; simp [redD, Maps.has] at h
            · rintro ⟨j, hj, _⟩; omega
  | succ k ih =>
    intro hkn
    have h1 := ih (by omega)
    by_cases he : C k = C i
    · have hyes : Maps.has (redD K C (k + 1)) (K (C i)) = true := by
        rw [redD_succ]
        by_cases hf : fstB C k = true
        · rw [if_pos hf, ← he]
          exact has_put_same (redD_map K C k) (hk k (by omega)) _
        · rw [if_neg hf, h1]
          refine Classical.byContradiction fun hn => hf (fstB_iff.2 fun j hj e => hn ⟨j, hj, e.trans he⟩)
      exact ⟨fun _ => ⟨k, by omega, he⟩, fun _ => hyes⟩
    · have hsame : Maps.has (redD K C (k + 1)) (K (C i)) = Maps.has (redD K C k) (K (C i)) := by
        rw [redD_succ]
        split
        · exact has_put_other (fun e => he (hinj k i (by omega) hi e.symm)) _
        · rfl
      rw [hsame, h1]
      constructor
      · rintro ⟨j, hj, e⟩; exact ⟨j, by omega, e⟩
      · rintro ⟨j, hj, e⟩
        refine ⟨j, ?_, e⟩
        have : j ≠ k := fun h => he (by rw [← h]; exact e)
        omega
theorem redD_at {j : Nat} (hf : fstB C j = true) (z : DataW Unit) : ∀ k, j < k → k ≤ n → (redD K C k).atKey (K (C j)) z = .lit (.int .i64 (rnk C j)) := by
  intro k
  induction k with
  | zero => intro h; omega
  | succ k ih =>
    intro hj hkn
    rw [redD_succ]
    by_cases he : j = k
    · subst he
      rw [if_pos hf]
      exact atKey_put_same (redD_map K C j) (hk j (by omega)) _ _
    · have h1 := ih (by omega) (by omega)
      by_cases hk2 : fstB C k = true
      · rw [if_pos hk2, atKey_put_other _ _ _, h1]
        exact fun e => he (fst_uniq hf hk2 (hinj j k (by omega) (by omega) e))
      · rw [if_neg hk2, h1]
end
end Go.Proofs.Ytaehfildhmljeaa
