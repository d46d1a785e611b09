/- Plain mathematics of what is near a spot: the list of offsets; and one spot held valid. -/
import Derived.Test.YtglkpabcflecmaaFoot
import Derived.Test.YtglkpabcflecmaaCks
import Derived.Test.YtglkpabcflecmaaRnd
namespace Go.Proofs.Ytglkpabcflecmaa
open Go.RowKit Go.Shelf

def footI (c : Crv) (a b : Int) (i : Nat) : Int := c.wx i * (a - c.X i) + c.wy i * (b - c.Y i)
def sideI (c : Crv) (a b : Int) (i : Nat) : Int := c.wx i * (b - c.Y i) - c.wy i * (a - c.X i)
def distI (c : Crv) (a b : Int) (i : Nat) : Int := max (sideI c a b i) (-sideI c a b i)
def besideB (c : Crv) (a b r : Int) (i : Nat) : Bool := decide (-r * c.len i ≤ footI c a b i) && decide (footI c a b i ≤ (c.len i + r) * c.len i)
def nearB (c : Crv) (a b r : Int) (i : Nat) : Bool := besideB c a b r i && decide (distI c a b i ≤ r * c.len i)
def offI (c : Crv) (a b : Int) (i : Nat) : Int := c.st i + min (max (footI c a b i / c.len i) 0) (c.len i)
/-- What is near, of the first k pieces. -/
def nearL (c : Crv) (a b r : Int) : Nat → List Int
  | 0 => []
  | k + 1 => nearL c a b r k ++ if nearB c a b r k then [offI c a b k] else []
theorem nearL_len (c : Crv) (a b r : Int) (k : Nat) : (nearL c a b r k).length ≤ k := by
  induction k with
  | zero => simp [nearL]
  | succ k ih => simp only [nearL]; split <;> simp <;> omega
/-- What is near, of the pieces that have been seen. -/
def nearP (c : Crv) (a b r : Int) {N : Nat} (pre : List (Ix N)) : List Int := pre.flatMap fun x => if nearB c a b r x.1 then [offI c a b x.1] else []
theorem nearP_snoc (c : Crv) (a b r : Int) {N : Nat} (pre : List (Ix N)) (x : Ix N) : nearP c a b r (pre ++ [x]) = nearP c a b r pre ++ if nearB c a b r x.1 then [offI c a b x.1] else [] := by simp [nearP]
theorem nearP_upto (c : Crv) (a b r : Int) {N k : Nat} (hk : k ≤ N) : nearP c a b r (upto N k) = nearL c a b r k := by
  induction k with
  | zero => rw [upto_zero]; rfl
  | succ k ih => rw [upto_succ (by omega), nearP_snoc, ih (by omega)]; rfl
theorem nearP_all (c : Crv) (a b r : Int) (N : Nat) : nearP c a b r (allIx N) = nearL c a b r N := by
  rw [← nearP_upto c a b r (Nat.le_refl N)]; unfold upto; rw [List.take_of_length_le (by rw [allIx_length]; exact Nat.le_refl _)]
theorem nearP_len (c : Crv) (a b r : Int) {N : Nat} (pre : List (Ix N)) : (nearP c a b r pre).length ≤ pre.length := by
  induction pre with
  | nil => simp [nearP]
  | cons x xs ih =>
    have : nearP c a b r (x :: xs) = (if nearB c a b r x.1 then [offI c a b x.1] else []) ++ nearP c a b r xs := by simp [nearP]
    rw [this, List.length_append]
    split <;> simp <;> omega
theorem ints_list {w : World} {base g cap : Nat} {L : List Int} (h : w.ownsRow base 2 1 (.slice (some ⟨g, 0, none⟩) L.length cap) L.length (L.map (.int .i64))) : Ints w g L.length (fun i => L.getD i 0) := by
  refine Ints.of_own (base := base) (cap := cap) ?_
  have : cellsI (fun i => L.getD i 0) L.length = L.map (.int .i64) := by
    have h2 : ∀ (f : Nat → Int) (k : Nat), cellsI f k = (List.range k).map (fun i => Value.int .i64 (f i)) := fun f k => by
      induction k with
      | zero => rfl
      | succ k ih => rw [List.range_succ, List.map_append, ← ih]; rfl
    rw [h2]
    apply List.ext_getElem
    · simp
    · intro i h1 h2; simp at h1; simp [h1]
  rw [this]; exact h

theorem foot_bd (c : Crv) (hok : c.AllOk) (a b : Int) (ha : okc a) (hb : okc b) {i : Nat} (hi : i + 1 < c.n) : -2251799813685248 ≤ footI c a b i ∧ footI c a b i ≤ 2251799813685248 := by
  obtain ⟨x1, x2⟩ := okd_mul (Crv.okd_wx hok (i := i) hi) (okd_sub ha (hok i (by omega)).1)
  obtain ⟨y1, y2⟩ := okd_mul (Crv.okd_wy hok (i := i) hi) (okd_sub hb (hok i (by omega)).2)
  unfold footI
  omega
theorem dist_bd (c : Crv) (hok : c.AllOk) (a b : Int) (ha : okc a) (hb : okc b) {i : Nat} (hi : i + 1 < c.n) : 0 ≤ distI c a b i ∧ distI c a b i ≤ 2251799813685248 := by
  obtain ⟨x1, x2⟩ := okd_mul (Crv.okd_wx hok (i := i) hi) (okd_sub hb (hok i (by omega)).2)
  obtain ⟨y1, y2⟩ := okd_mul (Crv.okd_wy hok (i := i) hi) (okd_sub ha (hok i (by omega)).1)
  unfold distI sideI
  omega

theorem valid_one (B : Nat) (a b : Int) (W : World) (hB : BoxAt W B 43 #[.int .i64 a, .int .i64 b]) :
    Calls Try.prog 59 #[.slice (some ⟨B, 0, none⟩) 1 1] W fun e w' => e = .returned (.bool (vldB a b)) ∧ Below W.heap.size W w' := by
  have hp : Pts W B 0 1 (fun _ => a) (fun _ => b) := fun i hi => by
    obtain rfl : i = 0 := by omega
    exact ⟨hB.cell 0, hB.cell 1⟩
  by_cases h : okc a ∧ okc b
  · rw [(vldB_iff a b).2 h]
    exact valid_yes B 0 1 1 _ _ W hp hB.lt (by omega) (fun _ _ => h)
  · have : vldB a b = false := by cases hv : vldB a b with | false => rfl | true => exact absurd ((vldB_iff a b).1 hv) h
    rw [this]
    exact valid_no B 0 1 1 _ _ W hp hB.lt (by omega) 0 (by omega) h

/-- Three boxes: of a curve, of a spot, of a number; and the world behind them. -/
theorem three_boxes (w : World) (s : Value) (a b r : Int) :
    BoxAt (((w.alloc (.cells #[s] 24)).alloc (.cells #[.int .i64 a, .int .i64 b] 43)).alloc (.cells #[.int .i64 r] 2)) w.heap.size 24 #[s] ∧
    BoxAt (((w.alloc (.cells #[s] 24)).alloc (.cells #[.int .i64 a, .int .i64 b] 43)).alloc (.cells #[.int .i64 r] 2)) (w.heap.size + 1) 43 #[.int .i64 a, .int .i64 b] ∧
    BoxAt (((w.alloc (.cells #[s] 24)).alloc (.cells #[.int .i64 a, .int .i64 b] 43)).alloc (.cells #[.int .i64 r] 2)) (w.heap.size + 1 + 1) 2 #[.int .i64 r] ∧
    Below w.heap.size w (((w.alloc (.cells #[s] 24)).alloc (.cells #[.int .i64 a, .int .i64 b] 43)).alloc (.cells #[.int .i64 r] 2)) := by
  have h1 := BoxAt.new (w.alloc (.cells #[s] 24)) 43 #[.int .i64 a, .int .i64 b]
  have h2 := BoxAt.new ((w.alloc (.cells #[s] 24)).alloc (.cells #[.int .i64 a, .int .i64 b] 43)) 2 #[.int .i64 r]
  simp only [World.size_alloc] at h1 h2
  exact ⟨((BoxAt.new w 24 _).alloc _).alloc _, h1.alloc _, h2, (((Below.refl _ w).alloc (Nat.le_refl _) _).alloc (by simp) _).alloc (by simp; omega) _⟩
end Go.Proofs.Ytglkpabcflecmaa
