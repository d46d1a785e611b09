/- Corridors as plain mathematics; 'far', 'between' and 'separates'. -/
import Derived.Test.YtglkpabcflecmaaModel
import Derived.Test.YtglkpabcflecmaaSide
import Derived.Test.YtglkpabcflecmaaFoot
import Derived.Test.YtglkpabcflecmaaRChk
import Derived.BigQuiet
namespace Go.Proofs.Ytglkpabcflecmaa

/-- A corridor: where its piece begins, its vector, length, start; the half width; from and to. -/
structure Cor where
  (x y p q l s h a b : Int)
namespace Cor
/-- Its axes, and its bounds along them. -/
def ax (A : Cor) (i : Nat) : Int := if i = 0 then A.p else -A.q
def ay (A : Cor) (i : Nat) : Int := if i = 0 then A.q else A.p
def lo (A : Cor) (i : Nat) : Int := if i = 0 then A.a else -A.h
def hi (A : Cor) (i : Nat) : Int := if i = 0 then A.b else A.h
structure Ok (A : Cor) : Prop where
  x : okc A.x
  y : okc A.y
  sq : A.p * A.p + A.q * A.q = A.l * A.l
  l0 : 1 ≤ A.l
  l1 : A.l ≤ 1048576
  h0 : 0 ≤ A.h
  h1 : A.h ≤ 4000
  a0 : 0 ≤ A.a
  a1 : A.a ≤ A.l
  b0 : 0 ≤ A.b
  b1 : A.b ≤ A.l
def reach (A B : Cor) : Int := A.l + A.h + B.l + B.h
def d2 (A B : Cor) : Int := (B.x - A.x) * (B.x - A.x) + (B.y - A.y) * (B.y - A.y)
/-- The two begin too far apart. -/
def farB (A B : Cor) : Bool := decide (reach A B * reach A B < d2 A B)
/-- What the axis (u, v) of A makes of the axis j of B. -/
def tn (u v : Int) (B : Cor) (j : Nat) : Int := u * B.ax j + v * B.ay j
def mn (u v : Int) (B : Cor) (j : Nat) : Int := min (tn u v B j * B.lo j) (tn u v B j * B.hi j)
def mx (u v : Int) (B : Cor) (j : Nat) : Int := max (tn u v B j * B.lo j) (tn u v B j * B.hi j)
def base (A B : Cor) (u v : Int) : Int := (u * (B.x - A.x) + v * (B.y - A.y)) * B.l
def lowK (A B : Cor) (u v : Int) : Nat → Int
  | 0 => base A B u v
  | j + 1 => lowK A B u v j + mn u v B j
def highK (A B : Cor) (u v : Int) : Nat → Int
  | 0 => base A B u v
  | j + 1 => highK A B u v j + mx u v B j
/-- The axis i of A separates the two. -/
def sepI (A B : Cor) (i : Nat) : Bool := decide (highK A B (A.ax i) (A.ay i) 2 < A.lo i * (A.l * B.l)) || decide (A.hi i * (A.l * B.l) < lowK A B (A.ax i) (A.ay i) 2)
def sepB (A B : Cor) : Bool := sepI A B 0 || sepI A B 1
def meetB (A B : Cor) : Bool := !farB A B && (!sepB A B && !sepB B A)
/-- The part from s to t. -/
def cut (A : Cor) (s t : Int) : Cor := { A with a := s, b := t }

theorem Ok.cut {A : Cor} (h : A.Ok) {s t : Int} (s0 : 0 ≤ s) (s1 : s ≤ A.l) (t0 : 0 ≤ t) (t1 : t ≤ A.l) : (A.cut s t).Ok := ⟨h.x, h.y, h.sq, h.l0, h.l1, h.h0, h.h1, s0, s1, t0, t1⟩
end Cor

theorem sq_nonneg' (x : Int) : 0 ≤ x * x := by
  rcases Int.le_total 0 x with h | h
  · exact Int.mul_nonneg h h
  · have := Int.mul_nonneg (show 0 ≤ -x by omega) (show 0 ≤ -x by omega)
    rwa [Int.neg_mul_neg] at this
/-- If its square is at most M M, a number is from -M to M. -/
theorem abs_of_sq {t M : Int} (hM : 0 ≤ M) (h : t * t ≤ M * M) : -M ≤ t ∧ t ≤ M := by
  constructor
  · rcases Int.lt_or_le t (-M) with h1 | h1
    · have := Int.mul_self_lt_mul_self hM (show M < -t by omega)
      rw [Int.neg_mul_neg] at this
      omega
    · exact h1
  · rcases Int.lt_or_le M t with h1 | h1
    · have := Int.mul_self_lt_mul_self hM h1
      omega
    · exact h1
/-- A product of vectors is not above that of their lengths. -/
theorem cauchy {u v x y L R : Int} (hL : 0 ≤ L) (hR : 0 ≤ R) (h1 : u * u + v * v = L * L) (h2 : x * x + y * y ≤ R * R) : -(L * R) ≤ u * x + v * y ∧ u * x + v * y ≤ L * R := by
  refine abs_of_sq (Int.mul_nonneg hL hR) ?_
  have e1 : (u * x + v * y) * (u * x + v * y) + (u * y - v * x) * (u * y - v * x) = (u * u + v * v) * (x * x + y * y) := by grind
  have e2 := sq_nonneg' (u * y - v * x)
  have e3 : (u * u + v * v) * (x * x + y * y) ≤ (u * u + v * v) * (R * R) := Int.mul_le_mul_of_nonneg_left h2 (by rw [h1]; exact sq_nonneg' L)
  have e4 : (u * u + v * v) * (R * R) = L * R * (L * R) := by rw [h1]; grind
  omega
/-- A product with bounds. -/
theorem mul_bd {t M c K : Int} (h1 : -M ≤ t) (h2 : t ≤ M) (h3 : -K ≤ c) (h4 : c ≤ K) : -(M * K) ≤ t * c ∧ t * c ≤ M * K := by
  have hM : 0 ≤ M := by omega
  have hK : 0 ≤ K := by omega
  have a1 : 0 ≤ (M - t) * (K - c) := Int.mul_nonneg (by omega) (by omega)
  have a2 : 0 ≤ (M + t) * (K + c) := Int.mul_nonneg (by omega) (by omega)
  have a3 : 0 ≤ (M - t) * (K + c) := Int.mul_nonneg (by omega) (by omega)
  have a4 : 0 ≤ (M + t) * (K - c) := Int.mul_nonneg (by omega) (by omega)
  constructor <;> grind

namespace Cor
theorem ax_sq {A : Cor} (h : A.Ok) (i : Nat) : A.ax i * A.ax i + A.ay i * A.ay i = A.l * A.l := by
  unfold ax ay
  have := h.sq
  split <;> grind
theorem ax_bd {A : Cor} (h : A.Ok) (i : Nat) : (-A.l ≤ A.ax i ∧ A.ax i ≤ A.l) ∧ -A.l ≤ A.ay i ∧ A.ay i ≤ A.l := by
  have h0 := h.l0
  have h1 := ax_sq h i
  have h2 := sq_nonneg' (A.ax i)
  have h3 := sq_nonneg' (A.ay i)
  exact ⟨abs_of_sq (by omega) (by omega), abs_of_sq (by omega) (by omega)⟩
theorem lohi {A : Cor} (h : A.Ok) (i : Nat) : (-A.l - 4000 ≤ A.lo i ∧ A.lo i ≤ A.l) ∧ -4000 ≤ A.hi i ∧ A.hi i ≤ A.l + 4000 := by
  obtain ⟨_, _, _, _, _, _, _, _, _, _, _⟩ := h
  unfold lo hi
  split <;> omega
theorem lohi1 {A : Cor} (h : A.Ok) (i : Nat) : (-1048576 ≤ A.lo i ∧ A.lo i ≤ 1048576) ∧ -1048576 ≤ A.hi i ∧ A.hi i ≤ 1048576 := by
  obtain ⟨_, _, _, _, _, _, _, _, _, _, _⟩ := h
  unfold lo hi
  split <;> omega
theorem far_sym (A B : Cor) : farB A B = farB B A := by
  have e1 : reach A B = reach B A := by unfold reach; omega
  have e2 : d2 A B = d2 B A := by unfold d2; grind
  unfold farB
  rw [e1, e2]
theorem d2_bd {A B : Cor} (hA : A.Ok) (hB : B.Ok) : okd (B.x - A.x) ∧ okd (B.y - A.y) := ⟨okd_sub hB.x hA.x, okd_sub hB.y hA.y⟩
theorem reach_bd {A B : Cor} (hA : A.Ok) (hB : B.Ok) : 0 ≤ reach A B ∧ reach A B ≤ 2105152 := by
  obtain ⟨_, _, _, _, _, _, _, _, _, _, _⟩ := hA
  obtain ⟨_, _, _, _, _, _, _, _, _, _, _⟩ := hB
  unfold reach
  omega
/-- The bounds of all that 'separates' reckons with. -/
theorem dot_bd {A B : Cor} (hA : A.Ok) (hB : B.Ok) (hf : farB A B = false) (i : Nat) : -2207411863552 ≤ A.ax i * (B.x - A.x) + A.ay i * (B.y - A.y) ∧ A.ax i * (B.x - A.x) + A.ay i * (B.y - A.y) ≤ 2207411863552 := by
  obtain ⟨r0, r1⟩ := reach_bd hA hB
  have hd : d2 A B ≤ reach A B * reach A B := by
    unfold farB at hf
    have := of_decide_eq_false hf
    omega
  have h0 := hA.l0
  have h1 := hA.l1
  obtain ⟨c1, c2⟩ := cauchy (by omega) r0 (ax_sq hA i) hd
  have m := Int.mul_le_mul (show A.l ≤ 1048576 by omega) r1 r0 (by omega)
  omega
theorem base_bd {A B : Cor} (hA : A.Ok) (hB : B.Ok) (hf : farB A B = false) (i : Nat) : -2314639102235901952 ≤ base A B (A.ax i) (A.ay i) ∧ base A B (A.ax i) (A.ay i) ≤ 2314639102235901952 := by
  obtain ⟨h1, h2⟩ := dot_bd hA hB hf i
  have h3 := hB.l0
  have h4 := hB.l1
  have := mul_bound h1 h2 (show -1048576 ≤ B.l by omega) h4
  unfold base
  omega
theorem tn_bd {A B : Cor} (hA : A.Ok) (hB : B.Ok) (i j : Nat) : -1099511627776 ≤ tn (A.ax i) (A.ay i) B j ∧ tn (A.ax i) (A.ay i) B j ≤ 1099511627776 := by
  have h0 := hA.l0
  have h1 := hA.l1
  have h2 := hB.l0
  have h3 := hB.l1
  obtain ⟨c1, c2⟩ := cauchy (by omega) (by omega) (ax_sq hA i) (Int.le_of_eq (ax_sq hB j))
  have m := Int.mul_le_mul h1 h3 (by omega) (by omega)
  unfold tn
  omega
theorem tlo_bd {A B : Cor} (hA : A.Ok) (hB : B.Ok) (i j : Nat) : (-1152921504606846976 ≤ tn (A.ax i) (A.ay i) B j * B.lo j ∧ tn (A.ax i) (A.ay i) B j * B.lo j ≤ 1152921504606846976) ∧ -1152921504606846976 ≤ tn (A.ax i) (A.ay i) B j * B.hi j ∧ tn (A.ax i) (A.ay i) B j * B.hi j ≤ 1152921504606846976 := by
  obtain ⟨h1, h2⟩ := tn_bd hA hB i j
  obtain ⟨⟨h3, h4⟩, h5, h6⟩ := lohi1 hB j
  have m1 := mul_bound h1 h2 h3 h4
  have m2 := mul_bound h1 h2 h5 h6
  omega
theorem mnmx_bd {A B : Cor} (hA : A.Ok) (hB : B.Ok) (i j : Nat) : (-1152921504606846976 ≤ mn (A.ax i) (A.ay i) B j ∧ mn (A.ax i) (A.ay i) B j ≤ 1152921504606846976) ∧ -1152921504606846976 ≤ mx (A.ax i) (A.ay i) B j ∧ mx (A.ax i) (A.ay i) B j ≤ 1152921504606846976 := by
  have := tlo_bd hA hB i j
  unfold mn mx
  omega
theorem low_bd {A B : Cor} (hA : A.Ok) (hB : B.Ok) (hf : farB A B = false) (i : Nat) {j : Nat} (hj : j ≤ 2) : (-4620482111449595904 ≤ lowK A B (A.ax i) (A.ay i) j ∧ lowK A B (A.ax i) (A.ay i) j ≤ 4620482111449595904) ∧ -4620482111449595904 ≤ highK A B (A.ax i) (A.ay i) j ∧ highK A B (A.ax i) (A.ay i) j ≤ 4620482111449595904 := by
  have b0 := base_bd hA hB hf i
  have m0 := mnmx_bd hA hB i 0
  have m1 := mnmx_bd hA hB i 1
  match j, hj with
  | 0, _ => simp only [lowK, highK]; omega
  | 1, _ => simp only [lowK, highK]; omega
  | 2, _ => simp only [lowK, highK]; omega
  | j + 3, h => omega
theorem ll_bd {A B : Cor} (hA : A.Ok) (hB : B.Ok) : 0 ≤ A.l * B.l ∧ A.l * B.l ≤ 1099511627776 := by
  have h0 := hA.l0
  have h1 := hA.l1
  have h2 := hB.l0
  have h3 := hB.l1
  have m := Int.mul_le_mul h1 h3 (by omega) (by omega)
  have m2 := Int.mul_nonneg (show 0 ≤ A.l by omega) (show 0 ≤ B.l by omega)
  omega
theorem lll_bd {A B : Cor} (hA : A.Ok) (hB : B.Ok) (i : Nat) : (-1152921504606846976 ≤ A.lo i * (A.l * B.l) ∧ A.lo i * (A.l * B.l) ≤ 1152921504606846976) ∧ -1152921504606846976 ≤ A.hi i * (A.l * B.l) ∧ A.hi i * (A.l * B.l) ≤ 1152921504606846976 := by
  obtain ⟨h1, h2⟩ := ll_bd hA hB
  obtain ⟨⟨h3, h4⟩, h5, h6⟩ := lohi1 hA i
  have m1 := mul_bound h3 h4 (show -1099511627776 ≤ A.l * B.l by omega) h2
  have m2 := mul_bound h5 h6 (show -1099511627776 ≤ A.l * B.l by omega) h2
  omega
end Cor
end Go.Proofs.Ytglkpabcflecmaa
namespace Go.Proofs.Ytglkpabcflecmaa
open Go.RowKit Go.Shelf

abbrev corC (A : Cor) : Array Value := #[.int .i64 A.x, .int .i64 A.y, .int .i64 A.p, .int .i64 A.q, .int .i64 A.l, .int .i64 A.s, .int .i64 A.h, .int .i64 A.p, .int .i64 A.q, .int .i64 (-A.q), .int .i64 A.p, .int .i64 A.a, .int .i64 (-A.h), .int .i64 A.b, .int .i64 A.h]
abbrev corV (A : Cor) : Value := .agg (corC A)

/-- Two boxes of parameters. -/
theorem cor_boxes (w : World) (A B : Cor) : BoxAt ((w.alloc (.cells (corC A) 101)).alloc (.cells (corC B) 101)) w.heap.size 101 (corC A) ∧ BoxAt ((w.alloc (.cells (corC A) 101)).alloc (.cells (corC B) 101)) (w.heap.size + 1) 101 (corC B) ∧ Below w.heap.size w ((w.alloc (.cells (corC A) 101)).alloc (.cells (corC B) 101)) := by
  have h2 := BoxAt.new (w.alloc (.cells (corC A) 101)) 101 (corC B)
  rw [World.size_alloc] at h2
  exact ⟨(BoxAt.new w 101 (corC A)).alloc _, h2, ((Below.refl _ w).alloc (Nat.le_refl _) _).alloc (by simp) _⟩

set_option maxRecDepth 100000 in
set_option maxHeartbeats 4000000 in
theorem far_any (A B : Cor) (hA : A.Ok) (hB : B.Ok) (w : World) :
    Calls Try.prog 91 #[corV A, corV B] w fun e w' => e = .returned (.bool (A.farB B)) ∧ Below w.heap.size w w' := by
  obtain ⟨b1, b2, hB0⟩ := cor_boxes w A B
  obtain ⟨r0, r1⟩ := Cor.reach_bd hA hB
  have hr : A.l + A.h + B.l + B.h = A.reach B := rfl
  have hd : distF (A.x, A.y) (B.x, B.y) = A.d2 B := by
    unfold distF
    rw [(vp_iff _).2 ⟨hA.x, hA.y⟩, (vp_iff _).2 ⟨hB.x, hB.y⟩]
    rfl
  have HD := Lib.hid (fun W => dist_any (A.x, A.y) (B.x, B.y) (A.d2 B) W (Lib.hid hd))
  have a1 := hA.l0
  have a2 := hA.l1
  have a3 := hB.l0
  have a4 := hB.l1
  have a5 := hA.h0
  have a6 := hA.h1
  have a7 := hB.h0
  have a8 := hB.h1
  have hf : A.farB B = decide (A.reach B * A.reach B < A.d2 B) := rfl
  rw [hf]
  generalize A.reach B = r at *
  generalize A.d2 B = d at *
  have m := Int.mul_le_mul r1 r1 r0 (by omega)
  have m0 := Int.mul_nonneg r0 r0
  clear hd hf hA hB
  obtain ⟨x1, y1, p1, q1, l1, s1, h1, f1, t1⟩ := A
  obtain ⟨x2, y2, p2, q2, l2, s2, h2, f2, t2⟩ := B
  dsimp only [corC, corV] at *
  go_enter Try.func91, Try.ntmps91
  go_upto_region 1 with fail
  generalize (w.alloc _).alloc _ = w0 at *
  have c0 : w0.cell? ⟨w.heap.size, 0, none⟩ = some (.int .i64 x1) := b1.cell 0
  have c1 : w0.cell? ⟨w.heap.size, 1, none⟩ = some (.int .i64 y1) := b1.cell 1
  have c4 : w0.cell? ⟨w.heap.size, 4, none⟩ = some (.int .i64 l1) := b1.cell 4
  have c6 : w0.cell? ⟨w.heap.size, 6, none⟩ = some (.int .i64 h1) := b1.cell 6
  have d0 : w0.cell? ⟨w.heap.size + 1, 0, none⟩ = some (.int .i64 x2) := b2.cell 0
  have d1 : w0.cell? ⟨w.heap.size + 1, 1, none⟩ = some (.int .i64 y2) := b2.cell 1
  have d4 : w0.cell? ⟨w.heap.size + 1, 4, none⟩ = some (.int .i64 l2) := b2.cell 4
  have d6 : w0.cell? ⟨w.heap.size + 1, 6, none⟩ = some (.int .i64 h2) := b2.cell 6
  have e1 := b1.lt
  have e2 := b2.lt
  have HR := Lib.hid hr
  clear b1 b2 hr
  go_upto_region 2 with fail
  rw [HR.out]
  go_wp2_with (go_at_call 39; (with_reducible refine (HD.out _).mono ?_); rintro e w1 ⟨rfl, hb1⟩)
  go_ret
  exact ⟨by simp, below_step hB0 hb1⟩

theorem cor_set2 {W : World} {g : Nat} {A : Cor} (h : BoxAt W g 101 (corC A)) (s t : Int) : BoxAt ((W.setCell ⟨g, 11, none⟩ (.int .i64 s)).setCell ⟨g, 13, none⟩ (.int .i64 t)) g 101 (corC (A.cut s t)) := (h.set 11 (.int .i64 s)).set 13 (.int .i64 t)

set_option maxRecDepth 100000 in
set_option maxHeartbeats 4000000 in
theorem cut_any (A : Cor) (s t : Int) (w : World) :
    Calls Try.prog 95 #[corV A, .int .i64 s, .int .i64 t] w fun e w' => e = .returned (corV (A.cut s t)) ∧ Below w.heap.size w w' := by
  go_enter Try.func95, Try.ntmps95
  go_wp2
  exact bodyPost_ret (v := corV (A.cut s t)) (by simp [results, Try.results95, go_sem, Cor.cut]) rfl ⟨rfl, ((Below.refl _ w).alloc (Nat.le_refl _) _).alloc (by simp) _⟩
end Go.Proofs.Ytglkpabcflecmaa
namespace Go.Proofs.Ytglkpabcflecmaa
open Go.RowKit Go.Shelf

theorem sepB_of {A B : Cor} {i : Nat} (hi : i < 2) (h : A.sepI B i = true) : A.sepB B = true := by
  unfold Cor.sepB
  match i, hi with
  | 0, _ => rw [h]; rfl
  | 1, _ => rw [h]; simp
theorem sepB_none {A B : Cor} (h : ∀ i, i < 2 → A.sepI B i = false) : A.sepB B = false := by
  unfold Cor.sepB
  rw [h 0 (by omega), h 1 (by omega)]
  rfl
theorem run_axes0 (a b c d : Int) (w : World) : (Instr.index 98 (.agg #[.int .i64 a, .int .i64 b, .int .i64 c, .int .i64 d]) (.int .i64 0)).run Try.prog w = .ok (sp a b) w := by
  simp [Instr.index, run_underlying Try.underlying98, asIntOf, go_sem]
theorem run_axes1 (a b c d : Int) (w : World) : (Instr.index 98 (.agg #[.int .i64 a, .int .i64 b, .int .i64 c, .int .i64 d]) (.int .i64 1)).run Try.prog w = .ok (sp c d) w := by
  simp [Instr.index, run_underlying Try.underlying98, asIntOf, go_sem]
theorem run_axes (A : Cor) {i : Nat} (hi : i < 2) (w : World) : (Instr.index 98 (.agg #[.int .i64 A.p, .int .i64 A.q, .int .i64 (-A.q), .int .i64 A.p]) (.int .i64 i)).run Try.prog w = .ok (sp (A.ax i) (A.ay i)) w := by
  match i, hi with
  | 0, _ => exact run_axes0 _ _ _ _ w
  | 1, _ => exact run_axes1 _ _ _ _ w
theorem if_min (P Q : Int) : (if Q < P then Q else P) = min P Q := by split <;> omega
theorem if_max (P Q : Int) : (if P < Q then Q else P) = max P Q := by split <;> omega
theorem cor_lo {W : World} {g : Nat} {A : Cor} (h : BoxAt W g 101 (corC A)) {i : Nat} (hi : i < 2) : W.cell? ⟨g, 11 + i, none⟩ = some (.int .i64 (A.lo i)) := by
  match i, hi with
  | 0, _ => exact h.cell 11
  | 1, _ => exact h.cell 12
theorem cor_hi {W : World} {g : Nat} {A : Cor} (h : BoxAt W g 101 (corC A)) {i : Nat} (hi : i < 2) : W.cell? ⟨g, 13 + i, none⟩ = some (.int .i64 (A.hi i)) := by
  match i, hi with
  | 0, _ => exact h.cell 13
  | 1, _ => exact h.cell 14

set_option maxRecDepth 100000 in
set_option maxHeartbeats 8000000 in
theorem sep_any (A B : Cor) (hA : A.Ok) (hB : B.Ok) (hf : A.farB B = false) (w : World) :
    Calls Try.prog 92 #[corV A, corV B] w fun e w' => e = .returned (.bool (A.sepB B)) ∧ Below w.heap.size w w' := by
  obtain ⟨b1, b2, hB0⟩ := cor_boxes w A B
  have hw1 := hA.x
  have hw2 := hA.y
  have hw3 := hB.x
  have hw4 := hB.y
  have HM := Lib.hid (fun W => minus_any B.x B.y A.x A.y W hw3 hw4 hw1 hw2)
  obtain ⟨ll0, ll1⟩ := Cor.ll_bd hA hB
  obtain ⟨LL, hLL⟩ : ∃ z, z = A.l * B.l := ⟨_, rfl⟩
  rw [← hLL] at ll0 ll1
  have HLL := Lib.hid hLL.symm
  obtain ⟨vx, hvx⟩ : ∃ z, z = B.x - A.x := ⟨_, rfl⟩
  obtain ⟨vy, hvy⟩ : ∃ z, z = B.y - A.y := ⟨_, rfl⟩
  rw [← hvx, ← hvy] at HM
  have hwll : IntKind.i64.wrap (A.l * B.l) = LL := by rw [← hLL]; exact IntWalk.i64_in _ (by omega)
  have HVX := Lib.hid hvx
  have HVY := Lib.hid hvy
  have HA := Lib.hid hA
  have HB := Lib.hid hB
  have HF := Lib.hid hf
  clear hvx hvy hLL hw1 hw2 hw3 hw4 hA hB hf
  have k4 : ((w.alloc (.cells (corC A) 101)).alloc (.cells (corC B) 101)).cell? ⟨w.heap.size, 4, none⟩ = some (.int .i64 A.l) := b1.cell 4
  have m4 : ((w.alloc (.cells (corC A) 101)).alloc (.cells (corC B) 101)).cell? ⟨w.heap.size + 1, 4, none⟩ = some (.int .i64 B.l) := b2.cell 4
  go_enter Try.func92, Try.ntmps92
  go_upto_region 3 with (go_at_call 78; (with_reducible refine (HM.out _).mono ?_); rintro e w1 ⟨rfl, hb1⟩)
  have hz1 := hb1.size
  have hBd := Lib.hid ((below_step hB0 hb1).alloc (by have := hB0.size; omega) (.cells #[.int .i64 vx, .int .i64 vy] 43))
  have g1 := (box_step b1 hb1).alloc (.cells #[.int .i64 vx, .int .i64 vy] 43)
  have g2 := (box_step b2 hb1).alloc (.cells #[.int .i64 vx, .int .i64 vy] 43)
  have g3 := BoxAt.new w1 43 #[.int .i64 vx, .int .i64 vy]
  obtain ⟨Lw, hLw⟩ : ∃ z, z = w1.heap.size := ⟨_, rfl⟩
  rw [← hLw] at g3 ⊢
  clear hLw b1 b2 hB0 hb1 hz1 k4 m4
  generalize w1.alloc (.cells #[.int .i64 vx, .int .i64 vy] 43) = wd at *
  have HW : Hid (∀ W, Below wd.heap.size wd W → BoxAt W w.heap.size 101 (corC A) ∧ BoxAt W (w.heap.size + 1) 101 (corC B) ∧ BoxAt W Lw 43 #[.int .i64 vx, .int .i64 vy]) := fun W hW => ⟨box_step g1 hW, box_step g2 hW, box_step g3 hW⟩
  have k7 : wd.cell? ⟨w.heap.size, 7, none⟩ = some (.int .i64 A.p) := g1.cell 7
  have k8 : wd.cell? ⟨w.heap.size, 8, none⟩ = some (.int .i64 A.q) := g1.cell 8
  have k9 : wd.cell? ⟨w.heap.size, 9, none⟩ = some (.int .i64 (-A.q)) := g1.cell 9
  have k10 : wd.cell? ⟨w.heap.size, 10, none⟩ = some (.int .i64 A.p) := g1.cell 10
  have l1 := g1.lt
  have l2 := g2.lt
  have l3 := g3.lt
  clear g1 g2 g3
  go_wp2
  have I : ∃ i : Nat, i ≤ 2 ∧ (Value.int .i64 0) = .int .i64 i ∧ Hid (∀ j, j < i → A.sepI B j = false) ∧ Hid (Below wd.heap.size wd wd) := ⟨0, by omega, rfl, Lib.hid (fun j hj => absurd hj (by omega)), Lib.hid (Below.refl _ _)⟩
  go_loopw [30] (fun v wr => ∃ i : Nat, i ≤ 2 ∧ v = .int .i64 i ∧ Hid (∀ j, j < i → A.sepI B j = false) ∧ Hid (Below wd.heap.size wd wr)) (fun v _ => 3 - (intOf v).toNat)
  case atStart => exact I
  case round =>
    clear I k7 k8 k9 k10
    obtain ⟨i, hi, rfl, HS, HX⟩ := hrel
    by_cases hi2 : i < 2
    · have i1 : (i : Int) < 2 := by omega
      have HI := fun W => run_axes A hi2 W
      go_upto_region 6 with fail
      have hw6 : Below wr.heap.size wr (wr.alloc (.cells #[.int .i64 (A.ax i), .int .i64 (A.ay i)] 43)) := (Below.refl _ wr).alloc (Nat.le_refl _) _
      have HX6 := Lib.hid (below_step HX.out hw6)
      have bax := BoxAt.new wr 43 #[.int .i64 (A.ax i), .int .i64 (A.ay i)]
      obtain ⟨La, hLa⟩ : ∃ z, z = wr.heap.size := ⟨_, rfl⟩
      rw [← hLa] at bax ⊢
      clear hLa hw6
      generalize wr.alloc (.cells #[.int .i64 (A.ax i), .int .i64 (A.ay i)] 43) = w6 at *
      obtain ⟨q1, q2, q3⟩ := HW.out _ HX6.out
      have d0 := Cor.dot_bd HA.out HB.out HF.out i
      have d1 := Cor.base_bd HA.out HB.out HF.out i
      obtain ⟨⟨x1, x2⟩, x3, x4⟩ := Cor.ax_bd HA.out i
      obtain ⟨y1, y2⟩ := Cor.d2_bd HA.out HB.out
      have a1 := HA.out.l1
      have o1 : okd (A.ax i) := by unfold okd; omega
      have o2 : okd (A.ay i) := by unfold okd; omega
      rw [← HVX.out] at d0 y1
      rw [← HVY.out] at d0 y2
      have HD := Lib.hid (fun W => dot_any (A.ax i) (A.ay i) vx vy W o1 o2 y1 y2)
      obtain ⟨u, hu⟩ : ∃ z, z = A.ax i := ⟨_, rfl⟩
      obtain ⟨v, hv⟩ : ∃ z, z = A.ay i := ⟨_, rfl⟩
      have HU := Lib.hid hu
      have HV := Lib.hid hv
      obtain ⟨bs, hbs⟩ : ∃ z, z = A.base B u v := ⟨_, rfl⟩
      have hbs2 : (u * vx + v * vy) * B.l = bs := by rw [hbs, HVX.out, HVY.out]; rfl
      rw [← hu, ← hv] at HD d0 d1 bax
      rw [← hu] at o1
      rw [← hv] at o2
      rw [← hbs] at d1
      generalize u * vx + v * vy = dd at *
      have hwb : IntKind.i64.wrap (dd * B.l) = bs := by rw [hbs2]; exact IntWalk.i64_in _ (by omega)
      have HBS := Lib.hid hbs
      have k4 : w6.cell? ⟨w.heap.size + 1, 4, none⟩ = some (.int .i64 B.l) := q2.cell 4
      have k0 : w6.cell? ⟨La, 0, none⟩ = some (.int .i64 u) := bax.cell 0
      have k1 : w6.cell? ⟨La, 1, none⟩ = some (.int .i64 v) := bax.cell 1
      have m0 : w6.cell? ⟨Lw, 0, none⟩ = some (.int .i64 vx) := q3.cell 0
      have m1 : w6.cell? ⟨Lw, 1, none⟩ = some (.int .i64 vy) := q3.cell 1
      have n1 := bax.lt
      have n2 := q2.lt
      have n3 := q3.lt
      have HAX := Lib.hid (fun W (hW : Below w6.heap.size w6 W) => box_step bax hW)
      clear x1 x2 x3 x4 y1 y2 hu hv hbs hbs2 d0 a1 q1 q2 q3 bax HI
      go_cut [9] from 34 to 40 (fun v w' => v = .int .i64 bs ∧ Below w6.heap.size w6 w')
      case first =>
        have hBx : Below w6.heap.size w6 w6.drew := (Below.refl _ _).drew
        go_region_held3 (fun w' => w'.cell? ⟨w.heap.size + 1, 4, none⟩ = some (.int .i64 B.l) ∧ w'.cell? ⟨La, 0, none⟩ = some (.int .i64 u) ∧ w'.cell? ⟨La, 1, none⟩ = some (.int .i64 v) ∧ w'.cell? ⟨Lw, 0, none⟩ = some (.int .i64 vx) ∧ w'.cell? ⟨Lw, 1, none⟩ = some (.int .i64 vy))
          (refine ⟨?_, ?_, ?_, ?_, ?_⟩ <;> exact (Below.cell hBx (by assumption)).trans (by assumption))
          (first | (go_at_call 62; (with_reducible refine (HD.out _).mono ?_); rintro e w7 ⟨rfl, hb7⟩; replace hBx := below_step hBx hb7))
        all_goals go_wp2
        all_goals go_meet
        all_goals exact ⟨rfl, hBx⟩
      case rest =>
        obtain ⟨w7, rfl⟩ : ∃ x : World, x = wc := ⟨_, rfl⟩
        obtain ⟨rfl, hb7⟩ := hcut
        clear k0 k1 m0 m1 n1 n2 n3 k4 hwb d1
        have HX7 := Lib.hid (below_step HX6.out hb7)
        obtain ⟨_, q2, _⟩ := HW.out _ HX7.out
        have k7 : w7.cell? ⟨w.heap.size + 1, 7, none⟩ = some (.int .i64 B.p) := q2.cell 7
        have k8 : w7.cell? ⟨w.heap.size + 1, 8, none⟩ = some (.int .i64 B.q) := q2.cell 8
        have k9 : w7.cell? ⟨w.heap.size + 1, 9, none⟩ = some (.int .i64 (-B.q)) := q2.cell 9
        have k10 : w7.cell? ⟨w.heap.size + 1, 10, none⟩ = some (.int .i64 B.p) := q2.cell 10
        have HAX7 := Lib.hid (fun W (hW : Below w7.heap.size w7 W) => HAX.out W (below_step hb7 hW))
        clear q2 hb7 HAX HX6 HX
        go_wp2
        have I : ∃ j : Nat, j ≤ 2 ∧ (Value.int .i64 bs) = .int .i64 (A.lowK B u v j) ∧ (Value.int .i64 bs) = .int .i64 (A.highK B u v j) ∧ (Value.int .i64 0) = .int .i64 j ∧ Hid (Below w7.heap.size w7 w7) := ⟨0, by omega, by rw [HBS.out]; rfl, by rw [HBS.out]; rfl, rfl, Lib.hid (Below.refl _ _)⟩
        go_loopw [9, 10, 44] (fun lv hv jv wr => ∃ j : Nat, j ≤ 2 ∧ lv = .int .i64 (A.lowK B u v j) ∧ hv = .int .i64 (A.highK B u v j) ∧ jv = .int .i64 j ∧ Hid (Below w7.heap.size w7 wr)) (fun _ _ jv _ => 3 - (intOf jv).toNat)
        case atStart => exact I
        case round =>
          clear I k7 k8 k9 k10
          obtain ⟨wj, rfl⟩ : ∃ x : World, x = wr := ⟨_, rfl⟩
          obtain ⟨j, hj, rfl, rfl, rfl, HY⟩ := hrel
          by_cases hj2 : j < 2
          · have j1 : (j : Int) < 2 := by omega
            have HI := fun W => run_axes B hj2 W
            obtain ⟨⟨x1, x2⟩, x3, x4⟩ := Cor.ax_bd HB.out j
            have a1 := HB.out.l1
            have o3 : okd (B.ax j) := by unfold okd; omega
            have o4 : okd (B.ay j) := by unfold okd; omega
            have HD2 := Lib.hid (fun W => dot_any u v (B.ax j) (B.ay j) W o1 o2 o3 o4)
            clear x1 x2 x3 x4 a1 o3 o4
            go_upto_region 11 with fail
            have hwj : Below wj.heap.size wj (wj.alloc (.cells #[.int .i64 (B.ax j), .int .i64 (B.ay j)] 43)) := (Below.refl _ wj).alloc (Nat.le_refl _) _
            have HYB := Lib.hid (below_step HY.out hwj)
            have bbx := BoxAt.new wj 43 #[.int .i64 (B.ax j), .int .i64 (B.ay j)]
            obtain ⟨Lb, hLb⟩ : ∃ z, z = wj.heap.size := ⟨_, rfl⟩
            rw [← hLb] at bbx ⊢
            clear hLb hwj
            generalize wj.alloc (.cells #[.int .i64 (B.ax j), .int .i64 (B.ay j)] 43) = w11 at *
            have z0 : w11.cell? ⟨Lb, 0, none⟩ = some (.int .i64 (B.ax j)) := bbx.cell 0
            have z1 : w11.cell? ⟨Lb, 1, none⟩ = some (.int .i64 (B.ay j)) := bbx.cell 1
            have z2 : w11.cell? ⟨La, 0, none⟩ = some (.int .i64 u) := (HAX7.out _ HYB.out).cell 0
            have z3 : w11.cell? ⟨La, 1, none⟩ = some (.int .i64 v) := (HAX7.out _ HYB.out).cell 1
            have bt := Cor.tlo_bd HA.out HB.out i j
            have bl := Cor.low_bd HA.out HB.out HF.out i (j := j + 1) (by omega)
            have eq1 : A.lowK B u v (j + 1) = A.lowK B u v j + min (Cor.tn u v B j * B.lo j) (Cor.tn u v B j * B.hi j) := rfl
            have eq2 : A.highK B u v (j + 1) = A.highK B u v j + max (Cor.tn u v B j * B.lo j) (Cor.tn u v B j * B.hi j) := rfl
            have eq3 : u * B.ax j + v * B.ay j = Cor.tn u v B j := rfl
            rw [← HU.out, ← HV.out] at bt bl
            rw [eq3] at HD2
            clear bbx eq3
            go_upto_region 12 with (go_at_call 62; (with_reducible refine (HD2.out _).mono ?_); rintro e w12 ⟨rfl, hb12⟩)
            have HY12 := Lib.hid (below_step HYB.out hb12)
            obtain ⟨_, q2, _⟩ := HW.out _ (below_step HX7.out HY12.out)
            have c1 : w12.cell? ⟨w.heap.size + 1, 11 + j, none⟩ = some (.int .i64 (B.lo j)) := cor_lo q2 hj2
            have c2 : w12.cell? ⟨w.heap.size + 1, 13 + j, none⟩ = some (.int .i64 (B.hi j)) := cor_hi q2 hj2
            generalize Cor.tn u v B j = T at *
            generalize B.lo j = lo at *
            generalize B.hi j = hi' at *
            obtain ⟨P, hP⟩ : ∃ P, P = T * lo := ⟨_, rfl⟩
            obtain ⟨Q, hQ⟩ : ∃ Q, Q = T * hi' := ⟨_, rfl⟩
            obtain ⟨l1', hl1⟩ : ∃ z, z = A.lowK B u v (j + 1) := ⟨_, rfl⟩
            obtain ⟨h1', hh1⟩ : ∃ z, z = A.highK B u v (j + 1) := ⟨_, rfl⟩
            rw [← hP, ← hQ] at bt eq1 eq2
            rw [← hl1] at eq1 bl
            rw [← hh1] at eq2 bl
            have wP : IntKind.i64.wrap (T * lo) = P := by rw [← hP]; exact IntWalk.i64_in _ (by omega)
            have wQ : IntKind.i64.wrap (T * hi') = Q := by rw [← hQ]; exact IntWalk.i64_in _ (by omega)
            have wL : IntKind.i64.wrap (A.lowK B u v j + if Q < P then Q else P) = l1' := by rw [if_min, ← eq1]; exact IntWalk.i64_in _ (by omega)
            have wH : IntKind.i64.wrap (A.highK B u v j + if P < Q then Q else P) = h1' := by rw [if_max, ← eq2]; exact IntWalk.i64_in _ (by omega)
            have HL1 := Lib.hid hl1
            have HH1 := Lib.hid hh1
            generalize A.lowK B u v j = l0' at *
            generalize A.highK B u v j = h0' at *
            clear z0 z1 z2 z3 bt bl eq1 eq2 hP hQ hl1 hh1 HD2 q2 hb12 HI
            have jz : (0 : Int) ≤ (j : Int) := by omega
            go_quiet (fail)
            go_upto_region 13 with fail
            have c1 : (w12.drewN nq).cell? ⟨w.heap.size + 1, 11 + j, none⟩ = some (.int .i64 lo) := c1
            have c2 : (w12.drewN nq).cell? ⟨w.heap.size + 1, 13 + j, none⟩ = some (.int .i64 hi') := c2
            have HY13 : Hid (Below w7.heap.size w7 (w12.drewN nq)) := Lib.hid (below_drewN HY12.out _)
            generalize w12.drewN nq = w13 at *
            go_quiet (fail)
            have HY14 : Hid (Below w7.heap.size w7 (w13.drewN nq)) := Lib.hid (below_drewN HY13.out _)
            generalize w13.drewN nq = w14 at *
            go_wp2
            go_roundw
            case rel => exact ⟨j + 1, by omega, by rw [HL1.out], by rw [HH1.out], by go_num, HY14⟩
            case measure => simp [intOf]; omega
          · obtain rfl : j = 2 := by omega
            have HX8 := Lib.hid (below_step HX7.out HY.out)
            obtain ⟨q1, _, _⟩ := HW.out _ HX8.out
            have c1 : wj.cell? ⟨w.heap.size, 11 + i, none⟩ = some (.int .i64 (A.lo i)) := cor_lo q1 hi2
            have c2 : wj.cell? ⟨w.heap.size, 13 + i, none⟩ = some (.int .i64 (A.hi i)) := cor_hi q1 hi2
            have bl := Cor.lll_bd HA.out HB.out i
            rw [HLL.out] at bl
            have iz : (0 : Int) ≤ (i : Int) := by omega
            obtain ⟨P, hP⟩ : ∃ z, z = A.lo i * LL := ⟨_, rfl⟩
            obtain ⟨Q, hQ⟩ : ∃ z, z = A.hi i * LL := ⟨_, rfl⟩
            have wP : IntKind.i64.wrap (A.lo i * LL) = P := by rw [hP]; exact IntWalk.i64_in _ (by omega)
            have wQ : IntKind.i64.wrap (A.hi i * LL) = Q := by rw [hQ]; exact IntWalk.i64_in _ (by omega)
            have hS : A.sepI B i = (decide (A.highK B u v 2 < A.lo i * LL) || decide (A.hi i * LL < A.lowK B u v 2)) := by
              unfold Cor.sepI
              rw [HLL.out, ← HU.out, ← HV.out]
            rw [← hP, ← hQ] at hS
            generalize A.highK B u v 2 = hh at *
            generalize A.lowK B u v 2 = ll at *
            generalize A.lo i = lo at *
            generalize A.hi i = hi' at *
            clear q1 bl hP hQ
            by_cases h1 : hh < P
            · have hb : A.sepB B = true := sepB_of hi2 (by rw [hS, decide_eq_true h1]; rfl)
              clear hS
              go_wp2
              go_ret
              exact ⟨by simp [hb], below_step hBd.out HX8.out⟩
            · by_cases h2 : Q < ll
              · have hb : A.sepB B = true := sepB_of hi2 (by rw [hS, decide_eq_true h2]; simp)
                clear hS
                go_wp2
                go_ret
                exact ⟨by simp [hb], below_step hBd.out HX8.out⟩
              · have hb : A.sepI B i = false := by rw [hS, decide_eq_false h1, decide_eq_false h2]; rfl
                have HSN : Hid (∀ j, j < i + 1 → A.sepI B j = false) := Lib.hid (fun j hj => by
                  rcases Nat.lt_or_ge j i with h | h
                  · exact HS.out j h
                  · obtain rfl : j = i := by omega
                    exact hb)
                clear hS hb
                go_wp2
                go_roundw
                case rel => exact ⟨i + 1, by omega, by go_num, HSN, HX8⟩
                case measure => simp [intOf]; omega
    · obtain rfl : i = 2 := by omega
      have hs := sepB_none HS.out
      go_wp2
      go_ret
      exact ⟨by simp [hs], below_step hBd.out HX.out⟩
end Go.Proofs.Ytglkpabcflecmaa
