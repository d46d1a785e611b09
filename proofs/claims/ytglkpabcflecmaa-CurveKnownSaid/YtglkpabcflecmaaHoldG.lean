/- The program's Holds of a valid curve. -/
import Derived.Test.YtglkpabcflecmaaNear
namespace Go.Proofs.Ytglkpabcflecmaa
open Go.RowKit Go.Shelf
attribute [local go_sem] Oper.semAt_some

def holdB (c : Crv) (p q h : Int) (i : Nat) : Bool := decide (0 ≤ footI c p q i) && decide (footI c p q i ≤ c.len i * c.len i) && decide (distI c p q i ≤ h * c.len i)
/-- Does one of the first k pieces hold it? -/
def holdL (c : Crv) (p q h : Int) : Nat → Bool
  | 0 => false
  | k + 1 => holdL c p q h k || holdB c p q h k
theorem holdL_no {c : Crv} {p q h : Int} {k : Nat} (hh : ∀ i, i < k → holdB c p q h i = false) : holdL c p q h k = false := by
  induction k with
  | zero => rfl
  | succ k ih => simp [holdL, ih (fun i hi => hh i (by omega)), hh k (by omega)]
theorem holdL_yes {c : Crv} {p q h : Int} {k i : Nat} (hi : i < k) (hh : holdB c p q h i = true) : holdL c p q h k = true := by
  induction k with
  | zero => omega
  | succ k ih =>
    rcases Nat.lt_or_ge i k with h1 | h1
    · simp [holdL, ih h1]
    · obtain rfl : i = k := by omega
      simp [holdL, hh]

theorem ix_all {N : Nat} (x : Ix N) : x ∈ allIx N := by
  obtain ⟨post, h⟩ := allIx_split x.1 x.2
  rw [h]; simp

/-- Four boxes: of a curve, of a number, of a spot, of an answer; and the world behind them. -/
theorem hold_boxes (w : World) (s : Value) (h a b : Int) :
    BoxAt ((((w.alloc (.cells #[s] 24)).alloc (.cells #[.int .i64 h] 2)).alloc (.cells #[.int .i64 a, .int .i64 b] 43)).alloc (.cells #[.bool false] 4)) (w.heap.size + 1) 2 #[.int .i64 h] ∧
    BoxAt ((((w.alloc (.cells #[s] 24)).alloc (.cells #[.int .i64 h] 2)).alloc (.cells #[.int .i64 a, .int .i64 b] 43)).alloc (.cells #[.bool false] 4)) (w.heap.size + 1 + 1) 43 #[.int .i64 a, .int .i64 b] ∧
    BoxAt ((((w.alloc (.cells #[s] 24)).alloc (.cells #[.int .i64 h] 2)).alloc (.cells #[.int .i64 a, .int .i64 b] 43)).alloc (.cells #[.bool false] 4)) (w.heap.size + 1 + 1 + 1) 4 #[.bool false] ∧
    BoxAt ((((w.alloc (.cells #[s] 24)).alloc (.cells #[.int .i64 h] 2)).alloc (.cells #[.int .i64 a, .int .i64 b] 43)).alloc (.cells #[.bool false] 4)) w.heap.size 24 #[s] ∧
    Below w.heap.size w ((((w.alloc (.cells #[s] 24)).alloc (.cells #[.int .i64 h] 2)).alloc (.cells #[.int .i64 a, .int .i64 b] 43)).alloc (.cells #[.bool false] 4)) := by
  have h1 := BoxAt.new (w.alloc (.cells #[s] 24)) 2 #[.int .i64 h]
  have h2 := BoxAt.new ((w.alloc (.cells #[s] 24)).alloc (.cells #[.int .i64 h] 2)) 43 #[.int .i64 a, .int .i64 b]
  have h3 := BoxAt.new (((w.alloc (.cells #[s] 24)).alloc (.cells #[.int .i64 h] 2)).alloc (.cells #[.int .i64 a, .int .i64 b] 43)) 4 #[.bool false]
  simp only [World.size_alloc] at h1 h2 h3
  exact ⟨(h1.alloc _).alloc _, h2.alloc _, h3, (((BoxAt.new w 24 _).alloc _).alloc _).alloc _, ((((Below.refl _ w).alloc (Nat.le_refl _) _).alloc (by simp) _).alloc (by simp; omega) _).alloc (by simp; omega) _⟩

set_option maxRecDepth 100000 in
set_option maxHeartbeats 4000000 in
theorem holds_in (m : Nat) (hm : 3 ≤ m) (b off cap : Nat) (c : Crv) (hg : Good c) (p q r : Int) (hp1 : okc p) (hq1 : okc q) (hr0 : 0 ≤ r) (hr1 : r ≤ 4000) (w : World) (hp : Pts w b off c.n c.X c.Y) (hb : b < w.heap.size) :
    CallsIn Fence.wide m Try.prog 35 #[cv b off c.n cap, .int .i64 r, sp p q] w fun e w' => e = .returned (.bool (holdL c p q r (c.n - 1))) ∧ Below w.heap.size w w' := by
  obtain ⟨hn, hn', hok, _⟩ := id hg
  obtain ⟨b2, b43, b4, b24, hB⟩ := hold_boxes w (.slice (some ⟨b, off, none⟩) c.n cap) r p q
  have hv : vldB p q = true := (vldB_iff p q).2 ⟨hp1, hq1⟩
  have hvh : (decide (0 ≤ r) && decide (r ≤ 4000)) = true := by simp [hr0, hr1]
  have HP := Lib.hid (hp.below hB hb)
  refine callsIn_of_wp_marks Try.func35 rfl trivial ?_ rfl
  simp only [Try.ntmps35, List.size_toArray, List.length_cons, List.length_nil, Nat.reduceAdd, Nat.reduceSub, Array.replicate_succ, Array.replicate_zero, List.push_toArray, List.append_toArray, List.nil_append, List.cons_append]
  gi_wp2_with (first
    | (refine ⟨trivial, fun _ => by omega, ?_⟩; gi_at_call 20; refine (callsIn_wide.2 (check_good b off cap c hg _ HP.out)).mono ?_; rintro e w1 ⟨rfl, hb1⟩; have c24 := box_step b24 hb1; have c43 := box_step b43 hb1; have c2 := box_step b2 hb1; have c4 := box_step b4 hb1; replace hB := below_step hB hb1; have j0 : w1.cell? ⟨w.heap.size + 1, 0, none⟩ = some (.int .i64 r) := c2.cell 0)
    | (refine ⟨trivial, fun _ => by omega, ?_⟩; gi_at_call 76; refine (callsIn_wide.2 (validHalf_any _ _)).mono ?_; rintro e w3 ⟨rfl, hb3⟩; rw [hvh]; have d24 := box_step c24 hb3; have d43 := box_step c43 hb3; have d2 := box_step c2 hb3; have d4 := box_step c4 hb3; replace hB := below_step hB hb3; have k0 : w3.cell? ⟨w.heap.size + 1 + 1, 0, none⟩ = some (.int .i64 p) := d43.cell 0; have k1 : w3.cell? ⟨w.heap.size + 1 + 1, 1, none⟩ = some (.int .i64 q) := d43.cell 1)
    | (refine ⟨trivial, fun _ => by omega, ?_⟩; gi_at_call 59; refine (callsIn_wide.2 (valid_one _ p q _ (BoxAt.new _ _ _))).mono ?_; rintro e w2 ⟨rfl, hb2⟩; rw [hv]; have e24 := box_step (d24.alloc _) hb2; have e43 := box_step (d43.alloc _) hb2; have e2 := box_step (d2.alloc _) hb2; have e4 := box_step (d4.alloc _) hb2; replace hB := below_step2 hB hb2; have k3 : w2.cell? ⟨w.heap.size, 0, none⟩ = some (.slice (some ⟨b, off, none⟩) c.n cap) := e24.cell 0; have l43 := e43.lt; have l2 := e2.lt; have l4 := e4.lt)
    | (refine ⟨trivial, fun _ => by omega, ?_⟩; gi_at_call 60; refine (callsIn_wide.2 (pieces_any b off c.n cap _)).mono ?_; rintro e w5 ⟨rfl, rfl⟩))
  obtain ⟨Bb, hBb⟩ : ∃ Bb, Bb = w2.heap.size := ⟨_, rfl⟩
  obtain ⟨W0, hW0⟩ : ∃ W0, (w2.alloc (.cells #[.slice (some ⟨b, off, none⟩) c.n cap] 24)) = W0 := ⟨_, rfl⟩
  have sP : BoxAt W0 Bb 24 #[.slice (some ⟨b, off, none⟩) c.n cap] := by rw [← hW0, hBb]; exact BoxAt.new _ _ _
  have hB10 : Below Bb w2 W0 := by rw [← hW0, hBb]; exact (Below.refl _ _).alloc (Nat.le_refl _) _
  have hsz : W0.heap.size = Bb + 1 := by rw [← hW0, hBb]; simp
  have hbl : b < Bb := by have := hB.size; omega
  have hp2 := Lib.hid (hp.below hB hb)
  have hp0 : Pts W0 b off c.n c.X c.Y := hp2.out.below hB10 (by omega)
  rw [hW0, ← hBb]
  rw [← hBb] at l43 l2 l4
  have hBb1 : Bb ≤ w2.heap.size := by omega
  have hBb2 : w2.heap.size ≤ Bb := by omega
  clear hBb
  clear hW0 b24 b43 b2 b4 c24 c43 c2 c4 d24 d43 d2 d4 k0 k1 k3 j0 hb1 hb2 hb3 HP
  refine wpIn_rangeFunc_ownH rfl (by omega) (gf := 89) (lb := #[.pointer (some ⟨Bb, 0, none⟩)]) rfl trivial (enters_of Try.func89 (by kernel_rfl) rfl)
    (pieces_stops (m - 1) (by omega) Bb Bb Bb b off cap c hn hn' hok hbl W0 sP (Nat.le_refl _) hp0 (by omega)) Kp2.trans (kp2_b (w := W0) (by omega)) (Below.refl _ _) (fun _ => rfl)
    (fun pre W => (∀ x : Ix (c.n - 1), x ∈ pre → holdB c p q r x.1 = false) ∧ Below Bb w2 W)
    (fun cd pre W => ((cd = .ret ∧ ∃ x : Ix (c.n - 1), holdB c p q r x.1 = true) ∧ BoxAt W (w.heap.size + 1 + 1 + 1) 4 #[.bool true]) ∧ Below w.heap.size w W)
    (OwnFrom.and (Own.from (own_pure _) _) (ownFrom_below (by omega) (by omega)))
    (fun cd => OwnFrom.and (Own.from (own_and (own_pure _) (boxAt_own _ _ _)) _) (ownFrom_below (Nat.le_refl _) (by have := hB.size; omega)))
    ⟨fun x hx => (by cases hx), hB10⟩
    (fun x a' W => ∃ Bx, BoxAt W Bx 81 #[.int .i64 (c.X x.1), .int .i64 (c.Y x.1), .int .i64 (c.wx x.1), .int .i64 (c.wy x.1), .int .i64 (c.len x.1), .int .i64 (c.st x.1)] ∧
      a' = { tmps := #[cv b off c.n cap, .int .i64 r, sp p q, .pointer (some ⟨w.heap.size, 0, none⟩), .pointer (some ⟨w.heap.size + 1, 0, none⟩), .pointer (some ⟨w.heap.size + 1 + 1, 0, none⟩), .pointer (some ⟨w.heap.size + 1 + 1 + 1, 0, none⟩), undef, .pointer (some ⟨Bx, 0, none⟩), undef, .agg #[.slice (some ⟨b, off, none⟩) c.n cap], .int .i64 0, .bool false, .bool false, .int .i64 r, .bool true, .bool false, .bool false, .bool false, .agg #[.int .i64 p, .int .i64 q], .slice (some ⟨w3.heap.size, 0, none⟩) 1 1, .bool true, .bool false, .bool false, .agg #[.slice (some ⟨b, off, none⟩) c.n cap], .func (.func 89) #[] #[.pointer (some ⟨Bb, 0, none⟩)], .int .i64 (x.1 : Int), pcv c x.1, undef, undef, undef, undef, undef, undef, undef, undef, undef, undef, undef, undef, undef, undef, undef, undef, undef, undef, undef, undef, undef, undef, undef, undef], defers := [] })
    (fun x a' => Own.from (fun _ A B row hs hg hr => by obtain ⟨Bx, h2, h3⟩ := hs; exact ⟨Bx, boxAt_own (β := Unit) _ _ (fun _ => _) () A B row h2 hg hr, h3⟩) _) ?assign ?body ?done ?stop
  case assign =>
    rintro l pre x W K ⟨h1, hB3⟩ hK
    gi_wp2
    exact hK _ _ ((KeepsOthers.alloc _ _).from _) ((Kp2.refl _ _ _).alloc (by have := hB3.size; omega) _) ⟨h1, hB3.alloc (by have := hB3.size; omega) _⟩ ⟨W.heap.size, BoxAt.new _ _ _, rfl⟩
  case body =>
    rintro l pre x a' W hl hr ⟨hpre, hB3⟩ ⟨Bx, hbx, rfl⟩ hlt
    have hi : x.1 + 1 < c.n := by have := x.2; omega
    obtain ⟨-, l1, l2'⟩ := hg.len hi
    obtain ⟨f1, f2⟩ := foot_bd c hok p q hp1 hq1 hi
    obtain ⟨d1, d2'⟩ := dist_bd c hok p q hp1 hq1 hi
    have FT := fun W => foot_any (c.X x.1) (c.Y x.1) (c.wx x.1) (c.wy x.1) (c.len x.1) (c.st x.1) p q W (hok x.1 (by omega)).1 (hok x.1 (by omega)).2 hp1 hq1 (Crv.okd_wx hok hi) (Crv.okd_wy hok hi)
    have DT := fun W => distance_any (c.X x.1) (c.Y x.1) (c.wx x.1) (c.wy x.1) (c.len x.1) (c.st x.1) p q W (hok x.1 (by omega)).1 (hok x.1 (by omega)).2 hp1 hq1 (Crv.okd_wx hok hi) (Crv.okd_wy hok hi)
    have hnb : holdB c p q r x.1 = (decide (0 ≤ footI c p q x.1) && decide (footI c p q x.1 ≤ c.len x.1 * c.len x.1) && decide (distI c p q x.1 ≤ r * c.len x.1)) := rfl
    have hpre2 := Lib.hid (fun (h : holdB c p q r x.1 = false) => (fun y (hy : y ∈ pre ++ [x]) => by
      rcases List.mem_append.1 hy with hy | hy
      · exact hpre y hy
      · obtain rfl : y = x := by simpa using hy
        exact h : ∀ y : Ix (c.n - 1), y ∈ pre ++ [x] → holdB c p q r y.1 = false))
    change ∀ W, Calls Try.prog 72 _ W (fun e w' => e = .returned (.int .i64 (footI c p q x.1)) ∧ Below W.heap.size W w') at FT
    change ∀ W, Calls Try.prog 73 _ W (fun e w' => e = .returned (.int .i64 (distI c p q x.1)) ∧ Below W.heap.size W w') at DT
    have HNB := Lib.hid hnb
    clear hnb hpre
    generalize footI c p q x.1 = F at *
    generalize distI c p q x.1 = D at *
    generalize c.len x.1 = ln at *
    generalize c.st x.1 = st at *
    have m5 : 0 ≤ r * ln := Int.mul_nonneg hr0 (by omega)
    have m6 : r * ln ≤ 4000 * 1048576 := Int.mul_le_mul hr1 l2' (by omega) (by omega)
    have m7 : ln * ln ≤ 1048576 * 1048576 := Int.mul_le_mul l2' l2' (by omega) (by omega)
    have m8 : 0 ≤ ln * ln := Int.mul_nonneg (by omega) (by omega)
    have HF := Lib.hid FT
    have HD := Lib.hid DT
    clear FT DT hg hok hp hn hn' hp1 hq1 hv hvh hp0 sP hi
    have hlb : Bb + 1 ≤ W.heap.size := by obtain ⟨_, hr'⟩ := hr; have := (Array.getElem?_eq_some_iff.1 hr').1; omega
    have hW43 := Lib.hid (BoxAt.below e43 (hB3.mono (by omega)) (by omega))
    have hW2 := Lib.hid (BoxAt.below e2 (hB3.mono (by omega)) (by omega))
    have hW4 := Lib.hid (BoxAt.below e4 (hB3.mono (by omega)) (by omega))
    have k43a : W.cell? ⟨w.heap.size + 1 + 1, 0, none⟩ = some (.int .i64 p) := hW43.out.cell 0
    have k43b : W.cell? ⟨w.heap.size + 1 + 1, 1, none⟩ = some (.int .i64 q) := hW43.out.cell 1
    have k0 : W.cell? ⟨Bx, 0, none⟩ = some (.int .i64 (c.X x.1)) := hbx.cell 0
    have k1 : W.cell? ⟨Bx, 1, none⟩ = some (.int .i64 (c.Y x.1)) := hbx.cell 1
    have k2 : W.cell? ⟨Bx, 2, none⟩ = some (.int .i64 (c.wx x.1)) := hbx.cell 2
    have k3 : W.cell? ⟨Bx, 3, none⟩ = some (.int .i64 (c.wy x.1)) := hbx.cell 3
    have k4 : W.cell? ⟨Bx, 4, none⟩ = some (.int .i64 ln) := hbx.cell 4
    have k5 : W.cell? ⟨Bx, 5, none⟩ = some (.int .i64 st) := hbx.cell 5
    have hlx := hbx.lt
    by_cases h1 : 0 ≤ F
    · by_cases h2 : F ≤ ln * ln
      · by_cases h3 : D ≤ r * ln
        · skip
          gi_wp2_with ((try refine ⟨trivial, fun _ => by omega, ?_⟩); gi_at_call 72; refine (CallsIn.inRound l (callsIn_wide.2 (HF.out _))).mono ?_; rintro e w4 ⟨rfl, hb4⟩; have hbx4 := box_step hbx hb4; have h434 := box_step hW43.out hb4; have h24 := box_step hW2.out hb4; have h44 := box_step hW4.out hb4; have q4 : w4.cell? ⟨Bx, 4, none⟩ = some (.int .i64 ln) := hbx4.cell 4; have q2 : w4.cell? ⟨w.heap.size + 1, 0, none⟩ = some (.int .i64 r) := h24.cell 0)
          have z0 : w4.cell? ⟨Bx, 0, none⟩ = some (.int .i64 (c.X x.1)) := hbx4.cell 0
          have z1 : w4.cell? ⟨Bx, 1, none⟩ = some (.int .i64 (c.Y x.1)) := hbx4.cell 1
          have z2 : w4.cell? ⟨Bx, 2, none⟩ = some (.int .i64 (c.wx x.1)) := hbx4.cell 2
          have z3 : w4.cell? ⟨Bx, 3, none⟩ = some (.int .i64 (c.wy x.1)) := hbx4.cell 3
          have z5 : w4.cell? ⟨Bx, 5, none⟩ = some (.int .i64 st) := hbx4.cell 5
          have z6 : w4.cell? ⟨w.heap.size + 1 + 1, 0, none⟩ = some (.int .i64 p) := h434.cell 0
          have z7 : w4.cell? ⟨w.heap.size + 1 + 1, 1, none⟩ = some (.int .i64 q) := h434.cell 1
          have hw1 : IntKind.i64.wrap (r * ln) = r * ln := IntWalk.i64_in _ (by omega)
          have hw2 : IntKind.i64.wrap (ln * ln) = ln * ln := IntWalk.i64_in _ (by omega)
          have y1 := hbx4.lt
          have y2 := h434.lt
          have y3 := h24.lt
          refine round_held (S := (fun w' => w'.cell? ⟨Bx, 0, none⟩ = some (.int .i64 (c.X x.1)) ∧ w'.cell? ⟨Bx, 1, none⟩ = some (.int .i64 (c.Y x.1)) ∧ w'.cell? ⟨Bx, 2, none⟩ = some (.int .i64 (c.wx x.1)) ∧ w'.cell? ⟨Bx, 3, none⟩ = some (.int .i64 (c.wy x.1)) ∧ w'.cell? ⟨Bx, 4, none⟩ = some (.int .i64 ln) ∧ w'.cell? ⟨Bx, 5, none⟩ = some (.int .i64 st) ∧ w'.cell? ⟨w.heap.size + 1 + 1, 0, none⟩ = some (.int .i64 p) ∧ w'.cell? ⟨w.heap.size + 1 + 1, 1, none⟩ = some (.int .i64 q) ∧ w'.cell? ⟨w.heap.size + 1, 0, none⟩ = some (.int .i64 r))) (by kernel_rfl) (by kernel_rfl) ⟨z0, z1, z2, z3, q4, z5, z6, z7, q2⟩ (fun hHeld => ?_)
          refine wpAnyH_take (i := 0) (oi := { dst := some 31, op := Op.move (Operand.tmp 9), type := 2, pos := "corridor.go:32", after := #[], guard := none }) (v := .int .i64 F) rfl (by kernel_rfl) (by kernel_rfl) (by kernel_rfl) (fun _ _ _ h => h) (Or.inl ⟨by rfl, (by intro w0 hSw; (try dsimp only at hSw); go_simp)⟩) (by assumption) ?_
          (try simp only [Act.put, List.setIfInBounds_toArray, List.set_cons_zero, List.set_cons_succ])
          refine wpAnyH_take (i := 1) (oi := { dst := some 32, op := Op.binOp BinOp.geq 2 (Operand.tmp 31) (Operand.const (Value.int IntKind.i64 0)) 2, type := 4, pos := "corridor.go:32", after := #[{ on := 0, ground := Ground.data }], guard := none }) (v := .bool true) rfl (by kernel_rfl) (by kernel_rfl) (by kernel_rfl) (fun _ _ _ h => h) (Or.inl ⟨by rfl, (by intro w0 hSw; (try dsimp only at hSw); go_simp)⟩) (by assumption) ?_
          (try simp only [Act.put, List.setIfInBounds_toArray, List.set_cons_zero, List.set_cons_succ])
          refine wpAnyH_take (i := 2) (oi := { dst := some 33, op := Op.move (Operand.tmp 32), type := 4, pos := "corridor.go:32", after := #[{ on := 1, ground := Ground.data }], guard := none }) (v := .bool true) rfl (by kernel_rfl) (by kernel_rfl) (by kernel_rfl) (fun _ _ _ h => h) (Or.inl ⟨by rfl, (by intro w0 hSw; (try dsimp only at hSw); go_simp)⟩) (by assumption) ?_
          (try simp only [Act.put, List.setIfInBounds_toArray, List.set_cons_zero, List.set_cons_succ])
          refine wpAnyH_take (i := 3) (oi := { dst := some 34, op := Op.move (Operand.tmp 9), type := 2, pos := "corridor.go:32", after := #[{ on := 2, ground := Ground.guard }], guard := some (2, true) }) (v := .int .i64 F) rfl (by kernel_rfl) (by kernel_rfl) (by kernel_rfl) (fun _ _ _ h => h) (Or.inl ⟨by rfl, (by intro w0 hSw; (try dsimp only at hSw); go_simp)⟩) (by assumption) ?_
          (try simp only [Act.put, List.setIfInBounds_toArray, List.set_cons_zero, List.set_cons_succ])
          refine wpAnyH_take (i := 4) (oi := { dst := some 35, op := Op.fieldAddr 81 (Operand.tmp 8) 2, type := 0, pos := "corridor.go:32", after := #[{ on := 2, ground := Ground.guard }], guard := some (2, true) }) (v := .pointer (some ⟨Bx, 4, none⟩)) rfl (by kernel_rfl) (by kernel_rfl) (by kernel_rfl) (fun _ _ _ h => h) (Or.inl ⟨by rfl, (by intro w0 hSw; (try dsimp only at hSw); go_simp)⟩) (by assumption) ?_
          (try simp only [Act.put, List.setIfInBounds_toArray, List.set_cons_zero, List.set_cons_succ])
          refine wpAnyH_take (i := 5) (oi := { dst := some 36, op := Op.load 2 (Operand.tmp 35), type := 2, pos := "corridor.go:32", after := #[{ on := 4, ground := Ground.data }, { on := 2, ground := Ground.guard }], guard := some (2, true) }) (v := .int .i64 ln) rfl (by kernel_rfl) (by kernel_rfl) (by kernel_rfl) (fun _ _ _ h => h) (Or.inl ⟨by rfl, (by intro w0 hSw; (try dsimp only at hSw); go_simp)⟩) (by assumption) ?_
          (try simp only [Act.put, List.setIfInBounds_toArray, List.set_cons_zero, List.set_cons_succ])
          refine wpAnyH_take (i := 6) (oi := { dst := some 37, op := Op.fieldAddr 81 (Operand.tmp 8) 2, type := 0, pos := "corridor.go:32", after := #[{ on := 2, ground := Ground.guard }], guard := some (2, true) }) (v := .pointer (some ⟨Bx, 4, none⟩)) rfl (by kernel_rfl) (by kernel_rfl) (by kernel_rfl) (fun _ _ _ h => h) (Or.inl ⟨by rfl, (by intro w0 hSw; (try dsimp only at hSw); go_simp)⟩) (by assumption) ?_
          (try simp only [Act.put, List.setIfInBounds_toArray, List.set_cons_zero, List.set_cons_succ])
          refine wpAnyH_take (i := 7) (oi := { dst := some 38, op := Op.load 2 (Operand.tmp 37), type := 2, pos := "corridor.go:32", after := #[{ on := 6, ground := Ground.data }, { on := 2, ground := Ground.guard }], guard := some (2, true) }) (v := .int .i64 ln) rfl (by kernel_rfl) (by kernel_rfl) (by kernel_rfl) (fun _ _ _ h => h) (Or.inl ⟨by rfl, (by intro w0 hSw; (try dsimp only at hSw); go_simp)⟩) (by assumption) ?_
          (try simp only [Act.put, List.setIfInBounds_toArray, List.set_cons_zero, List.set_cons_succ])
          refine wpAnyH_take (i := 8) (oi := { dst := some 39, op := Op.binOp BinOp.mul 2 (Operand.tmp 36) (Operand.tmp 38) 2, type := 2, pos := "corridor.go:32", after := #[{ on := 5, ground := Ground.data }, { on := 7, ground := Ground.data }, { on := 2, ground := Ground.guard }], guard := some (2, true) }) (v := .int .i64 (ln * ln)) rfl (by kernel_rfl) (by kernel_rfl) (by kernel_rfl) (fun _ _ _ h => h) (Or.inl ⟨by rfl, (by intro w0 hSw; (try dsimp only at hSw); go_simp)⟩) (by assumption) ?_
          (try simp only [Act.put, List.setIfInBounds_toArray, List.set_cons_zero, List.set_cons_succ])
          refine wpAnyH_take (i := 9) (oi := { dst := some 40, op := Op.binOp BinOp.leq 2 (Operand.tmp 34) (Operand.tmp 39) 2, type := 4, pos := "corridor.go:32", after := #[{ on := 3, ground := Ground.data }, { on := 8, ground := Ground.data }, { on := 2, ground := Ground.guard }], guard := some (2, true) }) (v := .bool true) rfl (by kernel_rfl) (by kernel_rfl) (by kernel_rfl) (fun _ _ _ h => h) (Or.inl ⟨by rfl, (by intro w0 hSw; (try dsimp only at hSw); go_simp)⟩) (by assumption) ?_
          (try simp only [Act.put, List.setIfInBounds_toArray, List.set_cons_zero, List.set_cons_succ])
          refine wpAnyH_take (i := 10) (oi := { dst := some 41, op := Op.pick (Operand.tmp 33) (Operand.tmp 40) (Operand.const (Value.bool false)), type := 4, pos := "corridor.go:32", after := #[{ on := 2, ground := Ground.data }, { on := 9, ground := Ground.data }], guard := none }) (v := .bool true) rfl (by kernel_rfl) (by kernel_rfl) (by kernel_rfl) (fun _ _ _ h => h) (Or.inl ⟨by rfl, (by intro w0 hSw; (try dsimp only at hSw); go_simp)⟩) (by assumption) ?_
          (try simp only [Act.put, List.setIfInBounds_toArray, List.set_cons_zero, List.set_cons_succ])
          refine wpAnyH_take (i := 11) (oi := { dst := some 42, op := Op.move (Operand.tmp 41), type := 4, pos := "corridor.go:32", after := #[{ on := 10, ground := Ground.data }, { on := 2, ground := Ground.chain }], guard := none }) (v := .bool true) rfl (by kernel_rfl) (by kernel_rfl) (by kernel_rfl) (fun _ _ _ h => h) (Or.inl ⟨by rfl, (by intro w0 hSw; (try dsimp only at hSw); go_simp)⟩) (by assumption) ?_
          (try simp only [Act.put, List.setIfInBounds_toArray, List.set_cons_zero, List.set_cons_succ])
          refine wpAnyH_take (i := 12) (oi := { dst := some 43, op := Op.load 81 (Operand.tmp 8), type := 81, pos := "corridor.go:32", after := #[{ on := 11, ground := Ground.guard }], guard := some (11, true) }) (v := .agg #[.int .i64 (c.X x.1), .int .i64 (c.Y x.1), .int .i64 (c.wx x.1), .int .i64 (c.wy x.1), .int .i64 ln, .int .i64 st]) rfl (by kernel_rfl) (by kernel_rfl) (by kernel_rfl) (fun _ _ _ h => h) (Or.inl ⟨by rfl, (by intro w0 hSw; (try dsimp only at hSw); go_simp)⟩) (by assumption) ?_
          (try simp only [Act.put, List.setIfInBounds_toArray, List.set_cons_zero, List.set_cons_succ])
          refine wpAnyH_take (i := 13) (oi := { dst := some 44, op := Op.load 43 (Operand.tmp 5), type := 43, pos := "corridor.go:32", after := #[{ on := 11, ground := Ground.guard }], guard := some (11, true) }) (v := .agg #[.int .i64 p, .int .i64 q]) rfl (by kernel_rfl) (by kernel_rfl) (by kernel_rfl) (fun _ _ _ h => h) (Or.inl ⟨by rfl, (by intro w0 hSw; (try dsimp only at hSw); go_simp)⟩) (by assumption) ?_
          (try simp only [Act.put, List.setIfInBounds_toArray, List.set_cons_zero, List.set_cons_succ])
          refine wpAnyH_take (i := 15) (oi := { dst := some 46, op := Op.load 2 (Operand.tmp 4), type := 2, pos := "corridor.go:32", after := #[{ on := 11, ground := Ground.guard }], guard := some (11, true) }) (v := .int .i64 r) rfl (by kernel_rfl) (by kernel_rfl) (by kernel_rfl) (fun _ _ _ h => h) (Or.inl ⟨by rfl, (by intro w0 hSw; (try dsimp only at hSw); go_simp)⟩) (by assumption) ?_
          (try simp only [Act.put, List.setIfInBounds_toArray, List.set_cons_zero, List.set_cons_succ])
          refine wpAnyH_take (i := 16) (oi := { dst := some 47, op := Op.fieldAddr 81 (Operand.tmp 8) 2, type := 0, pos := "corridor.go:32", after := #[{ on := 11, ground := Ground.guard }], guard := some (11, true) }) (v := .pointer (some ⟨Bx, 4, none⟩)) rfl (by kernel_rfl) (by kernel_rfl) (by kernel_rfl) (fun _ _ _ h => h) (Or.inl ⟨by rfl, (by intro w0 hSw; (try dsimp only at hSw); go_simp)⟩) (by assumption) ?_
          (try simp only [Act.put, List.setIfInBounds_toArray, List.set_cons_zero, List.set_cons_succ])
          refine wpAnyH_take (i := 17) (oi := { dst := some 48, op := Op.load 2 (Operand.tmp 47), type := 2, pos := "corridor.go:32", after := #[{ on := 16, ground := Ground.data }, { on := 11, ground := Ground.guard }], guard := some (11, true) }) (v := .int .i64 ln) rfl (by kernel_rfl) (by kernel_rfl) (by kernel_rfl) (fun _ _ _ h => h) (Or.inl ⟨by rfl, (by intro w0 hSw; (try dsimp only at hSw); go_simp)⟩) (by assumption) ?_
          (try simp only [Act.put, List.setIfInBounds_toArray, List.set_cons_zero, List.set_cons_succ])
          refine wpAnyH_take (i := 18) (oi := { dst := some 49, op := Op.binOp BinOp.mul 2 (Operand.tmp 46) (Operand.tmp 48) 2, type := 2, pos := "corridor.go:32", after := #[{ on := 15, ground := Ground.data }, { on := 17, ground := Ground.data }, { on := 11, ground := Ground.guard }], guard := some (11, true) }) (v := .int .i64 (r * ln)) rfl (by kernel_rfl) (by kernel_rfl) (by kernel_rfl) (fun _ _ _ h => h) (Or.inl ⟨by rfl, (by intro w0 hSw; (try dsimp only at hSw); go_simp)⟩) (by assumption) ?_
          (try simp only [Act.put, List.setIfInBounds_toArray, List.set_cons_zero, List.set_cons_succ])
          refine wpAnyH_ready (rs := [14]) (by kernel_rfl) (by simp) ?_
          refine AllReadyH.cons (o := { dst := some 45, op := Op.call { callee := Callee.value (Operand.func 73), args := #[Operand.tmp 43, Operand.tmp 44], argTypes := #[81, 43] }, type := 2, pos := "corridor.go:32", after := #[{ on := 12, ground := Ground.data }, { on := 13, ground := Ground.data }, { on := 11, ground := Ground.chain }, { on := 11, ground := Ground.guard }], guard := some (11, true) }) rfl (fun K hK => ?_) AllReadyH.nil
          go_simp
          (go_at_call 73; (with_reducible refine (HD.out _).mono ?_); rintro e w5 ⟨rfl, hb5⟩; have hB5 : Below w4.heap.size w4 w5 := below_step ((Below.refl _ w4).drew) hb5)
          refine hK.out _ _ (by refine ⟨?_, ?_, ?_, ?_, ?_, ?_, ?_, ?_, ?_⟩ <;> exact (Below.cell hB5 (by assumption)).trans (by assumption)) (fun hHeld => ?_)
          clear hK K
          (try simp only [Act.put, List.setIfInBounds_toArray, List.set_cons_zero, List.set_cons_succ])
          refine wpAnyH_take (i := 19) (oi := { dst := some 50, op := Op.binOp BinOp.leq 2 (Operand.tmp 45) (Operand.tmp 49) 2, type := 4, pos := "corridor.go:32", after := #[{ on := 14, ground := Ground.data }, { on := 18, ground := Ground.data }, { on := 11, ground := Ground.guard }], guard := some (11, true) }) (v := .bool true) rfl (by kernel_rfl) (by kernel_rfl) (by kernel_rfl) (fun _ _ _ h => h) (Or.inl ⟨by rfl, (by intro w0 hSw; (try dsimp only at hSw); go_simp)⟩) (by assumption) ?_
          (try simp only [Act.put, List.setIfInBounds_toArray, List.set_cons_zero, List.set_cons_succ])
          refine wpAnyH_take (i := 20) (oi := { dst := some 51, op := Op.pick (Operand.tmp 42) (Operand.tmp 50) (Operand.const (Value.bool false)), type := 4, pos := "corridor.go:32", after := #[{ on := 11, ground := Ground.data }, { on := 19, ground := Ground.data }], guard := none }) (v := .bool true) rfl (by kernel_rfl) (by kernel_rfl) (by kernel_rfl) (fun _ _ _ h => h) (Or.inl ⟨by rfl, (by intro w0 hSw; (try dsimp only at hSw); go_simp)⟩) (by assumption) ?_
          (try simp only [Act.put, List.setIfInBounds_toArray, List.set_cons_zero, List.set_cons_succ])
          refine wpAnyH_done (by kernel_rfl) ?_ _
          refine OnlyK.normal ?_
          have hbW := Lib.hid (below_step hb4 hB5)
          have hR5 := Lib.hid (BoxAt.below hW4.out hbW.out (BoxAt.lt hW4.out))
          have yr0 : w5.cell? ⟨w.heap.size + 1 + 1 + 1, 0, none⟩ = some (.bool false) := hR5.out.cell 0
          have yr1 : w5.frozen? ⟨w.heap.size + 1 + 1 + 1, 0, none⟩ = false := hR5.out.frozen 0
          gi_wp2
          exact ⟨(ko_below hbW.out _).trans ((KeepsOthers.setCell _ _ _).from _), ⟨⟨rfl, x, by rw [HNB.out]; simp [h1, h2, h3]⟩, hR5.out.set 0 _⟩, (hB.trans ((hB3.trans (hbW.out.mono (by omega))).mono (by have := hB.size; omega))).setCell (p := ⟨w.heap.size + 1 + 1 + 1, 0, none⟩) (by show w.heap.size ≤ w.heap.size + 1 + 1 + 1; omega) _⟩
        · skip
          gi_wp2_with ((try refine ⟨trivial, fun _ => by omega, ?_⟩); gi_at_call 72; refine (CallsIn.inRound l (callsIn_wide.2 (HF.out _))).mono ?_; rintro e w4 ⟨rfl, hb4⟩; have hbx4 := box_step hbx hb4; have h434 := box_step hW43.out hb4; have h24 := box_step hW2.out hb4; have h44 := box_step hW4.out hb4; have q4 : w4.cell? ⟨Bx, 4, none⟩ = some (.int .i64 ln) := hbx4.cell 4; have q2 : w4.cell? ⟨w.heap.size + 1, 0, none⟩ = some (.int .i64 r) := h24.cell 0)
          have z0 : w4.cell? ⟨Bx, 0, none⟩ = some (.int .i64 (c.X x.1)) := hbx4.cell 0
          have z1 : w4.cell? ⟨Bx, 1, none⟩ = some (.int .i64 (c.Y x.1)) := hbx4.cell 1
          have z2 : w4.cell? ⟨Bx, 2, none⟩ = some (.int .i64 (c.wx x.1)) := hbx4.cell 2
          have z3 : w4.cell? ⟨Bx, 3, none⟩ = some (.int .i64 (c.wy x.1)) := hbx4.cell 3
          have z5 : w4.cell? ⟨Bx, 5, none⟩ = some (.int .i64 st) := hbx4.cell 5
          have z6 : w4.cell? ⟨w.heap.size + 1 + 1, 0, none⟩ = some (.int .i64 p) := h434.cell 0
          have z7 : w4.cell? ⟨w.heap.size + 1 + 1, 1, none⟩ = some (.int .i64 q) := h434.cell 1
          have hw1 : IntKind.i64.wrap (r * ln) = r * ln := IntWalk.i64_in _ (by omega)
          have hw2 : IntKind.i64.wrap (ln * ln) = ln * ln := IntWalk.i64_in _ (by omega)
          have y1 := hbx4.lt
          have y2 := h434.lt
          have y3 := h24.lt
          refine round_held (S := (fun w' => w'.cell? ⟨Bx, 0, none⟩ = some (.int .i64 (c.X x.1)) ∧ w'.cell? ⟨Bx, 1, none⟩ = some (.int .i64 (c.Y x.1)) ∧ w'.cell? ⟨Bx, 2, none⟩ = some (.int .i64 (c.wx x.1)) ∧ w'.cell? ⟨Bx, 3, none⟩ = some (.int .i64 (c.wy x.1)) ∧ w'.cell? ⟨Bx, 4, none⟩ = some (.int .i64 ln) ∧ w'.cell? ⟨Bx, 5, none⟩ = some (.int .i64 st) ∧ w'.cell? ⟨w.heap.size + 1 + 1, 0, none⟩ = some (.int .i64 p) ∧ w'.cell? ⟨w.heap.size + 1 + 1, 1, none⟩ = some (.int .i64 q) ∧ w'.cell? ⟨w.heap.size + 1, 0, none⟩ = some (.int .i64 r))) (by kernel_rfl) (by kernel_rfl) ⟨z0, z1, z2, z3, q4, z5, z6, z7, q2⟩ (fun hHeld => ?_)
          refine wpAnyH_take (i := 0) (oi := { dst := some 31, op := Op.move (Operand.tmp 9), type := 2, pos := "corridor.go:32", after := #[], guard := none }) (v := .int .i64 F) rfl (by kernel_rfl) (by kernel_rfl) (by kernel_rfl) (fun _ _ _ h => h) (Or.inl ⟨by rfl, (by intro w0 hSw; (try dsimp only at hSw); go_simp)⟩) (by assumption) ?_
          (try simp only [Act.put, List.setIfInBounds_toArray, List.set_cons_zero, List.set_cons_succ])
          refine wpAnyH_take (i := 1) (oi := { dst := some 32, op := Op.binOp BinOp.geq 2 (Operand.tmp 31) (Operand.const (Value.int IntKind.i64 0)) 2, type := 4, pos := "corridor.go:32", after := #[{ on := 0, ground := Ground.data }], guard := none }) (v := .bool true) rfl (by kernel_rfl) (by kernel_rfl) (by kernel_rfl) (fun _ _ _ h => h) (Or.inl ⟨by rfl, (by intro w0 hSw; (try dsimp only at hSw); go_simp)⟩) (by assumption) ?_
          (try simp only [Act.put, List.setIfInBounds_toArray, List.set_cons_zero, List.set_cons_succ])
          refine wpAnyH_take (i := 2) (oi := { dst := some 33, op := Op.move (Operand.tmp 32), type := 4, pos := "corridor.go:32", after := #[{ on := 1, ground := Ground.data }], guard := none }) (v := .bool true) rfl (by kernel_rfl) (by kernel_rfl) (by kernel_rfl) (fun _ _ _ h => h) (Or.inl ⟨by rfl, (by intro w0 hSw; (try dsimp only at hSw); go_simp)⟩) (by assumption) ?_
          (try simp only [Act.put, List.setIfInBounds_toArray, List.set_cons_zero, List.set_cons_succ])
          refine wpAnyH_take (i := 3) (oi := { dst := some 34, op := Op.move (Operand.tmp 9), type := 2, pos := "corridor.go:32", after := #[{ on := 2, ground := Ground.guard }], guard := some (2, true) }) (v := .int .i64 F) rfl (by kernel_rfl) (by kernel_rfl) (by kernel_rfl) (fun _ _ _ h => h) (Or.inl ⟨by rfl, (by intro w0 hSw; (try dsimp only at hSw); go_simp)⟩) (by assumption) ?_
          (try simp only [Act.put, List.setIfInBounds_toArray, List.set_cons_zero, List.set_cons_succ])
          refine wpAnyH_take (i := 4) (oi := { dst := some 35, op := Op.fieldAddr 81 (Operand.tmp 8) 2, type := 0, pos := "corridor.go:32", after := #[{ on := 2, ground := Ground.guard }], guard := some (2, true) }) (v := .pointer (some ⟨Bx, 4, none⟩)) rfl (by kernel_rfl) (by kernel_rfl) (by kernel_rfl) (fun _ _ _ h => h) (Or.inl ⟨by rfl, (by intro w0 hSw; (try dsimp only at hSw); go_simp)⟩) (by assumption) ?_
          (try simp only [Act.put, List.setIfInBounds_toArray, List.set_cons_zero, List.set_cons_succ])
          refine wpAnyH_take (i := 5) (oi := { dst := some 36, op := Op.load 2 (Operand.tmp 35), type := 2, pos := "corridor.go:32", after := #[{ on := 4, ground := Ground.data }, { on := 2, ground := Ground.guard }], guard := some (2, true) }) (v := .int .i64 ln) rfl (by kernel_rfl) (by kernel_rfl) (by kernel_rfl) (fun _ _ _ h => h) (Or.inl ⟨by rfl, (by intro w0 hSw; (try dsimp only at hSw); go_simp)⟩) (by assumption) ?_
          (try simp only [Act.put, List.setIfInBounds_toArray, List.set_cons_zero, List.set_cons_succ])
          refine wpAnyH_take (i := 6) (oi := { dst := some 37, op := Op.fieldAddr 81 (Operand.tmp 8) 2, type := 0, pos := "corridor.go:32", after := #[{ on := 2, ground := Ground.guard }], guard := some (2, true) }) (v := .pointer (some ⟨Bx, 4, none⟩)) rfl (by kernel_rfl) (by kernel_rfl) (by kernel_rfl) (fun _ _ _ h => h) (Or.inl ⟨by rfl, (by intro w0 hSw; (try dsimp only at hSw); go_simp)⟩) (by assumption) ?_
          (try simp only [Act.put, List.setIfInBounds_toArray, List.set_cons_zero, List.set_cons_succ])
          refine wpAnyH_take (i := 7) (oi := { dst := some 38, op := Op.load 2 (Operand.tmp 37), type := 2, pos := "corridor.go:32", after := #[{ on := 6, ground := Ground.data }, { on := 2, ground := Ground.guard }], guard := some (2, true) }) (v := .int .i64 ln) rfl (by kernel_rfl) (by kernel_rfl) (by kernel_rfl) (fun _ _ _ h => h) (Or.inl ⟨by rfl, (by intro w0 hSw; (try dsimp only at hSw); go_simp)⟩) (by assumption) ?_
          (try simp only [Act.put, List.setIfInBounds_toArray, List.set_cons_zero, List.set_cons_succ])
          refine wpAnyH_take (i := 8) (oi := { dst := some 39, op := Op.binOp BinOp.mul 2 (Operand.tmp 36) (Operand.tmp 38) 2, type := 2, pos := "corridor.go:32", after := #[{ on := 5, ground := Ground.data }, { on := 7, ground := Ground.data }, { on := 2, ground := Ground.guard }], guard := some (2, true) }) (v := .int .i64 (ln * ln)) rfl (by kernel_rfl) (by kernel_rfl) (by kernel_rfl) (fun _ _ _ h => h) (Or.inl ⟨by rfl, (by intro w0 hSw; (try dsimp only at hSw); go_simp)⟩) (by assumption) ?_
          (try simp only [Act.put, List.setIfInBounds_toArray, List.set_cons_zero, List.set_cons_succ])
          refine wpAnyH_take (i := 9) (oi := { dst := some 40, op := Op.binOp BinOp.leq 2 (Operand.tmp 34) (Operand.tmp 39) 2, type := 4, pos := "corridor.go:32", after := #[{ on := 3, ground := Ground.data }, { on := 8, ground := Ground.data }, { on := 2, ground := Ground.guard }], guard := some (2, true) }) (v := .bool true) rfl (by kernel_rfl) (by kernel_rfl) (by kernel_rfl) (fun _ _ _ h => h) (Or.inl ⟨by rfl, (by intro w0 hSw; (try dsimp only at hSw); go_simp)⟩) (by assumption) ?_
          (try simp only [Act.put, List.setIfInBounds_toArray, List.set_cons_zero, List.set_cons_succ])
          refine wpAnyH_take (i := 10) (oi := { dst := some 41, op := Op.pick (Operand.tmp 33) (Operand.tmp 40) (Operand.const (Value.bool false)), type := 4, pos := "corridor.go:32", after := #[{ on := 2, ground := Ground.data }, { on := 9, ground := Ground.data }], guard := none }) (v := .bool true) rfl (by kernel_rfl) (by kernel_rfl) (by kernel_rfl) (fun _ _ _ h => h) (Or.inl ⟨by rfl, (by intro w0 hSw; (try dsimp only at hSw); go_simp)⟩) (by assumption) ?_
          (try simp only [Act.put, List.setIfInBounds_toArray, List.set_cons_zero, List.set_cons_succ])
          refine wpAnyH_take (i := 11) (oi := { dst := some 42, op := Op.move (Operand.tmp 41), type := 4, pos := "corridor.go:32", after := #[{ on := 10, ground := Ground.data }, { on := 2, ground := Ground.chain }], guard := none }) (v := .bool true) rfl (by kernel_rfl) (by kernel_rfl) (by kernel_rfl) (fun _ _ _ h => h) (Or.inl ⟨by rfl, (by intro w0 hSw; (try dsimp only at hSw); go_simp)⟩) (by assumption) ?_
          (try simp only [Act.put, List.setIfInBounds_toArray, List.set_cons_zero, List.set_cons_succ])
          refine wpAnyH_take (i := 12) (oi := { dst := some 43, op := Op.load 81 (Operand.tmp 8), type := 81, pos := "corridor.go:32", after := #[{ on := 11, ground := Ground.guard }], guard := some (11, true) }) (v := .agg #[.int .i64 (c.X x.1), .int .i64 (c.Y x.1), .int .i64 (c.wx x.1), .int .i64 (c.wy x.1), .int .i64 ln, .int .i64 st]) rfl (by kernel_rfl) (by kernel_rfl) (by kernel_rfl) (fun _ _ _ h => h) (Or.inl ⟨by rfl, (by intro w0 hSw; (try dsimp only at hSw); go_simp)⟩) (by assumption) ?_
          (try simp only [Act.put, List.setIfInBounds_toArray, List.set_cons_zero, List.set_cons_succ])
          refine wpAnyH_take (i := 13) (oi := { dst := some 44, op := Op.load 43 (Operand.tmp 5), type := 43, pos := "corridor.go:32", after := #[{ on := 11, ground := Ground.guard }], guard := some (11, true) }) (v := .agg #[.int .i64 p, .int .i64 q]) rfl (by kernel_rfl) (by kernel_rfl) (by kernel_rfl) (fun _ _ _ h => h) (Or.inl ⟨by rfl, (by intro w0 hSw; (try dsimp only at hSw); go_simp)⟩) (by assumption) ?_
          (try simp only [Act.put, List.setIfInBounds_toArray, List.set_cons_zero, List.set_cons_succ])
          refine wpAnyH_take (i := 15) (oi := { dst := some 46, op := Op.load 2 (Operand.tmp 4), type := 2, pos := "corridor.go:32", after := #[{ on := 11, ground := Ground.guard }], guard := some (11, true) }) (v := .int .i64 r) rfl (by kernel_rfl) (by kernel_rfl) (by kernel_rfl) (fun _ _ _ h => h) (Or.inl ⟨by rfl, (by intro w0 hSw; (try dsimp only at hSw); go_simp)⟩) (by assumption) ?_
          (try simp only [Act.put, List.setIfInBounds_toArray, List.set_cons_zero, List.set_cons_succ])
          refine wpAnyH_take (i := 16) (oi := { dst := some 47, op := Op.fieldAddr 81 (Operand.tmp 8) 2, type := 0, pos := "corridor.go:32", after := #[{ on := 11, ground := Ground.guard }], guard := some (11, true) }) (v := .pointer (some ⟨Bx, 4, none⟩)) rfl (by kernel_rfl) (by kernel_rfl) (by kernel_rfl) (fun _ _ _ h => h) (Or.inl ⟨by rfl, (by intro w0 hSw; (try dsimp only at hSw); go_simp)⟩) (by assumption) ?_
          (try simp only [Act.put, List.setIfInBounds_toArray, List.set_cons_zero, List.set_cons_succ])
          refine wpAnyH_take (i := 17) (oi := { dst := some 48, op := Op.load 2 (Operand.tmp 47), type := 2, pos := "corridor.go:32", after := #[{ on := 16, ground := Ground.data }, { on := 11, ground := Ground.guard }], guard := some (11, true) }) (v := .int .i64 ln) rfl (by kernel_rfl) (by kernel_rfl) (by kernel_rfl) (fun _ _ _ h => h) (Or.inl ⟨by rfl, (by intro w0 hSw; (try dsimp only at hSw); go_simp)⟩) (by assumption) ?_
          (try simp only [Act.put, List.setIfInBounds_toArray, List.set_cons_zero, List.set_cons_succ])
          refine wpAnyH_take (i := 18) (oi := { dst := some 49, op := Op.binOp BinOp.mul 2 (Operand.tmp 46) (Operand.tmp 48) 2, type := 2, pos := "corridor.go:32", after := #[{ on := 15, ground := Ground.data }, { on := 17, ground := Ground.data }, { on := 11, ground := Ground.guard }], guard := some (11, true) }) (v := .int .i64 (r * ln)) rfl (by kernel_rfl) (by kernel_rfl) (by kernel_rfl) (fun _ _ _ h => h) (Or.inl ⟨by rfl, (by intro w0 hSw; (try dsimp only at hSw); go_simp)⟩) (by assumption) ?_
          (try simp only [Act.put, List.setIfInBounds_toArray, List.set_cons_zero, List.set_cons_succ])
          refine wpAnyH_ready (rs := [14]) (by kernel_rfl) (by simp) ?_
          refine AllReadyH.cons (o := { dst := some 45, op := Op.call { callee := Callee.value (Operand.func 73), args := #[Operand.tmp 43, Operand.tmp 44], argTypes := #[81, 43] }, type := 2, pos := "corridor.go:32", after := #[{ on := 12, ground := Ground.data }, { on := 13, ground := Ground.data }, { on := 11, ground := Ground.chain }, { on := 11, ground := Ground.guard }], guard := some (11, true) }) rfl (fun K hK => ?_) AllReadyH.nil
          go_simp
          (go_at_call 73; (with_reducible refine (HD.out _).mono ?_); rintro e w5 ⟨rfl, hb5⟩; have hB5 : Below w4.heap.size w4 w5 := below_step ((Below.refl _ w4).drew) hb5)
          refine hK.out _ _ (by refine ⟨?_, ?_, ?_, ?_, ?_, ?_, ?_, ?_, ?_⟩ <;> exact (Below.cell hB5 (by assumption)).trans (by assumption)) (fun hHeld => ?_)
          clear hK K
          (try simp only [Act.put, List.setIfInBounds_toArray, List.set_cons_zero, List.set_cons_succ])
          refine wpAnyH_take (i := 19) (oi := { dst := some 50, op := Op.binOp BinOp.leq 2 (Operand.tmp 45) (Operand.tmp 49) 2, type := 4, pos := "corridor.go:32", after := #[{ on := 14, ground := Ground.data }, { on := 18, ground := Ground.data }, { on := 11, ground := Ground.guard }], guard := some (11, true) }) (v := .bool false) rfl (by kernel_rfl) (by kernel_rfl) (by kernel_rfl) (fun _ _ _ h => h) (Or.inl ⟨by rfl, (by intro w0 hSw; (try dsimp only at hSw); go_simp)⟩) (by assumption) ?_
          (try simp only [Act.put, List.setIfInBounds_toArray, List.set_cons_zero, List.set_cons_succ])
          refine wpAnyH_take (i := 20) (oi := { dst := some 51, op := Op.pick (Operand.tmp 42) (Operand.tmp 50) (Operand.const (Value.bool false)), type := 4, pos := "corridor.go:32", after := #[{ on := 11, ground := Ground.data }, { on := 19, ground := Ground.data }], guard := none }) (v := .bool false) rfl (by kernel_rfl) (by kernel_rfl) (by kernel_rfl) (fun _ _ _ h => h) (Or.inl ⟨by rfl, (by intro w0 hSw; (try dsimp only at hSw); go_simp)⟩) (by assumption) ?_
          (try simp only [Act.put, List.setIfInBounds_toArray, List.set_cons_zero, List.set_cons_succ])
          refine wpAnyH_done (by kernel_rfl) ?_ _
          refine OnlyK.normal ?_
          gi_wp2
          have hbW := Lib.hid (below_step hb4 hB5)
          exact ⟨ko_below hbW.out _, Kp2.of_below hbW.out (by omega), hpre2.out (by rw [HNB.out]; simp; intros; omega), hB3.trans (hbW.out.mono (by omega))⟩
      · skip
        gi_wp2_with ((try refine ⟨trivial, fun _ => by omega, ?_⟩); gi_at_call 72; refine (CallsIn.inRound l (callsIn_wide.2 (HF.out _))).mono ?_; rintro e w4 ⟨rfl, hb4⟩; have hbx4 := box_step hbx hb4; have h434 := box_step hW43.out hb4; have h24 := box_step hW2.out hb4; have h44 := box_step hW4.out hb4; have q4 : w4.cell? ⟨Bx, 4, none⟩ = some (.int .i64 ln) := hbx4.cell 4; have q2 : w4.cell? ⟨w.heap.size + 1, 0, none⟩ = some (.int .i64 r) := h24.cell 0)
        have z0 : w4.cell? ⟨Bx, 0, none⟩ = some (.int .i64 (c.X x.1)) := hbx4.cell 0
        have z1 : w4.cell? ⟨Bx, 1, none⟩ = some (.int .i64 (c.Y x.1)) := hbx4.cell 1
        have z2 : w4.cell? ⟨Bx, 2, none⟩ = some (.int .i64 (c.wx x.1)) := hbx4.cell 2
        have z3 : w4.cell? ⟨Bx, 3, none⟩ = some (.int .i64 (c.wy x.1)) := hbx4.cell 3
        have z5 : w4.cell? ⟨Bx, 5, none⟩ = some (.int .i64 st) := hbx4.cell 5
        have z6 : w4.cell? ⟨w.heap.size + 1 + 1, 0, none⟩ = some (.int .i64 p) := h434.cell 0
        have z7 : w4.cell? ⟨w.heap.size + 1 + 1, 1, none⟩ = some (.int .i64 q) := h434.cell 1
        have hw1 : IntKind.i64.wrap (r * ln) = r * ln := IntWalk.i64_in _ (by omega)
        have hw2 : IntKind.i64.wrap (ln * ln) = ln * ln := IntWalk.i64_in _ (by omega)
        have y1 := hbx4.lt
        have y2 := h434.lt
        have y3 := h24.lt
        refine round_held (S := (fun w' => w'.cell? ⟨Bx, 0, none⟩ = some (.int .i64 (c.X x.1)) ∧ w'.cell? ⟨Bx, 1, none⟩ = some (.int .i64 (c.Y x.1)) ∧ w'.cell? ⟨Bx, 2, none⟩ = some (.int .i64 (c.wx x.1)) ∧ w'.cell? ⟨Bx, 3, none⟩ = some (.int .i64 (c.wy x.1)) ∧ w'.cell? ⟨Bx, 4, none⟩ = some (.int .i64 ln) ∧ w'.cell? ⟨Bx, 5, none⟩ = some (.int .i64 st) ∧ w'.cell? ⟨w.heap.size + 1 + 1, 0, none⟩ = some (.int .i64 p) ∧ w'.cell? ⟨w.heap.size + 1 + 1, 1, none⟩ = some (.int .i64 q) ∧ w'.cell? ⟨w.heap.size + 1, 0, none⟩ = some (.int .i64 r))) (by kernel_rfl) (by kernel_rfl) ⟨z0, z1, z2, z3, q4, z5, z6, z7, q2⟩ (fun hHeld => ?_)
        refine wpAnyH_take (i := 0) (oi := { dst := some 31, op := Op.move (Operand.tmp 9), type := 2, pos := "corridor.go:32", after := #[], guard := none }) (v := .int .i64 F) rfl (by kernel_rfl) (by kernel_rfl) (by kernel_rfl) (fun _ _ _ h => h) (Or.inl ⟨by rfl, (by intro w0 hSw; (try dsimp only at hSw); go_simp)⟩) (by assumption) ?_
        (try simp only [Act.put, List.setIfInBounds_toArray, List.set_cons_zero, List.set_cons_succ])
        refine wpAnyH_take (i := 1) (oi := { dst := some 32, op := Op.binOp BinOp.geq 2 (Operand.tmp 31) (Operand.const (Value.int IntKind.i64 0)) 2, type := 4, pos := "corridor.go:32", after := #[{ on := 0, ground := Ground.data }], guard := none }) (v := .bool true) rfl (by kernel_rfl) (by kernel_rfl) (by kernel_rfl) (fun _ _ _ h => h) (Or.inl ⟨by rfl, (by intro w0 hSw; (try dsimp only at hSw); go_simp)⟩) (by assumption) ?_
        (try simp only [Act.put, List.setIfInBounds_toArray, List.set_cons_zero, List.set_cons_succ])
        refine wpAnyH_take (i := 2) (oi := { dst := some 33, op := Op.move (Operand.tmp 32), type := 4, pos := "corridor.go:32", after := #[{ on := 1, ground := Ground.data }], guard := none }) (v := .bool true) rfl (by kernel_rfl) (by kernel_rfl) (by kernel_rfl) (fun _ _ _ h => h) (Or.inl ⟨by rfl, (by intro w0 hSw; (try dsimp only at hSw); go_simp)⟩) (by assumption) ?_
        (try simp only [Act.put, List.setIfInBounds_toArray, List.set_cons_zero, List.set_cons_succ])
        refine wpAnyH_take (i := 3) (oi := { dst := some 34, op := Op.move (Operand.tmp 9), type := 2, pos := "corridor.go:32", after := #[{ on := 2, ground := Ground.guard }], guard := some (2, true) }) (v := .int .i64 F) rfl (by kernel_rfl) (by kernel_rfl) (by kernel_rfl) (fun _ _ _ h => h) (Or.inl ⟨by rfl, (by intro w0 hSw; (try dsimp only at hSw); go_simp)⟩) (by assumption) ?_
        (try simp only [Act.put, List.setIfInBounds_toArray, List.set_cons_zero, List.set_cons_succ])
        refine wpAnyH_take (i := 4) (oi := { dst := some 35, op := Op.fieldAddr 81 (Operand.tmp 8) 2, type := 0, pos := "corridor.go:32", after := #[{ on := 2, ground := Ground.guard }], guard := some (2, true) }) (v := .pointer (some ⟨Bx, 4, none⟩)) rfl (by kernel_rfl) (by kernel_rfl) (by kernel_rfl) (fun _ _ _ h => h) (Or.inl ⟨by rfl, (by intro w0 hSw; (try dsimp only at hSw); go_simp)⟩) (by assumption) ?_
        (try simp only [Act.put, List.setIfInBounds_toArray, List.set_cons_zero, List.set_cons_succ])
        refine wpAnyH_take (i := 5) (oi := { dst := some 36, op := Op.load 2 (Operand.tmp 35), type := 2, pos := "corridor.go:32", after := #[{ on := 4, ground := Ground.data }, { on := 2, ground := Ground.guard }], guard := some (2, true) }) (v := .int .i64 ln) rfl (by kernel_rfl) (by kernel_rfl) (by kernel_rfl) (fun _ _ _ h => h) (Or.inl ⟨by rfl, (by intro w0 hSw; (try dsimp only at hSw); go_simp)⟩) (by assumption) ?_
        (try simp only [Act.put, List.setIfInBounds_toArray, List.set_cons_zero, List.set_cons_succ])
        refine wpAnyH_take (i := 6) (oi := { dst := some 37, op := Op.fieldAddr 81 (Operand.tmp 8) 2, type := 0, pos := "corridor.go:32", after := #[{ on := 2, ground := Ground.guard }], guard := some (2, true) }) (v := .pointer (some ⟨Bx, 4, none⟩)) rfl (by kernel_rfl) (by kernel_rfl) (by kernel_rfl) (fun _ _ _ h => h) (Or.inl ⟨by rfl, (by intro w0 hSw; (try dsimp only at hSw); go_simp)⟩) (by assumption) ?_
        (try simp only [Act.put, List.setIfInBounds_toArray, List.set_cons_zero, List.set_cons_succ])
        refine wpAnyH_take (i := 7) (oi := { dst := some 38, op := Op.load 2 (Operand.tmp 37), type := 2, pos := "corridor.go:32", after := #[{ on := 6, ground := Ground.data }, { on := 2, ground := Ground.guard }], guard := some (2, true) }) (v := .int .i64 ln) rfl (by kernel_rfl) (by kernel_rfl) (by kernel_rfl) (fun _ _ _ h => h) (Or.inl ⟨by rfl, (by intro w0 hSw; (try dsimp only at hSw); go_simp)⟩) (by assumption) ?_
        (try simp only [Act.put, List.setIfInBounds_toArray, List.set_cons_zero, List.set_cons_succ])
        refine wpAnyH_take (i := 8) (oi := { dst := some 39, op := Op.binOp BinOp.mul 2 (Operand.tmp 36) (Operand.tmp 38) 2, type := 2, pos := "corridor.go:32", after := #[{ on := 5, ground := Ground.data }, { on := 7, ground := Ground.data }, { on := 2, ground := Ground.guard }], guard := some (2, true) }) (v := .int .i64 (ln * ln)) rfl (by kernel_rfl) (by kernel_rfl) (by kernel_rfl) (fun _ _ _ h => h) (Or.inl ⟨by rfl, (by intro w0 hSw; (try dsimp only at hSw); go_simp)⟩) (by assumption) ?_
        (try simp only [Act.put, List.setIfInBounds_toArray, List.set_cons_zero, List.set_cons_succ])
        refine wpAnyH_take (i := 9) (oi := { dst := some 40, op := Op.binOp BinOp.leq 2 (Operand.tmp 34) (Operand.tmp 39) 2, type := 4, pos := "corridor.go:32", after := #[{ on := 3, ground := Ground.data }, { on := 8, ground := Ground.data }, { on := 2, ground := Ground.guard }], guard := some (2, true) }) (v := .bool false) rfl (by kernel_rfl) (by kernel_rfl) (by kernel_rfl) (fun _ _ _ h => h) (Or.inl ⟨by rfl, (by intro w0 hSw; (try dsimp only at hSw); go_simp)⟩) (by assumption) ?_
        (try simp only [Act.put, List.setIfInBounds_toArray, List.set_cons_zero, List.set_cons_succ])
        refine wpAnyH_take (i := 10) (oi := { dst := some 41, op := Op.pick (Operand.tmp 33) (Operand.tmp 40) (Operand.const (Value.bool false)), type := 4, pos := "corridor.go:32", after := #[{ on := 2, ground := Ground.data }, { on := 9, ground := Ground.data }], guard := none }) (v := .bool false) rfl (by kernel_rfl) (by kernel_rfl) (by kernel_rfl) (fun _ _ _ h => h) (Or.inl ⟨by rfl, (by intro w0 hSw; (try dsimp only at hSw); go_simp)⟩) (by assumption) ?_
        (try simp only [Act.put, List.setIfInBounds_toArray, List.set_cons_zero, List.set_cons_succ])
        refine wpAnyH_take (i := 11) (oi := { dst := some 42, op := Op.move (Operand.tmp 41), type := 4, pos := "corridor.go:32", after := #[{ on := 10, ground := Ground.data }, { on := 2, ground := Ground.chain }], guard := none }) (v := .bool false) rfl (by kernel_rfl) (by kernel_rfl) (by kernel_rfl) (fun _ _ _ h => h) (Or.inl ⟨by rfl, (by intro w0 hSw; (try dsimp only at hSw); go_simp)⟩) (by assumption) ?_
        (try simp only [Act.put, List.setIfInBounds_toArray, List.set_cons_zero, List.set_cons_succ])
        refine wpAnyH_take (i := 12) (oi := { dst := some 43, op := Op.load 81 (Operand.tmp 8), type := 81, pos := "corridor.go:32", after := #[{ on := 11, ground := Ground.guard }], guard := some (11, true) }) (v := undef) rfl (by kernel_rfl) (by kernel_rfl) (by kernel_rfl) (fun _ _ _ h => h) (Or.inr ⟨by rfl, rfl⟩) (by assumption) ?_
        (try simp only [Act.put, List.setIfInBounds_toArray, List.set_cons_zero, List.set_cons_succ])
        refine wpAnyH_take (i := 13) (oi := { dst := some 44, op := Op.load 43 (Operand.tmp 5), type := 43, pos := "corridor.go:32", after := #[{ on := 11, ground := Ground.guard }], guard := some (11, true) }) (v := undef) rfl (by kernel_rfl) (by kernel_rfl) (by kernel_rfl) (fun _ _ _ h => h) (Or.inr ⟨by rfl, rfl⟩) (by assumption) ?_
        (try simp only [Act.put, List.setIfInBounds_toArray, List.set_cons_zero, List.set_cons_succ])
        refine wpAnyH_take (i := 14) (oi := { dst := some 45, op := Op.call { callee := Callee.value (Operand.func 73), args := #[Operand.tmp 43, Operand.tmp 44], argTypes := #[81, 43] }, type := 2, pos := "corridor.go:32", after := #[{ on := 12, ground := Ground.data }, { on := 13, ground := Ground.data }, { on := 11, ground := Ground.chain }, { on := 11, ground := Ground.guard }], guard := some (11, true) }) (v := undef) rfl (by kernel_rfl) (by kernel_rfl) (by kernel_rfl) (fun _ _ _ h => h) (Or.inr ⟨by rfl, rfl⟩) (by assumption) ?_
        (try simp only [Act.put, List.setIfInBounds_toArray, List.set_cons_zero, List.set_cons_succ])
        refine wpAnyH_take (i := 15) (oi := { dst := some 46, op := Op.load 2 (Operand.tmp 4), type := 2, pos := "corridor.go:32", after := #[{ on := 11, ground := Ground.guard }], guard := some (11, true) }) (v := undef) rfl (by kernel_rfl) (by kernel_rfl) (by kernel_rfl) (fun _ _ _ h => h) (Or.inr ⟨by rfl, rfl⟩) (by assumption) ?_
        (try simp only [Act.put, List.setIfInBounds_toArray, List.set_cons_zero, List.set_cons_succ])
        refine wpAnyH_take (i := 16) (oi := { dst := some 47, op := Op.fieldAddr 81 (Operand.tmp 8) 2, type := 0, pos := "corridor.go:32", after := #[{ on := 11, ground := Ground.guard }], guard := some (11, true) }) (v := undef) rfl (by kernel_rfl) (by kernel_rfl) (by kernel_rfl) (fun _ _ _ h => h) (Or.inr ⟨by rfl, rfl⟩) (by assumption) ?_
        (try simp only [Act.put, List.setIfInBounds_toArray, List.set_cons_zero, List.set_cons_succ])
        refine wpAnyH_take (i := 17) (oi := { dst := some 48, op := Op.load 2 (Operand.tmp 47), type := 2, pos := "corridor.go:32", after := #[{ on := 16, ground := Ground.data }, { on := 11, ground := Ground.guard }], guard := some (11, true) }) (v := undef) rfl (by kernel_rfl) (by kernel_rfl) (by kernel_rfl) (fun _ _ _ h => h) (Or.inr ⟨by rfl, rfl⟩) (by assumption) ?_
        (try simp only [Act.put, List.setIfInBounds_toArray, List.set_cons_zero, List.set_cons_succ])
        refine wpAnyH_take (i := 18) (oi := { dst := some 49, op := Op.binOp BinOp.mul 2 (Operand.tmp 46) (Operand.tmp 48) 2, type := 2, pos := "corridor.go:32", after := #[{ on := 15, ground := Ground.data }, { on := 17, ground := Ground.data }, { on := 11, ground := Ground.guard }], guard := some (11, true) }) (v := undef) rfl (by kernel_rfl) (by kernel_rfl) (by kernel_rfl) (fun _ _ _ h => h) (Or.inr ⟨by rfl, rfl⟩) (by assumption) ?_
        (try simp only [Act.put, List.setIfInBounds_toArray, List.set_cons_zero, List.set_cons_succ])
        refine wpAnyH_take (i := 19) (oi := { dst := some 50, op := Op.binOp BinOp.leq 2 (Operand.tmp 45) (Operand.tmp 49) 2, type := 4, pos := "corridor.go:32", after := #[{ on := 14, ground := Ground.data }, { on := 18, ground := Ground.data }, { on := 11, ground := Ground.guard }], guard := some (11, true) }) (v := undef) rfl (by kernel_rfl) (by kernel_rfl) (by kernel_rfl) (fun _ _ _ h => h) (Or.inr ⟨by rfl, rfl⟩) (by assumption) ?_
        (try simp only [Act.put, List.setIfInBounds_toArray, List.set_cons_zero, List.set_cons_succ])
        refine wpAnyH_take (i := 20) (oi := { dst := some 51, op := Op.pick (Operand.tmp 42) (Operand.tmp 50) (Operand.const (Value.bool false)), type := 4, pos := "corridor.go:32", after := #[{ on := 11, ground := Ground.data }, { on := 19, ground := Ground.data }], guard := none }) (v := .bool false) rfl (by kernel_rfl) (by kernel_rfl) (by kernel_rfl) (fun _ _ _ h => h) (Or.inl ⟨by rfl, (by intro w0 hSw; (try dsimp only at hSw); go_simp)⟩) (by assumption) ?_
        (try simp only [Act.put, List.setIfInBounds_toArray, List.set_cons_zero, List.set_cons_succ])
        refine wpAnyH_done (by kernel_rfl) ?_ _
        refine OnlyK.normal ?_
        gi_wp2
        exact ⟨ko_below hb4.drew _, Kp2.of_below hb4.drew (by omega), hpre2.out (by rw [HNB.out]; simp; intros; omega), hB3.trans (hb4.drew.mono (by omega))⟩
    · skip
      gi_wp2_with ((try refine ⟨trivial, fun _ => by omega, ?_⟩); gi_at_call 72; refine (CallsIn.inRound l (callsIn_wide.2 (HF.out _))).mono ?_; rintro e w4 ⟨rfl, hb4⟩; have hbx4 := box_step hbx hb4; have h434 := box_step hW43.out hb4; have h24 := box_step hW2.out hb4; have h44 := box_step hW4.out hb4; have q4 : w4.cell? ⟨Bx, 4, none⟩ = some (.int .i64 ln) := hbx4.cell 4; have q2 : w4.cell? ⟨w.heap.size + 1, 0, none⟩ = some (.int .i64 r) := h24.cell 0)
      have z0 : w4.cell? ⟨Bx, 0, none⟩ = some (.int .i64 (c.X x.1)) := hbx4.cell 0
      have z1 : w4.cell? ⟨Bx, 1, none⟩ = some (.int .i64 (c.Y x.1)) := hbx4.cell 1
      have z2 : w4.cell? ⟨Bx, 2, none⟩ = some (.int .i64 (c.wx x.1)) := hbx4.cell 2
      have z3 : w4.cell? ⟨Bx, 3, none⟩ = some (.int .i64 (c.wy x.1)) := hbx4.cell 3
      have z5 : w4.cell? ⟨Bx, 5, none⟩ = some (.int .i64 st) := hbx4.cell 5
      have z6 : w4.cell? ⟨w.heap.size + 1 + 1, 0, none⟩ = some (.int .i64 p) := h434.cell 0
      have z7 : w4.cell? ⟨w.heap.size + 1 + 1, 1, none⟩ = some (.int .i64 q) := h434.cell 1
      have hw1 : IntKind.i64.wrap (r * ln) = r * ln := IntWalk.i64_in _ (by omega)
      have hw2 : IntKind.i64.wrap (ln * ln) = ln * ln := IntWalk.i64_in _ (by omega)
      have y1 := hbx4.lt
      have y2 := h434.lt
      have y3 := h24.lt
      refine round_held (S := (fun w' => w'.cell? ⟨Bx, 0, none⟩ = some (.int .i64 (c.X x.1)) ∧ w'.cell? ⟨Bx, 1, none⟩ = some (.int .i64 (c.Y x.1)) ∧ w'.cell? ⟨Bx, 2, none⟩ = some (.int .i64 (c.wx x.1)) ∧ w'.cell? ⟨Bx, 3, none⟩ = some (.int .i64 (c.wy x.1)) ∧ w'.cell? ⟨Bx, 4, none⟩ = some (.int .i64 ln) ∧ w'.cell? ⟨Bx, 5, none⟩ = some (.int .i64 st) ∧ w'.cell? ⟨w.heap.size + 1 + 1, 0, none⟩ = some (.int .i64 p) ∧ w'.cell? ⟨w.heap.size + 1 + 1, 1, none⟩ = some (.int .i64 q) ∧ w'.cell? ⟨w.heap.size + 1, 0, none⟩ = some (.int .i64 r))) (by kernel_rfl) (by kernel_rfl) ⟨z0, z1, z2, z3, q4, z5, z6, z7, q2⟩ (fun hHeld => ?_)
      refine wpAnyH_take (i := 0) (oi := { dst := some 31, op := Op.move (Operand.tmp 9), type := 2, pos := "corridor.go:32", after := #[], guard := none }) (v := .int .i64 F) rfl (by kernel_rfl) (by kernel_rfl) (by kernel_rfl) (fun _ _ _ h => h) (Or.inl ⟨by rfl, (by intro w0 hSw; (try dsimp only at hSw); go_simp)⟩) (by assumption) ?_
      (try simp only [Act.put, List.setIfInBounds_toArray, List.set_cons_zero, List.set_cons_succ])
      refine wpAnyH_take (i := 1) (oi := { dst := some 32, op := Op.binOp BinOp.geq 2 (Operand.tmp 31) (Operand.const (Value.int IntKind.i64 0)) 2, type := 4, pos := "corridor.go:32", after := #[{ on := 0, ground := Ground.data }], guard := none }) (v := .bool false) rfl (by kernel_rfl) (by kernel_rfl) (by kernel_rfl) (fun _ _ _ h => h) (Or.inl ⟨by rfl, (by intro w0 hSw; (try dsimp only at hSw); go_simp)⟩) (by assumption) ?_
      (try simp only [Act.put, List.setIfInBounds_toArray, List.set_cons_zero, List.set_cons_succ])
      refine wpAnyH_take (i := 2) (oi := { dst := some 33, op := Op.move (Operand.tmp 32), type := 4, pos := "corridor.go:32", after := #[{ on := 1, ground := Ground.data }], guard := none }) (v := .bool false) rfl (by kernel_rfl) (by kernel_rfl) (by kernel_rfl) (fun _ _ _ h => h) (Or.inl ⟨by rfl, (by intro w0 hSw; (try dsimp only at hSw); go_simp)⟩) (by assumption) ?_
      (try simp only [Act.put, List.setIfInBounds_toArray, List.set_cons_zero, List.set_cons_succ])
      refine wpAnyH_take (i := 3) (oi := { dst := some 34, op := Op.move (Operand.tmp 9), type := 2, pos := "corridor.go:32", after := #[{ on := 2, ground := Ground.guard }], guard := some (2, true) }) (v := undef) rfl (by kernel_rfl) (by kernel_rfl) (by kernel_rfl) (fun _ _ _ h => h) (Or.inr ⟨by rfl, rfl⟩) (by assumption) ?_
      (try simp only [Act.put, List.setIfInBounds_toArray, List.set_cons_zero, List.set_cons_succ])
      refine wpAnyH_take (i := 4) (oi := { dst := some 35, op := Op.fieldAddr 81 (Operand.tmp 8) 2, type := 0, pos := "corridor.go:32", after := #[{ on := 2, ground := Ground.guard }], guard := some (2, true) }) (v := undef) rfl (by kernel_rfl) (by kernel_rfl) (by kernel_rfl) (fun _ _ _ h => h) (Or.inr ⟨by rfl, rfl⟩) (by assumption) ?_
      (try simp only [Act.put, List.setIfInBounds_toArray, List.set_cons_zero, List.set_cons_succ])
      refine wpAnyH_take (i := 5) (oi := { dst := some 36, op := Op.load 2 (Operand.tmp 35), type := 2, pos := "corridor.go:32", after := #[{ on := 4, ground := Ground.data }, { on := 2, ground := Ground.guard }], guard := some (2, true) }) (v := undef) rfl (by kernel_rfl) (by kernel_rfl) (by kernel_rfl) (fun _ _ _ h => h) (Or.inr ⟨by rfl, rfl⟩) (by assumption) ?_
      (try simp only [Act.put, List.setIfInBounds_toArray, List.set_cons_zero, List.set_cons_succ])
      refine wpAnyH_take (i := 6) (oi := { dst := some 37, op := Op.fieldAddr 81 (Operand.tmp 8) 2, type := 0, pos := "corridor.go:32", after := #[{ on := 2, ground := Ground.guard }], guard := some (2, true) }) (v := undef) rfl (by kernel_rfl) (by kernel_rfl) (by kernel_rfl) (fun _ _ _ h => h) (Or.inr ⟨by rfl, rfl⟩) (by assumption) ?_
      (try simp only [Act.put, List.setIfInBounds_toArray, List.set_cons_zero, List.set_cons_succ])
      refine wpAnyH_take (i := 7) (oi := { dst := some 38, op := Op.load 2 (Operand.tmp 37), type := 2, pos := "corridor.go:32", after := #[{ on := 6, ground := Ground.data }, { on := 2, ground := Ground.guard }], guard := some (2, true) }) (v := undef) rfl (by kernel_rfl) (by kernel_rfl) (by kernel_rfl) (fun _ _ _ h => h) (Or.inr ⟨by rfl, rfl⟩) (by assumption) ?_
      (try simp only [Act.put, List.setIfInBounds_toArray, List.set_cons_zero, List.set_cons_succ])
      refine wpAnyH_take (i := 8) (oi := { dst := some 39, op := Op.binOp BinOp.mul 2 (Operand.tmp 36) (Operand.tmp 38) 2, type := 2, pos := "corridor.go:32", after := #[{ on := 5, ground := Ground.data }, { on := 7, ground := Ground.data }, { on := 2, ground := Ground.guard }], guard := some (2, true) }) (v := undef) rfl (by kernel_rfl) (by kernel_rfl) (by kernel_rfl) (fun _ _ _ h => h) (Or.inr ⟨by rfl, rfl⟩) (by assumption) ?_
      (try simp only [Act.put, List.setIfInBounds_toArray, List.set_cons_zero, List.set_cons_succ])
      refine wpAnyH_take (i := 9) (oi := { dst := some 40, op := Op.binOp BinOp.leq 2 (Operand.tmp 34) (Operand.tmp 39) 2, type := 4, pos := "corridor.go:32", after := #[{ on := 3, ground := Ground.data }, { on := 8, ground := Ground.data }, { on := 2, ground := Ground.guard }], guard := some (2, true) }) (v := undef) rfl (by kernel_rfl) (by kernel_rfl) (by kernel_rfl) (fun _ _ _ h => h) (Or.inr ⟨by rfl, rfl⟩) (by assumption) ?_
      (try simp only [Act.put, List.setIfInBounds_toArray, List.set_cons_zero, List.set_cons_succ])
      refine wpAnyH_take (i := 10) (oi := { dst := some 41, op := Op.pick (Operand.tmp 33) (Operand.tmp 40) (Operand.const (Value.bool false)), type := 4, pos := "corridor.go:32", after := #[{ on := 2, ground := Ground.data }, { on := 9, ground := Ground.data }], guard := none }) (v := .bool false) rfl (by kernel_rfl) (by kernel_rfl) (by kernel_rfl) (fun _ _ _ h => h) (Or.inl ⟨by rfl, (by intro w0 hSw; (try dsimp only at hSw); go_simp)⟩) (by assumption) ?_
      (try simp only [Act.put, List.setIfInBounds_toArray, List.set_cons_zero, List.set_cons_succ])
      refine wpAnyH_take (i := 11) (oi := { dst := some 42, op := Op.move (Operand.tmp 41), type := 4, pos := "corridor.go:32", after := #[{ on := 10, ground := Ground.data }, { on := 2, ground := Ground.chain }], guard := none }) (v := .bool false) rfl (by kernel_rfl) (by kernel_rfl) (by kernel_rfl) (fun _ _ _ h => h) (Or.inl ⟨by rfl, (by intro w0 hSw; (try dsimp only at hSw); go_simp)⟩) (by assumption) ?_
      (try simp only [Act.put, List.setIfInBounds_toArray, List.set_cons_zero, List.set_cons_succ])
      refine wpAnyH_take (i := 12) (oi := { dst := some 43, op := Op.load 81 (Operand.tmp 8), type := 81, pos := "corridor.go:32", after := #[{ on := 11, ground := Ground.guard }], guard := some (11, true) }) (v := undef) rfl (by kernel_rfl) (by kernel_rfl) (by kernel_rfl) (fun _ _ _ h => h) (Or.inr ⟨by rfl, rfl⟩) (by assumption) ?_
      (try simp only [Act.put, List.setIfInBounds_toArray, List.set_cons_zero, List.set_cons_succ])
      refine wpAnyH_take (i := 13) (oi := { dst := some 44, op := Op.load 43 (Operand.tmp 5), type := 43, pos := "corridor.go:32", after := #[{ on := 11, ground := Ground.guard }], guard := some (11, true) }) (v := undef) rfl (by kernel_rfl) (by kernel_rfl) (by kernel_rfl) (fun _ _ _ h => h) (Or.inr ⟨by rfl, rfl⟩) (by assumption) ?_
      (try simp only [Act.put, List.setIfInBounds_toArray, List.set_cons_zero, List.set_cons_succ])
      refine wpAnyH_take (i := 14) (oi := { dst := some 45, op := Op.call { callee := Callee.value (Operand.func 73), args := #[Operand.tmp 43, Operand.tmp 44], argTypes := #[81, 43] }, type := 2, pos := "corridor.go:32", after := #[{ on := 12, ground := Ground.data }, { on := 13, ground := Ground.data }, { on := 11, ground := Ground.chain }, { on := 11, ground := Ground.guard }], guard := some (11, true) }) (v := undef) rfl (by kernel_rfl) (by kernel_rfl) (by kernel_rfl) (fun _ _ _ h => h) (Or.inr ⟨by rfl, rfl⟩) (by assumption) ?_
      (try simp only [Act.put, List.setIfInBounds_toArray, List.set_cons_zero, List.set_cons_succ])
      refine wpAnyH_take (i := 15) (oi := { dst := some 46, op := Op.load 2 (Operand.tmp 4), type := 2, pos := "corridor.go:32", after := #[{ on := 11, ground := Ground.guard }], guard := some (11, true) }) (v := undef) rfl (by kernel_rfl) (by kernel_rfl) (by kernel_rfl) (fun _ _ _ h => h) (Or.inr ⟨by rfl, rfl⟩) (by assumption) ?_
      (try simp only [Act.put, List.setIfInBounds_toArray, List.set_cons_zero, List.set_cons_succ])
      refine wpAnyH_take (i := 16) (oi := { dst := some 47, op := Op.fieldAddr 81 (Operand.tmp 8) 2, type := 0, pos := "corridor.go:32", after := #[{ on := 11, ground := Ground.guard }], guard := some (11, true) }) (v := undef) rfl (by kernel_rfl) (by kernel_rfl) (by kernel_rfl) (fun _ _ _ h => h) (Or.inr ⟨by rfl, rfl⟩) (by assumption) ?_
      (try simp only [Act.put, List.setIfInBounds_toArray, List.set_cons_zero, List.set_cons_succ])
      refine wpAnyH_take (i := 17) (oi := { dst := some 48, op := Op.load 2 (Operand.tmp 47), type := 2, pos := "corridor.go:32", after := #[{ on := 16, ground := Ground.data }, { on := 11, ground := Ground.guard }], guard := some (11, true) }) (v := undef) rfl (by kernel_rfl) (by kernel_rfl) (by kernel_rfl) (fun _ _ _ h => h) (Or.inr ⟨by rfl, rfl⟩) (by assumption) ?_
      (try simp only [Act.put, List.setIfInBounds_toArray, List.set_cons_zero, List.set_cons_succ])
      refine wpAnyH_take (i := 18) (oi := { dst := some 49, op := Op.binOp BinOp.mul 2 (Operand.tmp 46) (Operand.tmp 48) 2, type := 2, pos := "corridor.go:32", after := #[{ on := 15, ground := Ground.data }, { on := 17, ground := Ground.data }, { on := 11, ground := Ground.guard }], guard := some (11, true) }) (v := undef) rfl (by kernel_rfl) (by kernel_rfl) (by kernel_rfl) (fun _ _ _ h => h) (Or.inr ⟨by rfl, rfl⟩) (by assumption) ?_
      (try simp only [Act.put, List.setIfInBounds_toArray, List.set_cons_zero, List.set_cons_succ])
      refine wpAnyH_take (i := 19) (oi := { dst := some 50, op := Op.binOp BinOp.leq 2 (Operand.tmp 45) (Operand.tmp 49) 2, type := 4, pos := "corridor.go:32", after := #[{ on := 14, ground := Ground.data }, { on := 18, ground := Ground.data }, { on := 11, ground := Ground.guard }], guard := some (11, true) }) (v := undef) rfl (by kernel_rfl) (by kernel_rfl) (by kernel_rfl) (fun _ _ _ h => h) (Or.inr ⟨by rfl, rfl⟩) (by assumption) ?_
      (try simp only [Act.put, List.setIfInBounds_toArray, List.set_cons_zero, List.set_cons_succ])
      refine wpAnyH_take (i := 20) (oi := { dst := some 51, op := Op.pick (Operand.tmp 42) (Operand.tmp 50) (Operand.const (Value.bool false)), type := 4, pos := "corridor.go:32", after := #[{ on := 11, ground := Ground.data }, { on := 19, ground := Ground.data }], guard := none }) (v := .bool false) rfl (by kernel_rfl) (by kernel_rfl) (by kernel_rfl) (fun _ _ _ h => h) (Or.inl ⟨by rfl, (by intro w0 hSw; (try dsimp only at hSw); go_simp)⟩) (by assumption) ?_
      (try simp only [Act.put, List.setIfInBounds_toArray, List.set_cons_zero, List.set_cons_succ])
      refine wpAnyH_done (by kernel_rfl) ?_ _
      refine OnlyK.normal ?_
      gi_wp2
      exact ⟨ko_below hb4.drew _, Kp2.of_below hb4.drew (by omega), hpre2.out (by rw [HNB.out]; simp; intros; omega), hB3.trans (hb4.drew.mono (by omega))⟩
  case done =>
    rintro D ys W hD rfl ⟨hO, hB3⟩ hK
    have hR : BoxAt W (w.heap.size + 1 + 1 + 1) 4 #[.bool false] := BoxAt.below e4 (hB3.mono (by omega)) (by omega)
    have hBB : Below w.heap.size w W := hB.trans (hB3.mono (by have := hB.size; omega))
    have q0 : W.cell? ⟨w.heap.size + 1 + 1 + 1, 0, none⟩ = some (.bool false) := hR.cell 0
    have q1 : W.frozen? ⟨w.heap.size + 1 + 1 + 1, 0, none⟩ = false := hR.frozen 0
    have hz : Hid (holdL c p q r (c.n - 1) = false) := holdL_no (fun i hi => hO ⟨i, hi⟩ (ix_all ⟨i, hi⟩))
    gi_wp2
    have hK' := (KeepsOthers.setCell W ⟨w.heap.size + 1 + 1 + 1, 0, none⟩ (.bool false)).same D _ hK rfl
    refine ⟨by simp, .inl ⟨_, _, rfl, run_takeDeferred hK', ?_⟩⟩
    have hc5 := cell_kept (BoxAt.cell (hR.set 0 (.bool false)) 0) (grownBy_putObj' _ D (.deferred none)) (fun r e => by cases e; exact ⟨_, hK', rfl⟩)
    refine ⟨.bool false, ?_, by rw [hz.out], (hBB.setCell (p := ⟨w.heap.size + 1 + 1 + 1, 0, none⟩) (by show w.heap.size ≤ w.heap.size + 1 + 1 + 1; omega) _).trans (belowK_b (w := w) (Nat.le_refl _) _ D _ _ (by have := hB.size; omega) hK' rfl rfl)⟩
    simp [results, Try.f35, go_sem, hc5]
  case stop =>
    rintro D cd pre W hD _ ⟨⟨⟨rfl, x, hx⟩, hR⟩, hB3⟩ hK
    have hz : Hid (holdL c p q r (c.n - 1) = true) := holdL_yes x.2 hx
    gi_wp2
    refine ⟨by simp, .inl ⟨_, _, rfl, run_takeDeferred hK, ?_⟩⟩
    have hc5 := cell_kept (BoxAt.cell hR 0) (grownBy_putObj' _ D (.deferred none)) (fun r e => by cases e; exact ⟨_, hK, rfl⟩)
    refine ⟨.bool true, ?_, by rw [hz.out], hB3.trans (belowK_b (w := w) (Nat.le_refl _) W D _ _ (by have := hB.size; omega) hK rfl rfl)⟩
    simp [results, Try.f35, go_sem, hc5]
end Go.Proofs.Ytglkpabcflecmaa
