/- The program's Near of a valid curve. -/
import Derived.Test.YtglkpabcflecmaaNMath
import Derived.Test.YtglkpabcflecmaaKCur
import Derived.Deep.AppendLies
namespace Go.Proofs.Ytglkpabcflecmaa
open Go.RowKit Go.Shelf
attribute [local go_sem] Oper.semAt_some

def NearPost (L : List Int) (w : World) (e : Ending) (w' : World) : Prop := ∃ A cap, e = .returned (.slice A L.length cap) ∧ Lst w' A L.length (fun i => L.getD i 0) ∧ Below w.heap.size w w'

theorem nears_own (Bb base : Nat) (c : Crv) (a b r : Int) {N : Nat} : Own (fun (pre : List (Ix N)) W => ∃ v, BoxAt W Bb 32 #[v] ∧ W.ownsRow base 2 1 v (nearP c a b r pre).length ((nearP c a b r pre).map (.int .i64))) := by
  intro s W W' row ⟨v, hb, ho⟩ hg hr
  refine ⟨v, boxAt_own (β := Unit) Bb 32 (fun _ => #[v]) () W W' row hb hg hr, ho.kept hg ?_⟩
  cases hv : v.ownBlock with
  | none => exact .inl rfl
  | some j =>
    right
    intro e
    obtain ⟨o, ho2, hc⟩ := hr j e.symm
    obtain ⟨_, cur, hcur⟩ := row_cells ho hv
    rw [hcur] at ho2; cases ho2; cases hc

theorem ko_below {W W' : World} (h : Below W.heap.size W W') (B : Nat) : KeepsFrom B W W' := (KeepsOthers.of_grownBy (grown_of_below h) (fun j o e => by cases e)).from B

set_option maxRecDepth 100000 in
set_option maxHeartbeats 4000000 in
theorem near_in (m : Nat) (hm : 3 ≤ m) (b off cap : Nat) (c : Crv) (hg : Good c) (p q r : Int) (hp1 : okc p) (hq1 : okc q) (hr0 : 0 ≤ r) (hr1 : r ≤ 16777216) (w : World) (hp : Pts w b off c.n c.X c.Y) (hb : b < w.heap.size) :
    CallsIn Fence.wide m Try.prog 33 #[cv b off c.n cap, sp p q, .int .i64 r] w (NearPost (nearL c p q r (c.n - 1)) w) := by
  obtain ⟨i0_, hi0, hz0, hz1, hz2⟩ := info_parts Try.info2
  have hI0 := Lib.hid hi0
  have hZ0 := Lib.hid hz0
  have hZ1 := Lib.hid hz1
  have hZ2 := Lib.hid hz2
  clear hi0 hz0 hz1 hz2
  obtain ⟨hn, hn', hok, _⟩ := id hg
  obtain ⟨b24, b43, b2, hB⟩ := three_boxes w (.slice (some ⟨b, off, none⟩) c.n cap) p q r
  have hv : vldB p q = true := (vldB_iff p q).2 ⟨hp1, hq1⟩
  have HP := Lib.hid (hp.below hB hb)
  have e1 : decide (r < 0) = false := decide_eq_false (by omega)
  have e2 : decide (16777216 < r) = false := decide_eq_false (by omega)
  refine callsIn_of_wp_marks Try.func33 rfl trivial ?_ rfl
  simp only [Try.ntmps33, List.size_toArray, List.length_cons, List.length_nil, Nat.reduceAdd, Nat.reduceSub, Array.replicate_succ, Array.replicate_zero, List.push_toArray, List.append_toArray, List.nil_append, List.cons_append]
  gi_wp2_with (first
    | (refine ⟨trivial, fun _ => by omega, ?_⟩; gi_at_call 20; refine (callsIn_wide.2 (check_good b off cap c hg _ HP.out)).mono ?_; rintro e w1 ⟨rfl, hb1⟩; have b24' := box_step b24 hb1; have b43' := box_step b43 hb1; have b2' := box_step b2 hb1; replace hB := below_step hB hb1; have k0 : w1.cell? ⟨w.heap.size + 1, 0, none⟩ = some (.int .i64 p) := b43'.cell 0; have k1 : w1.cell? ⟨w.heap.size + 1, 1, none⟩ = some (.int .i64 q) := b43'.cell 1)
    | (refine ⟨trivial, fun _ => by omega, ?_⟩; gi_at_call 59; refine (callsIn_wide.2 (valid_one _ p q _ (BoxAt.new _ _ _))).mono ?_; rintro e w2 ⟨rfl, hb2⟩; rw [hv]; have d24 := box_step (b24'.alloc _) hb2; have d43 := box_step (b43'.alloc _) hb2; have d2 := box_step (b2'.alloc _) hb2; replace hB := below_step2 hB hb2; have k2 : w2.cell? ⟨w.heap.size + 1 + 1, 0, none⟩ = some (.int .i64 r) := d2.cell 0; have k3 : w2.cell? ⟨w.heap.size, 0, none⟩ = some (.slice (some ⟨b, off, none⟩) c.n cap) := d24.cell 0; have l24 := d24.lt; have l43 := d43.lt; have l2 := d2.lt)
    | (refine ⟨trivial, fun _ => by omega, ?_⟩; gi_at_call 60; refine (callsIn_wide.2 (pieces_any b off c.n cap _)).mono ?_; rintro e w3 ⟨rfl, rfl⟩))
  obtain ⟨Bb, hBb⟩ : ∃ Bb, Bb = w2.heap.size := ⟨_, rfl⟩
  obtain ⟨W0, hW0⟩ : ∃ W0, ((w2.alloc (.cells #[.slice none 0 0] 32)).alloc (.cells #[.slice (some ⟨b, off, none⟩) c.n cap] 24)) = W0 := ⟨_, rfl⟩
  obtain ⟨sB, sP, hB10, hsz⟩ := two_boxes w2 32 #[.slice none 0 0] (.slice (some ⟨b, off, none⟩) c.n cap)
  have hbl : b < Bb := by have := hB.size; omega
  have hp2 := Lib.hid (hp.below hB hb)
  have hp0 : Pts W0 b off c.n c.X c.Y := by rw [← hW0]; exact hp2.out.below hB10 (by omega)
  rw [hW0, ← hBb] at sB sP hsz
  rw [hW0, ← hBb] at hB10
  rw [hW0, ← hBb]
  rw [← hBb] at l24 l43 l2
  have hBb1 : Bb ≤ w2.heap.size := by omega
  have hBb2 : w2.heap.size ≤ Bb := by omega
  clear hBb
  clear hW0 b24 b43 b2 b24' b43' b2' k0 k1 k2 k3 hb1 hb2 HP
  refine wpIn_rangeFunc_ownH rfl (by omega) (gf := 89) (lb := #[.pointer (some ⟨Bb + 1, 0, none⟩)]) rfl trivial (enters_of Try.func89 (by kernel_rfl) rfl)
    (pieces_stops3 (m - 1) (by omega) (Bb + 1) Bb (Bb + 1) b off cap c hn hn' hok hbl W0 sP (Nat.le_refl _) hp0 (by omega)) Kp3.trans (kp3_b (w := W0) (by omega)) (Below.refl _ _) (fun _ => rfl)
    (fun pre W => (∃ v, BoxAt W Bb 32 #[v] ∧ W.ownsRow (Bb + 2) 2 1 v (nearP c p q r pre).length ((nearP c p q r pre).map (.int .i64))) ∧ Below Bb w2 W)
    (fun _ _ _ => False)
    (OwnFrom.and (Own.from (nears_own Bb (Bb + 2) c p q r) _) (ownFrom_below (by omega) (by omega)))
    (fun _ _ _ _ _ hs _ _ => hs)
    ⟨⟨_, sB, World.ownsRow_nil _ _ _ _⟩, hB10⟩
    (fun x a' W => ∃ Bx, BoxAt W Bx 81 #[.int .i64 (c.X x.1), .int .i64 (c.Y x.1), .int .i64 (c.wx x.1), .int .i64 (c.wy x.1), .int .i64 (c.len x.1), .int .i64 (c.st x.1)] ∧
      a' = { tmps := #[cv b off c.n cap, sp p q, .int .i64 r, .pointer (some ⟨w.heap.size, 0, none⟩), .pointer (some ⟨w.heap.size + 1, 0, none⟩), .pointer (some ⟨w.heap.size + 1 + 1, 0, none⟩), .slice none 0 0, .pointer (some ⟨Bb, 0, none⟩), undef, .pointer (some ⟨Bx, 0, none⟩), undef, undef, .agg #[.slice (some ⟨b, off, none⟩) c.n cap], .int .i64 0, .bool false, .bool false, .agg #[.int .i64 p, .int .i64 q], .slice (some ⟨w1.heap.size, 0, none⟩) 1 1, .bool true, .bool false, .bool false, .bool false, .int .i64 r, .bool false, .bool false, .bool false, .int .i64 r, .bool false, .bool false, .agg #[.slice (some ⟨b, off, none⟩) c.n cap], .func (.func 89) #[] #[.pointer (some ⟨Bb + 1, 0, none⟩)], .int .i64 (x.1 : Int), pcv c x.1, undef, undef, undef, undef, undef, undef, undef, undef, undef, undef, undef, undef, undef, undef, undef, undef, undef, undef, undef, undef, undef, undef, undef, undef, undef, undef, undef, undef, undef, undef, undef, undef, undef, undef, undef, undef, undef, undef, undef, undef, undef, undef, undef, undef, undef, undef, undef], defers := [] })
    (fun x a' => Own.from (fun _ A B row hs hg hr => by obtain ⟨Bx, h2, h3⟩ := hs; exact ⟨Bx, boxAt_own (β := Unit) _ _ (fun _ => _) () A B row h2 hg hr, h3⟩) _) ?assign ?body ?done ?stop
  case assign =>
    rintro l pre x W K ⟨⟨v, h1, hown⟩, hB⟩ hK
    gi_wp2
    exact hK _ _ ((KeepsOthers.alloc _ _).from _) ((Kp3.refl _ _ _).alloc (by have := hB.size; omega) _) ⟨⟨v, h1.alloc _, hown.alloc _⟩, hB.alloc (by have := hB.size; omega) _⟩ ⟨W.heap.size, BoxAt.new _ _ _, rfl⟩
  case body =>
    rintro l pre x a' W hl hr ⟨⟨v, hS, hown⟩, hB3⟩ ⟨Bx, hbx, rfl⟩ hlt
    have hlt' : pre.length < 16 := by omega
    have hi : x.1 + 1 < c.n := by have := x.2; omega
    have HO := Lib.hid hown
    obtain ⟨_, l1, l2'⟩ := hg.len hi
    obtain ⟨f1, f2⟩ := foot_bd c hok p q hp1 hq1 hi
    obtain ⟨d1, d2'⟩ := dist_bd c hok p q hp1 hq1 hi
    obtain ⟨s1, s2⟩ : 0 ≤ c.st x.1 ∧ c.st x.1 ≤ 100000000000000 := by
      have h2 := Crv.st_nonneg (c := c) x.1
      have h3 := Crv.st_lt hok (i := x.1) (by omega)
      exact ⟨h2, by omega⟩
    have FT := fun W => foot_any (c.X x.1) (c.Y x.1) (c.wx x.1) (c.wy x.1) (c.len x.1) (c.st x.1) p q W (hok x.1 (by omega)).1 (hok x.1 (by omega)).2 hp1 hq1 (Crv.okd_wx hok hi) (Crv.okd_wy hok hi)
    have DT := fun W => distance_any (c.X x.1) (c.Y x.1) (c.wx x.1) (c.wy x.1) (c.len x.1) (c.st x.1) p q W (hok x.1 (by omega)).1 (hok x.1 (by omega)).2 hp1 hq1 (Crv.okd_wx hok hi) (Crv.okd_wy hok hi)
    have hnb : nearB c p q r x.1 = (decide (-r * c.len x.1 ≤ footI c p q x.1) && decide (footI c p q x.1 ≤ (c.len x.1 + r) * c.len x.1) && decide (distI c p q x.1 ≤ r * c.len x.1)) := rfl
    have hof : offI c p q x.1 = c.st x.1 + min (max (footI c p q x.1 / c.len x.1) 0) (c.len x.1) := rfl
    have FL := fun W => floor_any (footI c p q x.1) (c.len x.1) W (by omega) (by omega) (by omega) (by omega)
    have hsn := nearP_snoc c p q r pre x
    have hql := nearP_len c p q r pre
    change ∀ W, Calls Try.prog 72 _ W (fun e w' => e = .returned (.int .i64 (footI c p q x.1)) ∧ Below W.heap.size W w') at FT
    change ∀ W, Calls Try.prog 73 _ W (fun e w' => e = .returned (.int .i64 (distI c p q x.1)) ∧ Below W.heap.size W w') at DT
    rw [hnb, hof] at hsn
    clear hnb hof
    generalize nearP c p q r pre = L at *
    generalize footI c p q x.1 = F at *
    generalize distI c p q x.1 = D at *
    generalize c.len x.1 = ln at *
    generalize c.st x.1 = st at *
    have m5 : 0 ≤ r * ln := Int.mul_nonneg hr0 (by omega)
    have m6 : r * ln ≤ 16777216 * 1048576 := Int.mul_le_mul hr1 l2' (by omega) (by omega)
    have m1 : -r * ln = -(r * ln) := Int.neg_mul _ _
    have m7 : ln * ln ≤ 1048576 * 1048576 := Int.mul_le_mul l2' l2' (by omega) (by omega)
    have m8 : 0 ≤ ln * ln := Int.mul_nonneg (by omega) (by omega)
    have m3 : (ln + r) * ln = ln * ln + r * ln := Int.add_mul _ _ _
    have m2 : -17592186044416 ≤ -r * ln ∧ -r * ln ≤ 0 := by omega
    have m4 : 0 ≤ (ln + r) * ln ∧ (ln + r) * ln ≤ 18691697672192 := by omega
    obtain ⟨m21, m22⟩ := m2
    obtain ⟨m41, m42⟩ := m4
    have HF := Lib.hid FT
    have HD := Lib.hid DT
    have HFL := Lib.hid FL
    have HSN := Lib.hid hsn
    clear FT DT FL hsn m1 m3 m7 m8 hg hok hp hn hn' hp1 hq1 hv hp0 sP sB hown hi e1 e2
    have hlb : Bb + 2 ≤ W.heap.size := by obtain ⟨_, hr'⟩ := hr; have := (Array.getElem?_eq_some_iff.1 hr').1; omega
    have hW43 := Lib.hid (BoxAt.below d43 (hB3.mono (by omega)) (by omega))
    have hW2 := Lib.hid (BoxAt.below d2 (hB3.mono (by omega)) (by omega))
    have k43a : W.cell? ⟨w.heap.size + 1, 0, none⟩ = some (.int .i64 p) := hW43.out.cell 0
    have k43b : W.cell? ⟨w.heap.size + 1, 1, none⟩ = some (.int .i64 q) := hW43.out.cell 1
    have k0 : W.cell? ⟨Bx, 0, none⟩ = some (.int .i64 (c.X x.1)) := hbx.cell 0
    have k1 : W.cell? ⟨Bx, 1, none⟩ = some (.int .i64 (c.Y x.1)) := hbx.cell 1
    have k2 : W.cell? ⟨Bx, 2, none⟩ = some (.int .i64 (c.wx x.1)) := hbx.cell 2
    have k3 : W.cell? ⟨Bx, 3, none⟩ = some (.int .i64 (c.wy x.1)) := hbx.cell 3
    have k4 : W.cell? ⟨Bx, 4, none⟩ = some (.int .i64 ln) := hbx.cell 4
    have k5 : W.cell? ⟨Bx, 5, none⟩ = some (.int .i64 st) := hbx.cell 5
    have hlx := hbx.lt
    by_cases h1 : -r * ln ≤ F
    · by_cases h2 : F ≤ (ln + r) * ln
      · by_cases h3 : D ≤ r * ln
        · have hrow := Lib.hid (show nearP c p q r (pre ++ [x]) = L ++ [st + min (max (F / ln) 0) ln] from by rw [HSN.out]; simp [h1, h2, h3])
          gi_wp2_with ((try refine ⟨trivial, fun _ => by omega, ?_⟩); gi_at_call 72; refine (CallsIn.inRound l (callsIn_wide.2 (HF.out _))).mono ?_; rintro e w4 ⟨rfl, hb4⟩; have hbx4 := box_step hbx hb4; have h434 := box_step hW43.out hb4; have h24 := box_step hW2.out hb4; have hS4 := box_step hS hb4; have q4 : w4.cell? ⟨Bx, 4, none⟩ = some (.int .i64 ln) := hbx4.cell 4; have q2 : w4.cell? ⟨w.heap.size + 1 + 1, 0, none⟩ = some (.int .i64 r) := h24.cell 0)
          have z0 : w4.cell? ⟨Bx, 0, none⟩ = some (.int .i64 (c.X x.1)) := hbx4.cell 0
          have z1 : w4.cell? ⟨Bx, 1, none⟩ = some (.int .i64 (c.Y x.1)) := hbx4.cell 1
          have z2 : w4.cell? ⟨Bx, 2, none⟩ = some (.int .i64 (c.wx x.1)) := hbx4.cell 2
          have z3 : w4.cell? ⟨Bx, 3, none⟩ = some (.int .i64 (c.wy x.1)) := hbx4.cell 3
          have z5 : w4.cell? ⟨Bx, 5, none⟩ = some (.int .i64 st) := hbx4.cell 5
          have z6 : w4.cell? ⟨w.heap.size + 1, 0, none⟩ = some (.int .i64 p) := h434.cell 0
          have z7 : w4.cell? ⟨w.heap.size + 1, 1, none⟩ = some (.int .i64 q) := h434.cell 1
          have hw1 : IntKind.i64.wrap (r * ln) = r * ln := IntWalk.i64_in _ (by omega)
          have y1 := hbx4.lt
          have y2 := h434.lt
          have y3 := h24.lt
          refine round_held (S := (fun w' => w'.cell? ⟨Bx, 0, none⟩ = some (.int .i64 (c.X x.1)) ∧ w'.cell? ⟨Bx, 1, none⟩ = some (.int .i64 (c.Y x.1)) ∧ w'.cell? ⟨Bx, 2, none⟩ = some (.int .i64 (c.wx x.1)) ∧ w'.cell? ⟨Bx, 3, none⟩ = some (.int .i64 (c.wy x.1)) ∧ w'.cell? ⟨Bx, 4, none⟩ = some (.int .i64 ln) ∧ w'.cell? ⟨Bx, 5, none⟩ = some (.int .i64 st) ∧ w'.cell? ⟨w.heap.size + 1, 0, none⟩ = some (.int .i64 p) ∧ w'.cell? ⟨w.heap.size + 1, 1, none⟩ = some (.int .i64 q) ∧ w'.cell? ⟨w.heap.size + 1 + 1, 0, none⟩ = some (.int .i64 r))) (by kernel_rfl) (by kernel_rfl) ⟨z0, z1, z2, z3, q4, z5, z6, z7, q2⟩ (fun hHeld => ?_)
          refine wpAnyH_take (i := 0) (oi := { dst := some 54, op := Op.move (Operand.tmp 11), type := 4, pos := "corridor.go:18", after := #[], guard := none }) (v := .bool true) rfl (by kernel_rfl) (by kernel_rfl) (by kernel_rfl) (fun _ _ _ h => h) (Or.inl ⟨by rfl, (by intro w0 hSw; (try dsimp only at hSw); go_simp)⟩) (by assumption) ?_
          (try simp only [Act.put, List.setIfInBounds_toArray, List.set_cons_zero, List.set_cons_succ])
          refine wpAnyH_take (i := 1) (oi := { dst := some 55, op := Op.move (Operand.tmp 54), type := 4, pos := "corridor.go:18", after := #[{ on := 0, ground := Ground.data }], guard := none }) (v := .bool true) rfl (by kernel_rfl) (by kernel_rfl) (by kernel_rfl) (fun _ _ _ h => h) (Or.inl ⟨by rfl, (by intro w0 hSw; (try dsimp only at hSw); go_simp)⟩) (by assumption) ?_
          (try simp only [Act.put, List.setIfInBounds_toArray, List.set_cons_zero, List.set_cons_succ])
          refine wpAnyH_take (i := 2) (oi := { dst := some 56, op := Op.load 81 (Operand.tmp 9), type := 81, pos := "corridor.go:18", after := #[{ on := 1, ground := Ground.guard }], guard := some (1, true) }) (v := .agg #[.int .i64 (c.X x.1), .int .i64 (c.Y x.1), .int .i64 (c.wx x.1), .int .i64 (c.wy x.1), .int .i64 ln, .int .i64 st]) rfl (by kernel_rfl) (by kernel_rfl) (by kernel_rfl) (fun _ _ _ h => h) (Or.inl ⟨by rfl, (by intro w0 hSw; (try dsimp only at hSw); go_simp)⟩) (by assumption) ?_
          (try simp only [Act.put, List.setIfInBounds_toArray, List.set_cons_zero, List.set_cons_succ])
          refine wpAnyH_take (i := 3) (oi := { dst := some 57, op := Op.load 43 (Operand.tmp 4), type := 43, pos := "corridor.go:18", after := #[{ on := 1, ground := Ground.guard }], guard := some (1, true) }) (v := .agg #[.int .i64 p, .int .i64 q]) rfl (by kernel_rfl) (by kernel_rfl) (by kernel_rfl) (fun _ _ _ h => h) (Or.inl ⟨by rfl, (by intro w0 hSw; (try dsimp only at hSw); go_simp)⟩) (by assumption) ?_
          (try simp only [Act.put, List.setIfInBounds_toArray, List.set_cons_zero, List.set_cons_succ])
          refine wpAnyH_take (i := 5) (oi := { dst := some 59, op := Op.load 2 (Operand.tmp 5), type := 2, pos := "corridor.go:18", after := #[{ on := 1, ground := Ground.guard }], guard := some (1, true) }) (v := .int .i64 r) rfl (by kernel_rfl) (by kernel_rfl) (by kernel_rfl) (fun _ _ _ h => h) (Or.inl ⟨by rfl, (by intro w0 hSw; (try dsimp only at hSw); go_simp)⟩) (by assumption) ?_
          (try simp only [Act.put, List.setIfInBounds_toArray, List.set_cons_zero, List.set_cons_succ])
          refine wpAnyH_take (i := 6) (oi := { dst := some 60, op := Op.fieldAddr 81 (Operand.tmp 9) 2, type := 0, pos := "corridor.go:18", after := #[{ on := 1, ground := Ground.guard }], guard := some (1, true) }) (v := .pointer (some ⟨Bx, 4, none⟩)) rfl (by kernel_rfl) (by kernel_rfl) (by kernel_rfl) (fun _ _ _ h => h) (Or.inl ⟨by rfl, (by intro w0 hSw; (try dsimp only at hSw); go_simp)⟩) (by assumption) ?_
          (try simp only [Act.put, List.setIfInBounds_toArray, List.set_cons_zero, List.set_cons_succ])
          refine wpAnyH_take (i := 7) (oi := { dst := some 61, op := Op.load 2 (Operand.tmp 60), type := 2, pos := "corridor.go:18", after := #[{ on := 6, ground := Ground.data }, { on := 1, ground := Ground.guard }], guard := some (1, true) }) (v := .int .i64 ln) rfl (by kernel_rfl) (by kernel_rfl) (by kernel_rfl) (fun _ _ _ h => h) (Or.inl ⟨by rfl, (by intro w0 hSw; (try dsimp only at hSw); go_simp)⟩) (by assumption) ?_
          (try simp only [Act.put, List.setIfInBounds_toArray, List.set_cons_zero, List.set_cons_succ])
          refine wpAnyH_take (i := 8) (oi := { dst := some 62, op := Op.binOp BinOp.mul 2 (Operand.tmp 59) (Operand.tmp 61) 2, type := 2, pos := "corridor.go:18", after := #[{ on := 5, ground := Ground.data }, { on := 7, ground := Ground.data }, { on := 1, ground := Ground.guard }], guard := some (1, true) }) (v := .int .i64 (r * ln)) rfl (by kernel_rfl) (by kernel_rfl) (by kernel_rfl) (fun _ _ _ h => h) (Or.inl ⟨by rfl, (by intro w0 hSw; (try dsimp only at hSw); go_simp)⟩) (by assumption) ?_
          (try simp only [Act.put, List.setIfInBounds_toArray, List.set_cons_zero, List.set_cons_succ])
          refine wpAnyH_ready (rs := [4]) (by kernel_rfl) (by simp) ?_
          refine AllReadyH.cons (o := { dst := some 58, op := Op.call { callee := Callee.value (Operand.func 73), args := #[Operand.tmp 56, Operand.tmp 57], argTypes := #[81, 43] }, type := 2, pos := "corridor.go:18", after := #[{ on := 2, ground := Ground.data }, { on := 3, ground := Ground.data }, { on := 1, ground := Ground.chain }, { on := 1, ground := Ground.guard }], guard := some (1, true) }) rfl (fun K hK => ?_) AllReadyH.nil
          go_simp
          (go_at_call 73; (with_reducible refine (HD.out _).mono ?_); rintro e w5 ⟨rfl, hb5⟩; have hB5 : Below w4.heap.size w4 w5 := below_step ((Below.refl _ w4).drew) hb5)
          refine hK.out _ _ (by refine ⟨?_, ?_, ?_, ?_, ?_, ?_, ?_, ?_, ?_⟩ <;> exact (Below.cell hB5 (by assumption)).trans (by assumption)) (fun hHeld => ?_)
          clear hK K
          (try simp only [Act.put, List.setIfInBounds_toArray, List.set_cons_zero, List.set_cons_succ])
          refine wpAnyH_take (i := 9) (oi := { dst := some 63, op := Op.binOp BinOp.leq 2 (Operand.tmp 58) (Operand.tmp 62) 2, type := 4, pos := "corridor.go:18", after := #[{ on := 4, ground := Ground.data }, { on := 8, ground := Ground.data }, { on := 1, ground := Ground.guard }], guard := some (1, true) }) (v := .bool true) rfl (by kernel_rfl) (by kernel_rfl) (by kernel_rfl) (fun _ _ _ h => h) (Or.inl ⟨by rfl, (by intro w0 hSw; (try dsimp only at hSw); go_simp)⟩) (by assumption) ?_
          (try simp only [Act.put, List.setIfInBounds_toArray, List.set_cons_zero, List.set_cons_succ])
          refine wpAnyH_take (i := 10) (oi := { dst := some 64, op := Op.pick (Operand.tmp 55) (Operand.tmp 63) (Operand.const (Value.bool false)), type := 4, pos := "corridor.go:18", after := #[{ on := 1, ground := Ground.data }, { on := 9, ground := Ground.data }], guard := none }) (v := .bool true) rfl (by kernel_rfl) (by kernel_rfl) (by kernel_rfl) (fun _ _ _ h => h) (Or.inl ⟨by rfl, (by intro w0 hSw; (try dsimp only at hSw); go_simp)⟩) (by assumption) ?_
          (try simp only [Act.put, List.setIfInBounds_toArray, List.set_cons_zero, List.set_cons_succ])
          refine wpAnyH_done (by kernel_rfl) ?_ _
          refine OnlyK.normal ?_
          have hbW := Lib.hid (below_step hb4 hB5)
          have hS5 := Lib.hid ((BoxAt.below hS hbW.out hS.lt))
          have hbx5 := Lib.hid ((BoxAt.below hbx hbW.out hbx.lt))
          have HO5 := Lib.hid ((HO.out.kept (grown_of_below hbW.out.drew) (Classical.em _)))
          have y40 : w5.cell? ⟨Bx, 4, none⟩ = some (.int .i64 ln) := hbx5.out.cell 4
          have y50 : w5.cell? ⟨Bx, 5, none⟩ = some (.int .i64 st) := hbx5.out.cell 5
          have yv0 : w5.cell? ⟨Bb, 0, none⟩ = some v := hS5.out.cell 0
          have ya := hbx5.out.lt
          have yb := hS5.out.lt
          have hW5 : Bb + 2 ≤ w5.heap.size := by have := hbW.out.size; omega
          clear hHeld z0 z1 z2 z3 z5 z6 z7 q4 q2 k0 k1 k2 k3 k4 k5 k43a k43b
          obtain ⟨hne9, hne9'⟩ : Bx ≠ Bb ∧ Bb ≠ Bx := by
            have : Bx ≠ Bb := by
              rintro rfl
              have := (show w5.heap[Bx]? = _ from hbx5.out).symm.trans (show w5.heap[Bx]? = _ from hS5.out)
              simp at this
            exact ⟨this, Ne.symm this⟩
          obtain ⟨q0, hq0⟩ : ∃ z, z = F / ln := ⟨_, rfl⟩
          obtain ⟨mx, hmx⟩ : ∃ z, z = max q0 0 := ⟨_, rfl⟩
          obtain ⟨mm, hmm⟩ : ∃ z, z = min mx ln := ⟨_, rfl⟩
          have mb1 : 0 ≤ mm := by omega
          have mb2 : mm ≤ 1048576 := by omega
          have hrow1 := hrow.out
          clear hrow
          rw [← hq0] at HFL hrow1
          rw [← hmx] at hrow1
          rw [← hmm] at hrow1
          have HMX := Lib.hid hmx
          have HMM := Lib.hid hmm
          clear hq0 hmx hmm
          obtain ⟨z, hz⟩ : ∃ z, z = st + mm := ⟨_, rfl⟩
          rw [← hz] at hrow1
          have hrow := Lib.hid hrow1
          clear hrow1
          have hzw : IntKind.i64.wrap (st + mm) = z := by rw [hz]; exact IntWalk.i64_in _ (by omega)
          clear hz
          gi_wp2
          refine round_held (S := (fun w' => w'.cell? ⟨Bx, 4, none⟩ = some (.int .i64 ln) ∧ w'.cell? ⟨Bx, 5, none⟩ = some (.int .i64 st))) (by kernel_rfl) (by kernel_rfl) ⟨y40, y50⟩ (fun hHeld => ?_)
          refine wpAnyH_take (i := 1) (oi := { dst := some 66, op := Op.fieldAddr 81 (Operand.tmp 9) 3, type := 0, pos := "corridor.go:19", after := #[], guard := none }) (v := .pointer (some ⟨Bx, 5, none⟩)) rfl (by kernel_rfl) (by kernel_rfl) (by kernel_rfl) (fun _ _ _ h => h) (Or.inl ⟨by rfl, (by intro w0 hSw; (try dsimp only at hSw); go_simp)⟩) (by assumption) ?_
          (try simp only [Act.put, List.setIfInBounds_toArray, List.set_cons_zero, List.set_cons_succ])
          refine wpAnyH_take (i := 2) (oi := { dst := some 67, op := Op.load 2 (Operand.tmp 66), type := 2, pos := "corridor.go:19", after := #[{ on := 1, ground := Ground.data }], guard := none }) (v := .int .i64 st) rfl (by kernel_rfl) (by kernel_rfl) (by kernel_rfl) (fun _ _ _ h => h) (Or.inl ⟨by rfl, (by intro w0 hSw; (try dsimp only at hSw); go_simp)⟩) (by assumption) ?_
          (try simp only [Act.put, List.setIfInBounds_toArray, List.set_cons_zero, List.set_cons_succ])
          refine wpAnyH_take (i := 3) (oi := { dst := some 68, op := Op.move (Operand.tmp 10), type := 2, pos := "corridor.go:19", after := #[], guard := none }) (v := .int .i64 F) rfl (by kernel_rfl) (by kernel_rfl) (by kernel_rfl) (fun _ _ _ h => h) (Or.inl ⟨by rfl, (by intro w0 hSw; (try dsimp only at hSw); go_simp)⟩) (by assumption) ?_
          (try simp only [Act.put, List.setIfInBounds_toArray, List.set_cons_zero, List.set_cons_succ])
          refine wpAnyH_take (i := 4) (oi := { dst := some 69, op := Op.fieldAddr 81 (Operand.tmp 9) 2, type := 0, pos := "corridor.go:19", after := #[], guard := none }) (v := .pointer (some ⟨Bx, 4, none⟩)) rfl (by kernel_rfl) (by kernel_rfl) (by kernel_rfl) (fun _ _ _ h => h) (Or.inl ⟨by rfl, (by intro w0 hSw; (try dsimp only at hSw); go_simp)⟩) (by assumption) ?_
          (try simp only [Act.put, List.setIfInBounds_toArray, List.set_cons_zero, List.set_cons_succ])
          refine wpAnyH_take (i := 5) (oi := { dst := some 70, op := Op.load 2 (Operand.tmp 69), type := 2, pos := "corridor.go:19", after := #[{ on := 4, ground := Ground.data }], guard := none }) (v := .int .i64 ln) rfl (by kernel_rfl) (by kernel_rfl) (by kernel_rfl) (fun _ _ _ h => h) (Or.inl ⟨by rfl, (by intro w0 hSw; (try dsimp only at hSw); go_simp)⟩) (by assumption) ?_
          (try simp only [Act.put, List.setIfInBounds_toArray, List.set_cons_zero, List.set_cons_succ])
          refine wpAnyH_take (i := 8) (oi := { dst := some 73, op := Op.fieldAddr 81 (Operand.tmp 9) 2, type := 0, pos := "corridor.go:19", after := #[], guard := none }) (v := .pointer (some ⟨Bx, 4, none⟩)) rfl (by kernel_rfl) (by kernel_rfl) (by kernel_rfl) (fun _ _ _ h => h) (Or.inl ⟨by rfl, (by intro w0 hSw; (try dsimp only at hSw); go_simp)⟩) (by assumption) ?_
          (try simp only [Act.put, List.setIfInBounds_toArray, List.set_cons_zero, List.set_cons_succ])
          refine wpAnyH_take (i := 9) (oi := { dst := some 74, op := Op.load 2 (Operand.tmp 73), type := 2, pos := "corridor.go:19", after := #[{ on := 8, ground := Ground.data }], guard := none }) (v := .int .i64 ln) rfl (by kernel_rfl) (by kernel_rfl) (by kernel_rfl) (fun _ _ _ h => h) (Or.inl ⟨by rfl, (by intro w0 hSw; (try dsimp only at hSw); go_simp)⟩) (by assumption) ?_
          (try simp only [Act.put, List.setIfInBounds_toArray, List.set_cons_zero, List.set_cons_succ])
          refine wpAnyH_ready (rs := [0, 6]) (by kernel_rfl) (by simp) ?_
          refine AllReadyH.cons (o := { dst := some 65, op := Op.load 32 (Operand.tmp 7), type := 32, pos := "corridor.go:19", after := #[], guard := none }) rfl (fun K hK => ?_) (AllReadyH.cons (o := { dst := some 71, op := Op.call { callee := Callee.value (Operand.func 74), args := #[Operand.tmp 68, Operand.tmp 70], argTypes := #[2, 2] }, type := 2, pos := "corridor.go:19", after := #[{ on := 3, ground := Ground.data }, { on := 5, ground := Ground.data }], guard := none }) rfl (fun K hK => ?_) AllReadyH.nil)
          · go_simp
            refine hK.out _ _ (by go_keep) (fun hHeld => ?_)
            clear hK K
            (try simp only [Act.put, List.setIfInBounds_toArray, List.set_cons_zero, List.set_cons_succ])
            refine wpAnyH_ready (rs := [6]) (by kernel_rfl) (by simp) ?_
            refine AllReadyH.cons (o := { dst := some 71, op := Op.call { callee := Callee.value (Operand.func 74), args := #[Operand.tmp 68, Operand.tmp 70], argTypes := #[2, 2] }, type := 2, pos := "corridor.go:19", after := #[{ on := 3, ground := Ground.data }, { on := 5, ground := Ground.data }], guard := none }) rfl (fun K hK => ?_) AllReadyH.nil
            go_simp
            (go_at_call 74; (with_reducible refine (HFL.out _).mono ?_); rintro e w6 ⟨rfl, rfl⟩)
            refine hK.out _ _ (by go_keep) (fun hHeld => ?_)
            clear hK K
            (try simp only [Act.put, List.setIfInBounds_toArray, List.set_cons_zero, List.set_cons_succ])
            refine wpAnyH_take (i := 7) (oi := { dst := some 72, op := Op.call { callee := Callee.builtin Builtin.max, args := #[Operand.tmp 71, Operand.const (Value.int IntKind.i64 0)], argTypes := #[2, 2] }, type := 2, pos := "corridor.go:19", after := #[{ on := 6, ground := Ground.data }], guard := none }) (v := .int .i64 mx) rfl (by kernel_rfl) (by kernel_rfl) (by kernel_rfl) (fun _ _ _ h => h) (Or.inl ⟨by rfl, (by intro w0 _; rw [HMX.out]; exact max_run _ _ _ _ _ rfl rfl rfl rfl w0)⟩) (by assumption) ?_
            (try simp only [Act.put, List.setIfInBounds_toArray, List.set_cons_zero, List.set_cons_succ])
            refine wpAnyH_take (i := 10) (oi := { dst := some 75, op := Op.call { callee := Callee.builtin Builtin.min, args := #[Operand.tmp 72, Operand.tmp 74], argTypes := #[2, 2] }, type := 2, pos := "corridor.go:19", after := #[{ on := 7, ground := Ground.data }, { on := 9, ground := Ground.data }], guard := none }) (v := .int .i64 mm) rfl (by kernel_rfl) (by kernel_rfl) (by kernel_rfl) (fun _ _ _ h => h) (Or.inl ⟨by rfl, (by intro w0 _; rw [HMM.out]; exact min_run _ _ _ _ _ rfl rfl rfl rfl w0)⟩) (by assumption) ?_
            (try simp only [Act.put, List.setIfInBounds_toArray, List.set_cons_zero, List.set_cons_succ])
            refine wpAnyH_take (i := 11) (oi := { dst := some 76, op := Op.binOp BinOp.add 2 (Operand.tmp 67) (Operand.tmp 75) 2, type := 2, pos := "corridor.go:19", after := #[{ on := 2, ground := Ground.data }, { on := 10, ground := Ground.data }], guard := none }) (v := .int .i64 z) rfl (by kernel_rfl) (by kernel_rfl) (by kernel_rfl) (fun _ _ _ h => h) (Or.inl ⟨by rfl, (by intro w0 hSw; (try dsimp only at hSw); go_simp)⟩) (by assumption) ?_
            (try simp only [Act.put, List.setIfInBounds_toArray, List.set_cons_zero, List.set_cons_succ])
            refine wpAnyH_ready (rs := [12]) (by kernel_rfl) (by simp) ?_
            refine AllReadyH.cons (o := { dst := some 77, op := Op.buildSlice 32 1 #[(0, Operand.tmp 76)], type := 32, pos := "corridor.go:19", after := #[{ on := 11, ground := Ground.data }], guard := none }) rfl (fun K hK => ?_) AllReadyH.nil
            go_simp
            refine hK.out _ _ (by go_keep) (fun hHeld => ?_)
            clear hK K
            (try simp only [Act.put, List.setIfInBounds_toArray, List.set_cons_zero, List.set_cons_succ])
            refine wpAnyH_ready (rs := [13]) (by kernel_rfl) (by simp) ?_
            refine AllReadyH.cons (o := { dst := some 78, op := Op.call { callee := Callee.builtin Builtin.append, args := #[Operand.tmp 65, Operand.tmp 77], argTypes := #[32, 32] }, type := 32, pos := "corridor.go:19", after := #[{ on := 0, ground := Ground.data }, { on := 12, ground := Ground.data }, { on := 6, ground := Ground.chain }], guard := none }) rfl (fun K hK => ?_) AllReadyH.nil
            refine step_append_lies _ rfl _ _ 32 rfl (Bb + 2) 2 i0_ (.int .i64 0) 1 8 Try.underlying32 hI0.out hZ0.out hZ1.out hZ2.out rfl (by decide) v L.length (L.map (.int .i64)) rfl (HO5.out.alloc _) ⟨w5.heap.size, 0, none⟩ 1 1 [.int .i64 z] rfl rfl (cell_one_new _ _ _) (by simp [Value.oneCell']) (by decide) (by unfold maxLen; omega) (by omega) (by simp; omega) _ rfl ?_
            intro g7 cap7 w7 hown7 hgrow hat hlt7
            have hb7 : Hid (BoxAt w7 Bb 32 #[v]) := ((hS5.out.drew.alloc _).grown hgrow (box_ne_row hS5.out.drew (by decide) HO5.out))
            have hx7 : Hid (BoxAt w7 Bx 81 #[.int .i64 (c.X x.1), .int .i64 (c.Y x.1), .int .i64 (c.wx x.1), .int .i64 (c.wy x.1), .int .i64 ln, .int .i64 st]) := ((hbx5.out.drew.alloc _).grown hgrow (box_ne_row hbx5.out.drew (by decide) HO5.out))
            have c7 : w7.cell? ⟨Bb, 0, none⟩ = some v := BoxAt.cell hb7.out 0
            have f7 : w7.frozen? ⟨Bb, 0, none⟩ = false := BoxAt.frozen hb7.out 0
            have x74 : w7.cell? ⟨Bx, 4, none⟩ = some (.int .i64 ln) := BoxAt.cell hx7.out 4
            have x75 : w7.cell? ⟨Bx, 5, none⟩ = some (.int .i64 st) := BoxAt.cell hx7.out 5
            refine hK.out _ _ ⟨x74, x75⟩ (fun hHeld => ?_)
            clear hK K
            (try simp only [Act.put, List.setIfInBounds_toArray, List.set_cons_zero, List.set_cons_succ])
            refine wpAnyH_ready (rs := [14]) (by kernel_rfl) (by simp) ?_
            refine AllReadyH.cons (o := { dst := none, op := Op.store 32 (Operand.tmp 7) (Operand.tmp 78), type := 0, pos := "corridor.go:19", after := #[{ on := 13, ground := Ground.data }, { on := 13, ground := Ground.chain }, { on := 0, ground := Ground.phase }, { on := 1, ground := Ground.phase }, { on := 2, ground := Ground.phase }, { on := 3, ground := Ground.phase }, { on := 4, ground := Ground.phase }, { on := 5, ground := Ground.phase }, { on := 6, ground := Ground.phase }, { on := 7, ground := Ground.phase }, { on := 8, ground := Ground.phase }, { on := 9, ground := Ground.phase }, { on := 10, ground := Ground.phase }, { on := 11, ground := Ground.phase }, { on := 12, ground := Ground.phase }, { on := 13, ground := Ground.phase }], guard := none }) rfl (fun K hK => ?_) AllReadyH.nil
            go_simp
            refine hK.out _ _ (by go_keep) (fun hHeld => ?_)
            clear hK K
            (try simp only [Act.put, List.setIfInBounds_toArray, List.set_cons_zero, List.set_cons_succ])
            refine wpAnyH_done (by kernel_rfl) ?_ _
            refine OnlyK.normal ?_
            gi_wp2
            have hrc : ∀ j, v.ownBlock = some j → Bb + 2 ≤ j ∧ ∃ cur, (w5.alloc (.cells #[.int .i64 z] 2)).drew.heap[j]? = some (.cells cur 2 (0, 0)) := fun j e => row_cells (HO5.out.alloc _) e
            have hsz9 : Bb ≤ (w5.alloc (.cells #[.int .i64 z] 2)).drew.heap.size := by simp; omega
            exact ⟨(((KeepsOthers.of_grownBy (grown_of_below hbW.out.drew) (fun j o e => by cases e)).trans (KeepsOthers.alloc _ _)).trans ((KeepsOthers.of_grownBy hgrow (fun j o e ho => by obtain ⟨_, cur, hc⟩ := hrc j e; rw [hc] at ho; cases ho; rfl)).trans (KeepsOthers.setCell _ _ _))).from _,
              (((Kp3.of_below hbW.out.drew (by omega)).alloc (by simp; omega) _).grown hsz9 hgrow (fun g e => ⟨by have := (hrc g e).1; omega, (hrc g e).2⟩)).setCell (p := ⟨Bb, 0, none⟩) (Nat.le_refl _) (by show Bb < Bb + 1; omega) _,
              ⟨_, hb7.out.set 0 _, by rw [hrow.out, List.length_append, List.map_append]; exact hown7.kept (grownBy_setCell' _ _ _) (.inr (by have := (row_cells hown7 (j := g7) rfl).1; simp [Value.ownBlock]; omega))⟩,
              (((hB3.trans (hbW.out.drew.mono (by omega))).alloc (by simp; omega) _).grown hgrow hsz9 (fun g e => by have := (hrc g e).1; omega)).setCell (p := ⟨Bb, 0, none⟩) (Nat.le_refl _) _⟩
          · go_simp
            (go_at_call 74; (with_reducible refine (HFL.out _).mono ?_); rintro e w6 ⟨rfl, rfl⟩)
            refine hK.out _ _ (by go_keep) (fun hHeld => ?_)
            clear hK K
            (try simp only [Act.put, List.setIfInBounds_toArray, List.set_cons_zero, List.set_cons_succ])
            refine wpAnyH_take (i := 7) (oi := { dst := some 72, op := Op.call { callee := Callee.builtin Builtin.max, args := #[Operand.tmp 71, Operand.const (Value.int IntKind.i64 0)], argTypes := #[2, 2] }, type := 2, pos := "corridor.go:19", after := #[{ on := 6, ground := Ground.data }], guard := none }) (v := .int .i64 mx) rfl (by kernel_rfl) (by kernel_rfl) (by kernel_rfl) (fun _ _ _ h => h) (Or.inl ⟨by rfl, (by intro w0 _; rw [HMX.out]; exact max_run _ _ _ _ _ rfl rfl rfl rfl w0)⟩) (by assumption) ?_
            (try simp only [Act.put, List.setIfInBounds_toArray, List.set_cons_zero, List.set_cons_succ])
            refine wpAnyH_take (i := 10) (oi := { dst := some 75, op := Op.call { callee := Callee.builtin Builtin.min, args := #[Operand.tmp 72, Operand.tmp 74], argTypes := #[2, 2] }, type := 2, pos := "corridor.go:19", after := #[{ on := 7, ground := Ground.data }, { on := 9, ground := Ground.data }], guard := none }) (v := .int .i64 mm) rfl (by kernel_rfl) (by kernel_rfl) (by kernel_rfl) (fun _ _ _ h => h) (Or.inl ⟨by rfl, (by intro w0 _; rw [HMM.out]; exact min_run _ _ _ _ _ rfl rfl rfl rfl w0)⟩) (by assumption) ?_
            (try simp only [Act.put, List.setIfInBounds_toArray, List.set_cons_zero, List.set_cons_succ])
            refine wpAnyH_take (i := 11) (oi := { dst := some 76, op := Op.binOp BinOp.add 2 (Operand.tmp 67) (Operand.tmp 75) 2, type := 2, pos := "corridor.go:19", after := #[{ on := 2, ground := Ground.data }, { on := 10, ground := Ground.data }], guard := none }) (v := .int .i64 z) rfl (by kernel_rfl) (by kernel_rfl) (by kernel_rfl) (fun _ _ _ h => h) (Or.inl ⟨by rfl, (by intro w0 hSw; (try dsimp only at hSw); go_simp)⟩) (by assumption) ?_
            (try simp only [Act.put, List.setIfInBounds_toArray, List.set_cons_zero, List.set_cons_succ])
            refine wpAnyH_ready (rs := [0, 12]) (by kernel_rfl) (by simp) ?_
            refine AllReadyH.cons (o := { dst := some 65, op := Op.load 32 (Operand.tmp 7), type := 32, pos := "corridor.go:19", after := #[], guard := none }) rfl (fun K hK => ?_) (AllReadyH.cons (o := { dst := some 77, op := Op.buildSlice 32 1 #[(0, Operand.tmp 76)], type := 32, pos := "corridor.go:19", after := #[{ on := 11, ground := Ground.data }], guard := none }) rfl (fun K hK => ?_) AllReadyH.nil)
            · go_simp
              refine hK.out _ _ (by go_keep) (fun hHeld => ?_)
              clear hK K
              (try simp only [Act.put, List.setIfInBounds_toArray, List.set_cons_zero, List.set_cons_succ])
              refine wpAnyH_ready (rs := [12]) (by kernel_rfl) (by simp) ?_
              refine AllReadyH.cons (o := { dst := some 77, op := Op.buildSlice 32 1 #[(0, Operand.tmp 76)], type := 32, pos := "corridor.go:19", after := #[{ on := 11, ground := Ground.data }], guard := none }) rfl (fun K hK => ?_) AllReadyH.nil
              go_simp
              refine hK.out _ _ (by go_keep) (fun hHeld => ?_)
              clear hK K
              (try simp only [Act.put, List.setIfInBounds_toArray, List.set_cons_zero, List.set_cons_succ])
              refine wpAnyH_ready (rs := [13]) (by kernel_rfl) (by simp) ?_
              refine AllReadyH.cons (o := { dst := some 78, op := Op.call { callee := Callee.builtin Builtin.append, args := #[Operand.tmp 65, Operand.tmp 77], argTypes := #[32, 32] }, type := 32, pos := "corridor.go:19", after := #[{ on := 0, ground := Ground.data }, { on := 12, ground := Ground.data }, { on := 6, ground := Ground.chain }], guard := none }) rfl (fun K hK => ?_) AllReadyH.nil
              refine step_append_lies _ rfl _ _ 32 rfl (Bb + 2) 2 i0_ (.int .i64 0) 1 8 Try.underlying32 hI0.out hZ0.out hZ1.out hZ2.out rfl (by decide) v L.length (L.map (.int .i64)) rfl (HO5.out.alloc _) ⟨w5.heap.size, 0, none⟩ 1 1 [.int .i64 z] rfl rfl (cell_one_new _ _ _) (by simp [Value.oneCell']) (by decide) (by unfold maxLen; omega) (by omega) (by simp; omega) _ rfl ?_
              intro g7 cap7 w7 hown7 hgrow hat hlt7
              have hb7 : Hid (BoxAt w7 Bb 32 #[v]) := ((hS5.out.drew.alloc _).grown hgrow (box_ne_row hS5.out.drew (by decide) HO5.out))
              have hx7 : Hid (BoxAt w7 Bx 81 #[.int .i64 (c.X x.1), .int .i64 (c.Y x.1), .int .i64 (c.wx x.1), .int .i64 (c.wy x.1), .int .i64 ln, .int .i64 st]) := ((hbx5.out.drew.alloc _).grown hgrow (box_ne_row hbx5.out.drew (by decide) HO5.out))
              have c7 : w7.cell? ⟨Bb, 0, none⟩ = some v := BoxAt.cell hb7.out 0
              have f7 : w7.frozen? ⟨Bb, 0, none⟩ = false := BoxAt.frozen hb7.out 0
              have x74 : w7.cell? ⟨Bx, 4, none⟩ = some (.int .i64 ln) := BoxAt.cell hx7.out 4
              have x75 : w7.cell? ⟨Bx, 5, none⟩ = some (.int .i64 st) := BoxAt.cell hx7.out 5
              refine hK.out _ _ ⟨x74, x75⟩ (fun hHeld => ?_)
              clear hK K
              (try simp only [Act.put, List.setIfInBounds_toArray, List.set_cons_zero, List.set_cons_succ])
              refine wpAnyH_ready (rs := [14]) (by kernel_rfl) (by simp) ?_
              refine AllReadyH.cons (o := { dst := none, op := Op.store 32 (Operand.tmp 7) (Operand.tmp 78), type := 0, pos := "corridor.go:19", after := #[{ on := 13, ground := Ground.data }, { on := 13, ground := Ground.chain }, { on := 0, ground := Ground.phase }, { on := 1, ground := Ground.phase }, { on := 2, ground := Ground.phase }, { on := 3, ground := Ground.phase }, { on := 4, ground := Ground.phase }, { on := 5, ground := Ground.phase }, { on := 6, ground := Ground.phase }, { on := 7, ground := Ground.phase }, { on := 8, ground := Ground.phase }, { on := 9, ground := Ground.phase }, { on := 10, ground := Ground.phase }, { on := 11, ground := Ground.phase }, { on := 12, ground := Ground.phase }, { on := 13, ground := Ground.phase }], guard := none }) rfl (fun K hK => ?_) AllReadyH.nil
              go_simp
              refine hK.out _ _ (by go_keep) (fun hHeld => ?_)
              clear hK K
              (try simp only [Act.put, List.setIfInBounds_toArray, List.set_cons_zero, List.set_cons_succ])
              refine wpAnyH_done (by kernel_rfl) ?_ _
              refine OnlyK.normal ?_
              gi_wp2
              have hrc : ∀ j, v.ownBlock = some j → Bb + 2 ≤ j ∧ ∃ cur, (w5.alloc (.cells #[.int .i64 z] 2)).drew.heap[j]? = some (.cells cur 2 (0, 0)) := fun j e => row_cells (HO5.out.alloc _) e
              have hsz9 : Bb ≤ (w5.alloc (.cells #[.int .i64 z] 2)).drew.heap.size := by simp; omega
              exact ⟨(((KeepsOthers.of_grownBy (grown_of_below hbW.out.drew) (fun j o e => by cases e)).trans (KeepsOthers.alloc _ _)).trans ((KeepsOthers.of_grownBy hgrow (fun j o e ho => by obtain ⟨_, cur, hc⟩ := hrc j e; rw [hc] at ho; cases ho; rfl)).trans (KeepsOthers.setCell _ _ _))).from _,
                (((Kp3.of_below hbW.out.drew (by omega)).alloc (by simp; omega) _).grown hsz9 hgrow (fun g e => ⟨by have := (hrc g e).1; omega, (hrc g e).2⟩)).setCell (p := ⟨Bb, 0, none⟩) (Nat.le_refl _) (by show Bb < Bb + 1; omega) _,
                ⟨_, hb7.out.set 0 _, by rw [hrow.out, List.length_append, List.map_append]; exact hown7.kept (grownBy_setCell' _ _ _) (.inr (by have := (row_cells hown7 (j := g7) rfl).1; simp [Value.ownBlock]; omega))⟩,
                (((hB3.trans (hbW.out.drew.mono (by omega))).alloc (by simp; omega) _).grown hgrow hsz9 (fun g e => by have := (hrc g e).1; omega)).setCell (p := ⟨Bb, 0, none⟩) (Nat.le_refl _) _⟩
            · go_simp
              refine hK.out _ _ (by go_keep) (fun hHeld => ?_)
              clear hK K
              (try simp only [Act.put, List.setIfInBounds_toArray, List.set_cons_zero, List.set_cons_succ])
              refine wpAnyH_ready (rs := [0]) (by kernel_rfl) (by simp) ?_
              refine AllReadyH.cons (o := { dst := some 65, op := Op.load 32 (Operand.tmp 7), type := 32, pos := "corridor.go:19", after := #[], guard := none }) rfl (fun K hK => ?_) AllReadyH.nil
              go_simp
              refine hK.out _ _ (by go_keep) (fun hHeld => ?_)
              clear hK K
              (try simp only [Act.put, List.setIfInBounds_toArray, List.set_cons_zero, List.set_cons_succ])
              refine wpAnyH_ready (rs := [13]) (by kernel_rfl) (by simp) ?_
              refine AllReadyH.cons (o := { dst := some 78, op := Op.call { callee := Callee.builtin Builtin.append, args := #[Operand.tmp 65, Operand.tmp 77], argTypes := #[32, 32] }, type := 32, pos := "corridor.go:19", after := #[{ on := 0, ground := Ground.data }, { on := 12, ground := Ground.data }, { on := 6, ground := Ground.chain }], guard := none }) rfl (fun K hK => ?_) AllReadyH.nil
              refine step_append_lies _ rfl _ _ 32 rfl (Bb + 2) 2 i0_ (.int .i64 0) 1 8 Try.underlying32 hI0.out hZ0.out hZ1.out hZ2.out rfl (by decide) v L.length (L.map (.int .i64)) rfl (HO5.out.alloc _) ⟨w5.heap.size, 0, none⟩ 1 1 [.int .i64 z] rfl rfl (cell_one_new _ _ _) (by simp [Value.oneCell']) (by decide) (by unfold maxLen; omega) (by omega) (by simp; omega) _ rfl ?_
              intro g7 cap7 w7 hown7 hgrow hat hlt7
              have hb7 : Hid (BoxAt w7 Bb 32 #[v]) := ((hS5.out.drew.alloc _).grown hgrow (box_ne_row hS5.out.drew (by decide) HO5.out))
              have hx7 : Hid (BoxAt w7 Bx 81 #[.int .i64 (c.X x.1), .int .i64 (c.Y x.1), .int .i64 (c.wx x.1), .int .i64 (c.wy x.1), .int .i64 ln, .int .i64 st]) := ((hbx5.out.drew.alloc _).grown hgrow (box_ne_row hbx5.out.drew (by decide) HO5.out))
              have c7 : w7.cell? ⟨Bb, 0, none⟩ = some v := BoxAt.cell hb7.out 0
              have f7 : w7.frozen? ⟨Bb, 0, none⟩ = false := BoxAt.frozen hb7.out 0
              have x74 : w7.cell? ⟨Bx, 4, none⟩ = some (.int .i64 ln) := BoxAt.cell hx7.out 4
              have x75 : w7.cell? ⟨Bx, 5, none⟩ = some (.int .i64 st) := BoxAt.cell hx7.out 5
              refine hK.out _ _ ⟨x74, x75⟩ (fun hHeld => ?_)
              clear hK K
              (try simp only [Act.put, List.setIfInBounds_toArray, List.set_cons_zero, List.set_cons_succ])
              refine wpAnyH_ready (rs := [14]) (by kernel_rfl) (by simp) ?_
              refine AllReadyH.cons (o := { dst := none, op := Op.store 32 (Operand.tmp 7) (Operand.tmp 78), type := 0, pos := "corridor.go:19", after := #[{ on := 13, ground := Ground.data }, { on := 13, ground := Ground.chain }, { on := 0, ground := Ground.phase }, { on := 1, ground := Ground.phase }, { on := 2, ground := Ground.phase }, { on := 3, ground := Ground.phase }, { on := 4, ground := Ground.phase }, { on := 5, ground := Ground.phase }, { on := 6, ground := Ground.phase }, { on := 7, ground := Ground.phase }, { on := 8, ground := Ground.phase }, { on := 9, ground := Ground.phase }, { on := 10, ground := Ground.phase }, { on := 11, ground := Ground.phase }, { on := 12, ground := Ground.phase }, { on := 13, ground := Ground.phase }], guard := none }) rfl (fun K hK => ?_) AllReadyH.nil
              go_simp
              refine hK.out _ _ (by go_keep) (fun hHeld => ?_)
              clear hK K
              (try simp only [Act.put, List.setIfInBounds_toArray, List.set_cons_zero, List.set_cons_succ])
              refine wpAnyH_done (by kernel_rfl) ?_ _
              refine OnlyK.normal ?_
              gi_wp2
              have hrc : ∀ j, v.ownBlock = some j → Bb + 2 ≤ j ∧ ∃ cur, (w5.alloc (.cells #[.int .i64 z] 2)).drew.heap[j]? = some (.cells cur 2 (0, 0)) := fun j e => row_cells (HO5.out.alloc _) e
              have hsz9 : Bb ≤ (w5.alloc (.cells #[.int .i64 z] 2)).drew.heap.size := by simp; omega
              exact ⟨(((KeepsOthers.of_grownBy (grown_of_below hbW.out.drew) (fun j o e => by cases e)).trans (KeepsOthers.alloc _ _)).trans ((KeepsOthers.of_grownBy hgrow (fun j o e ho => by obtain ⟨_, cur, hc⟩ := hrc j e; rw [hc] at ho; cases ho; rfl)).trans (KeepsOthers.setCell _ _ _))).from _,
                (((Kp3.of_below hbW.out.drew (by omega)).alloc (by simp; omega) _).grown hsz9 hgrow (fun g e => ⟨by have := (hrc g e).1; omega, (hrc g e).2⟩)).setCell (p := ⟨Bb, 0, none⟩) (Nat.le_refl _) (by show Bb < Bb + 1; omega) _,
                ⟨_, hb7.out.set 0 _, by rw [hrow.out, List.length_append, List.map_append]; exact hown7.kept (grownBy_setCell' _ _ _) (.inr (by have := (row_cells hown7 (j := g7) rfl).1; simp [Value.ownBlock]; omega))⟩,
                (((hB3.trans (hbW.out.drew.mono (by omega))).alloc (by simp; omega) _).grown hgrow hsz9 (fun g e => by have := (hrc g e).1; omega)).setCell (p := ⟨Bb, 0, none⟩) (Nat.le_refl _) _⟩
        · have hrow := Lib.hid (show nearP c p q r (pre ++ [x]) = L from by rw [HSN.out]; simp [h3])
          gi_wp2_with ((try refine ⟨trivial, fun _ => by omega, ?_⟩); gi_at_call 72; refine (CallsIn.inRound l (callsIn_wide.2 (HF.out _))).mono ?_; rintro e w4 ⟨rfl, hb4⟩; have hbx4 := box_step hbx hb4; have h434 := box_step hW43.out hb4; have h24 := box_step hW2.out hb4; have hS4 := box_step hS hb4; have q4 : w4.cell? ⟨Bx, 4, none⟩ = some (.int .i64 ln) := hbx4.cell 4; have q2 : w4.cell? ⟨w.heap.size + 1 + 1, 0, none⟩ = some (.int .i64 r) := h24.cell 0)
          have z0 : w4.cell? ⟨Bx, 0, none⟩ = some (.int .i64 (c.X x.1)) := hbx4.cell 0
          have z1 : w4.cell? ⟨Bx, 1, none⟩ = some (.int .i64 (c.Y x.1)) := hbx4.cell 1
          have z2 : w4.cell? ⟨Bx, 2, none⟩ = some (.int .i64 (c.wx x.1)) := hbx4.cell 2
          have z3 : w4.cell? ⟨Bx, 3, none⟩ = some (.int .i64 (c.wy x.1)) := hbx4.cell 3
          have z5 : w4.cell? ⟨Bx, 5, none⟩ = some (.int .i64 st) := hbx4.cell 5
          have z6 : w4.cell? ⟨w.heap.size + 1, 0, none⟩ = some (.int .i64 p) := h434.cell 0
          have z7 : w4.cell? ⟨w.heap.size + 1, 1, none⟩ = some (.int .i64 q) := h434.cell 1
          have hw1 : IntKind.i64.wrap (r * ln) = r * ln := IntWalk.i64_in _ (by omega)
          have y1 := hbx4.lt
          have y2 := h434.lt
          have y3 := h24.lt
          refine round_held (S := (fun w' => w'.cell? ⟨Bx, 0, none⟩ = some (.int .i64 (c.X x.1)) ∧ w'.cell? ⟨Bx, 1, none⟩ = some (.int .i64 (c.Y x.1)) ∧ w'.cell? ⟨Bx, 2, none⟩ = some (.int .i64 (c.wx x.1)) ∧ w'.cell? ⟨Bx, 3, none⟩ = some (.int .i64 (c.wy x.1)) ∧ w'.cell? ⟨Bx, 4, none⟩ = some (.int .i64 ln) ∧ w'.cell? ⟨Bx, 5, none⟩ = some (.int .i64 st) ∧ w'.cell? ⟨w.heap.size + 1, 0, none⟩ = some (.int .i64 p) ∧ w'.cell? ⟨w.heap.size + 1, 1, none⟩ = some (.int .i64 q) ∧ w'.cell? ⟨w.heap.size + 1 + 1, 0, none⟩ = some (.int .i64 r))) (by kernel_rfl) (by kernel_rfl) ⟨z0, z1, z2, z3, q4, z5, z6, z7, q2⟩ (fun hHeld => ?_)
          refine wpAnyH_take (i := 0) (oi := { dst := some 54, op := Op.move (Operand.tmp 11), type := 4, pos := "corridor.go:18", after := #[], guard := none }) (v := .bool true) rfl (by kernel_rfl) (by kernel_rfl) (by kernel_rfl) (fun _ _ _ h => h) (Or.inl ⟨by rfl, (by intro w0 hSw; (try dsimp only at hSw); go_simp)⟩) (by assumption) ?_
          (try simp only [Act.put, List.setIfInBounds_toArray, List.set_cons_zero, List.set_cons_succ])
          refine wpAnyH_take (i := 1) (oi := { dst := some 55, op := Op.move (Operand.tmp 54), type := 4, pos := "corridor.go:18", after := #[{ on := 0, ground := Ground.data }], guard := none }) (v := .bool true) rfl (by kernel_rfl) (by kernel_rfl) (by kernel_rfl) (fun _ _ _ h => h) (Or.inl ⟨by rfl, (by intro w0 hSw; (try dsimp only at hSw); go_simp)⟩) (by assumption) ?_
          (try simp only [Act.put, List.setIfInBounds_toArray, List.set_cons_zero, List.set_cons_succ])
          refine wpAnyH_take (i := 2) (oi := { dst := some 56, op := Op.load 81 (Operand.tmp 9), type := 81, pos := "corridor.go:18", after := #[{ on := 1, ground := Ground.guard }], guard := some (1, true) }) (v := .agg #[.int .i64 (c.X x.1), .int .i64 (c.Y x.1), .int .i64 (c.wx x.1), .int .i64 (c.wy x.1), .int .i64 ln, .int .i64 st]) rfl (by kernel_rfl) (by kernel_rfl) (by kernel_rfl) (fun _ _ _ h => h) (Or.inl ⟨by rfl, (by intro w0 hSw; (try dsimp only at hSw); go_simp)⟩) (by assumption) ?_
          (try simp only [Act.put, List.setIfInBounds_toArray, List.set_cons_zero, List.set_cons_succ])
          refine wpAnyH_take (i := 3) (oi := { dst := some 57, op := Op.load 43 (Operand.tmp 4), type := 43, pos := "corridor.go:18", after := #[{ on := 1, ground := Ground.guard }], guard := some (1, true) }) (v := .agg #[.int .i64 p, .int .i64 q]) rfl (by kernel_rfl) (by kernel_rfl) (by kernel_rfl) (fun _ _ _ h => h) (Or.inl ⟨by rfl, (by intro w0 hSw; (try dsimp only at hSw); go_simp)⟩) (by assumption) ?_
          (try simp only [Act.put, List.setIfInBounds_toArray, List.set_cons_zero, List.set_cons_succ])
          refine wpAnyH_take (i := 5) (oi := { dst := some 59, op := Op.load 2 (Operand.tmp 5), type := 2, pos := "corridor.go:18", after := #[{ on := 1, ground := Ground.guard }], guard := some (1, true) }) (v := .int .i64 r) rfl (by kernel_rfl) (by kernel_rfl) (by kernel_rfl) (fun _ _ _ h => h) (Or.inl ⟨by rfl, (by intro w0 hSw; (try dsimp only at hSw); go_simp)⟩) (by assumption) ?_
          (try simp only [Act.put, List.setIfInBounds_toArray, List.set_cons_zero, List.set_cons_succ])
          refine wpAnyH_take (i := 6) (oi := { dst := some 60, op := Op.fieldAddr 81 (Operand.tmp 9) 2, type := 0, pos := "corridor.go:18", after := #[{ on := 1, ground := Ground.guard }], guard := some (1, true) }) (v := .pointer (some ⟨Bx, 4, none⟩)) rfl (by kernel_rfl) (by kernel_rfl) (by kernel_rfl) (fun _ _ _ h => h) (Or.inl ⟨by rfl, (by intro w0 hSw; (try dsimp only at hSw); go_simp)⟩) (by assumption) ?_
          (try simp only [Act.put, List.setIfInBounds_toArray, List.set_cons_zero, List.set_cons_succ])
          refine wpAnyH_take (i := 7) (oi := { dst := some 61, op := Op.load 2 (Operand.tmp 60), type := 2, pos := "corridor.go:18", after := #[{ on := 6, ground := Ground.data }, { on := 1, ground := Ground.guard }], guard := some (1, true) }) (v := .int .i64 ln) rfl (by kernel_rfl) (by kernel_rfl) (by kernel_rfl) (fun _ _ _ h => h) (Or.inl ⟨by rfl, (by intro w0 hSw; (try dsimp only at hSw); go_simp)⟩) (by assumption) ?_
          (try simp only [Act.put, List.setIfInBounds_toArray, List.set_cons_zero, List.set_cons_succ])
          refine wpAnyH_take (i := 8) (oi := { dst := some 62, op := Op.binOp BinOp.mul 2 (Operand.tmp 59) (Operand.tmp 61) 2, type := 2, pos := "corridor.go:18", after := #[{ on := 5, ground := Ground.data }, { on := 7, ground := Ground.data }, { on := 1, ground := Ground.guard }], guard := some (1, true) }) (v := .int .i64 (r * ln)) rfl (by kernel_rfl) (by kernel_rfl) (by kernel_rfl) (fun _ _ _ h => h) (Or.inl ⟨by rfl, (by intro w0 hSw; (try dsimp only at hSw); go_simp)⟩) (by assumption) ?_
          (try simp only [Act.put, List.setIfInBounds_toArray, List.set_cons_zero, List.set_cons_succ])
          refine wpAnyH_ready (rs := [4]) (by kernel_rfl) (by simp) ?_
          refine AllReadyH.cons (o := { dst := some 58, op := Op.call { callee := Callee.value (Operand.func 73), args := #[Operand.tmp 56, Operand.tmp 57], argTypes := #[81, 43] }, type := 2, pos := "corridor.go:18", after := #[{ on := 2, ground := Ground.data }, { on := 3, ground := Ground.data }, { on := 1, ground := Ground.chain }, { on := 1, ground := Ground.guard }], guard := some (1, true) }) rfl (fun K hK => ?_) AllReadyH.nil
          go_simp
          (go_at_call 73; (with_reducible refine (HD.out _).mono ?_); rintro e w5 ⟨rfl, hb5⟩; have hB5 : Below w4.heap.size w4 w5 := below_step ((Below.refl _ w4).drew) hb5)
          refine hK.out _ _ (by refine ⟨?_, ?_, ?_, ?_, ?_, ?_, ?_, ?_, ?_⟩ <;> exact (Below.cell hB5 (by assumption)).trans (by assumption)) (fun hHeld => ?_)
          clear hK K
          (try simp only [Act.put, List.setIfInBounds_toArray, List.set_cons_zero, List.set_cons_succ])
          refine wpAnyH_take (i := 9) (oi := { dst := some 63, op := Op.binOp BinOp.leq 2 (Operand.tmp 58) (Operand.tmp 62) 2, type := 4, pos := "corridor.go:18", after := #[{ on := 4, ground := Ground.data }, { on := 8, ground := Ground.data }, { on := 1, ground := Ground.guard }], guard := some (1, true) }) (v := .bool false) rfl (by kernel_rfl) (by kernel_rfl) (by kernel_rfl) (fun _ _ _ h => h) (Or.inl ⟨by rfl, (by intro w0 hSw; (try dsimp only at hSw); go_simp)⟩) (by assumption) ?_
          (try simp only [Act.put, List.setIfInBounds_toArray, List.set_cons_zero, List.set_cons_succ])
          refine wpAnyH_take (i := 10) (oi := { dst := some 64, op := Op.pick (Operand.tmp 55) (Operand.tmp 63) (Operand.const (Value.bool false)), type := 4, pos := "corridor.go:18", after := #[{ on := 1, ground := Ground.data }, { on := 9, ground := Ground.data }], guard := none }) (v := .bool false) rfl (by kernel_rfl) (by kernel_rfl) (by kernel_rfl) (fun _ _ _ h => h) (Or.inl ⟨by rfl, (by intro w0 hSw; (try dsimp only at hSw); go_simp)⟩) (by assumption) ?_
          (try simp only [Act.put, List.setIfInBounds_toArray, List.set_cons_zero, List.set_cons_succ])
          refine wpAnyH_done (by kernel_rfl) ?_ _
          refine OnlyK.normal ?_
          gi_wp2
          have hbW := Lib.hid (below_step hb4 hB5)
          exact ⟨ko_below hbW.out _, Kp3.of_below hbW.out (by omega), ⟨v, BoxAt.below hS hbW.out hS.lt, by rw [hrow.out]; exact HO.out.kept (grown_of_below hbW.out) (Classical.em _)⟩, hB3.trans (hbW.out.mono (by omega))⟩
      · have hrow := Lib.hid (show nearP c p q r (pre ++ [x]) = L from by rw [HSN.out]; simp [h2])
        gi_wp2_with ((try refine ⟨trivial, fun _ => by omega, ?_⟩); gi_at_call 72; refine (CallsIn.inRound l (callsIn_wide.2 (HF.out _))).mono ?_; rintro e w4 ⟨rfl, hb4⟩; have hbx4 := box_step hbx hb4; have h434 := box_step hW43.out hb4; have h24 := box_step hW2.out hb4; have hS4 := box_step hS hb4; have q4 : w4.cell? ⟨Bx, 4, none⟩ = some (.int .i64 ln) := hbx4.cell 4; have q2 : w4.cell? ⟨w.heap.size + 1 + 1, 0, none⟩ = some (.int .i64 r) := h24.cell 0)
        refine round_held (S := fun _ => True) (by kernel_rfl) (by kernel_rfl) trivial (fun hHeld => ?_)
        refine wpAnyH_take (i := 0) (oi := { dst := some 54, op := Op.move (Operand.tmp 11), type := 4, pos := "corridor.go:18", after := #[], guard := none }) (v := .bool false) rfl (by kernel_rfl) (by kernel_rfl) (by kernel_rfl) (fun _ _ _ h => h) (Or.inl ⟨by rfl, (by intro w0 hSw; (try dsimp only at hSw); go_simp)⟩) (by assumption) ?_
        (try simp only [Act.put, List.setIfInBounds_toArray, List.set_cons_zero, List.set_cons_succ])
        refine wpAnyH_take (i := 1) (oi := { dst := some 55, op := Op.move (Operand.tmp 54), type := 4, pos := "corridor.go:18", after := #[{ on := 0, ground := Ground.data }], guard := none }) (v := .bool false) rfl (by kernel_rfl) (by kernel_rfl) (by kernel_rfl) (fun _ _ _ h => h) (Or.inl ⟨by rfl, (by intro w0 hSw; (try dsimp only at hSw); go_simp)⟩) (by assumption) ?_
        (try simp only [Act.put, List.setIfInBounds_toArray, List.set_cons_zero, List.set_cons_succ])
        refine wpAnyH_take (i := 2) (oi := { dst := some 56, op := Op.load 81 (Operand.tmp 9), type := 81, pos := "corridor.go:18", after := #[{ on := 1, ground := Ground.guard }], guard := some (1, true) }) (v := undef) rfl (by kernel_rfl) (by kernel_rfl) (by kernel_rfl) (fun _ _ _ h => h) (Or.inr ⟨by rfl, rfl⟩) (by assumption) ?_
        (try simp only [Act.put, List.setIfInBounds_toArray, List.set_cons_zero, List.set_cons_succ])
        refine wpAnyH_take (i := 3) (oi := { dst := some 57, op := Op.load 43 (Operand.tmp 4), type := 43, pos := "corridor.go:18", after := #[{ on := 1, ground := Ground.guard }], guard := some (1, true) }) (v := undef) rfl (by kernel_rfl) (by kernel_rfl) (by kernel_rfl) (fun _ _ _ h => h) (Or.inr ⟨by rfl, rfl⟩) (by assumption) ?_
        (try simp only [Act.put, List.setIfInBounds_toArray, List.set_cons_zero, List.set_cons_succ])
        refine wpAnyH_take (i := 4) (oi := { dst := some 58, op := Op.call { callee := Callee.value (Operand.func 73), args := #[Operand.tmp 56, Operand.tmp 57], argTypes := #[81, 43] }, type := 2, pos := "corridor.go:18", after := #[{ on := 2, ground := Ground.data }, { on := 3, ground := Ground.data }, { on := 1, ground := Ground.chain }, { on := 1, ground := Ground.guard }], guard := some (1, true) }) (v := undef) rfl (by kernel_rfl) (by kernel_rfl) (by kernel_rfl) (fun _ _ _ h => h) (Or.inr ⟨by rfl, rfl⟩) (by assumption) ?_
        (try simp only [Act.put, List.setIfInBounds_toArray, List.set_cons_zero, List.set_cons_succ])
        refine wpAnyH_take (i := 5) (oi := { dst := some 59, op := Op.load 2 (Operand.tmp 5), type := 2, pos := "corridor.go:18", after := #[{ on := 1, ground := Ground.guard }], guard := some (1, true) }) (v := undef) rfl (by kernel_rfl) (by kernel_rfl) (by kernel_rfl) (fun _ _ _ h => h) (Or.inr ⟨by rfl, rfl⟩) (by assumption) ?_
        (try simp only [Act.put, List.setIfInBounds_toArray, List.set_cons_zero, List.set_cons_succ])
        refine wpAnyH_take (i := 6) (oi := { dst := some 60, op := Op.fieldAddr 81 (Operand.tmp 9) 2, type := 0, pos := "corridor.go:18", after := #[{ on := 1, ground := Ground.guard }], guard := some (1, true) }) (v := undef) rfl (by kernel_rfl) (by kernel_rfl) (by kernel_rfl) (fun _ _ _ h => h) (Or.inr ⟨by rfl, rfl⟩) (by assumption) ?_
        (try simp only [Act.put, List.setIfInBounds_toArray, List.set_cons_zero, List.set_cons_succ])
        refine wpAnyH_take (i := 7) (oi := { dst := some 61, op := Op.load 2 (Operand.tmp 60), type := 2, pos := "corridor.go:18", after := #[{ on := 6, ground := Ground.data }, { on := 1, ground := Ground.guard }], guard := some (1, true) }) (v := undef) rfl (by kernel_rfl) (by kernel_rfl) (by kernel_rfl) (fun _ _ _ h => h) (Or.inr ⟨by rfl, rfl⟩) (by assumption) ?_
        (try simp only [Act.put, List.setIfInBounds_toArray, List.set_cons_zero, List.set_cons_succ])
        refine wpAnyH_take (i := 8) (oi := { dst := some 62, op := Op.binOp BinOp.mul 2 (Operand.tmp 59) (Operand.tmp 61) 2, type := 2, pos := "corridor.go:18", after := #[{ on := 5, ground := Ground.data }, { on := 7, ground := Ground.data }, { on := 1, ground := Ground.guard }], guard := some (1, true) }) (v := undef) rfl (by kernel_rfl) (by kernel_rfl) (by kernel_rfl) (fun _ _ _ h => h) (Or.inr ⟨by rfl, rfl⟩) (by assumption) ?_
        (try simp only [Act.put, List.setIfInBounds_toArray, List.set_cons_zero, List.set_cons_succ])
        refine wpAnyH_take (i := 9) (oi := { dst := some 63, op := Op.binOp BinOp.leq 2 (Operand.tmp 58) (Operand.tmp 62) 2, type := 4, pos := "corridor.go:18", after := #[{ on := 4, ground := Ground.data }, { on := 8, ground := Ground.data }, { on := 1, ground := Ground.guard }], guard := some (1, true) }) (v := undef) rfl (by kernel_rfl) (by kernel_rfl) (by kernel_rfl) (fun _ _ _ h => h) (Or.inr ⟨by rfl, rfl⟩) (by assumption) ?_
        (try simp only [Act.put, List.setIfInBounds_toArray, List.set_cons_zero, List.set_cons_succ])
        refine wpAnyH_take (i := 10) (oi := { dst := some 64, op := Op.pick (Operand.tmp 55) (Operand.tmp 63) (Operand.const (Value.bool false)), type := 4, pos := "corridor.go:18", after := #[{ on := 1, ground := Ground.data }, { on := 9, ground := Ground.data }], guard := none }) (v := .bool false) rfl (by kernel_rfl) (by kernel_rfl) (by kernel_rfl) (fun _ _ _ h => h) (Or.inl ⟨by rfl, (by intro w0 hSw; (try dsimp only at hSw); go_simp)⟩) (by assumption) ?_
        (try simp only [Act.put, List.setIfInBounds_toArray, List.set_cons_zero, List.set_cons_succ])
        refine wpAnyH_done (by kernel_rfl) ?_ _
        refine OnlyK.normal ?_
        gi_wp2
        exact ⟨ko_below hb4.drew _, Kp3.of_below hb4.drew (by omega), ⟨v, hS4.drew, by rw [hrow.out]; exact HO.out.kept (grown_of_below hb4.drew) (Classical.em _)⟩, hB3.trans (hb4.drew.mono (by omega))⟩
    · have hrow := Lib.hid (show nearP c p q r (pre ++ [x]) = L from by rw [HSN.out]; simp [h1])
      gi_wp2_with ((try refine ⟨trivial, fun _ => by omega, ?_⟩); gi_at_call 72; refine (CallsIn.inRound l (callsIn_wide.2 (HF.out _))).mono ?_; rintro e w4 ⟨rfl, hb4⟩; have hbx4 := box_step hbx hb4; have h434 := box_step hW43.out hb4; have h24 := box_step hW2.out hb4; have hS4 := box_step hS hb4; have q4 : w4.cell? ⟨Bx, 4, none⟩ = some (.int .i64 ln) := hbx4.cell 4; have q2 : w4.cell? ⟨w.heap.size + 1 + 1, 0, none⟩ = some (.int .i64 r) := h24.cell 0)
      refine round_held (S := fun _ => True) (by kernel_rfl) (by kernel_rfl) trivial (fun hHeld => ?_)
      refine wpAnyH_take (i := 0) (oi := { dst := some 54, op := Op.move (Operand.tmp 11), type := 4, pos := "corridor.go:18", after := #[], guard := none }) (v := .bool false) rfl (by kernel_rfl) (by kernel_rfl) (by kernel_rfl) (fun _ _ _ h => h) (Or.inl ⟨by rfl, (by intro w0 hSw; (try dsimp only at hSw); go_simp)⟩) (by assumption) ?_
      (try simp only [Act.put, List.setIfInBounds_toArray, List.set_cons_zero, List.set_cons_succ])
      refine wpAnyH_take (i := 1) (oi := { dst := some 55, op := Op.move (Operand.tmp 54), type := 4, pos := "corridor.go:18", after := #[{ on := 0, ground := Ground.data }], guard := none }) (v := .bool false) rfl (by kernel_rfl) (by kernel_rfl) (by kernel_rfl) (fun _ _ _ h => h) (Or.inl ⟨by rfl, (by intro w0 hSw; (try dsimp only at hSw); go_simp)⟩) (by assumption) ?_
      (try simp only [Act.put, List.setIfInBounds_toArray, List.set_cons_zero, List.set_cons_succ])
      refine wpAnyH_take (i := 2) (oi := { dst := some 56, op := Op.load 81 (Operand.tmp 9), type := 81, pos := "corridor.go:18", after := #[{ on := 1, ground := Ground.guard }], guard := some (1, true) }) (v := undef) rfl (by kernel_rfl) (by kernel_rfl) (by kernel_rfl) (fun _ _ _ h => h) (Or.inr ⟨by rfl, rfl⟩) (by assumption) ?_
      (try simp only [Act.put, List.setIfInBounds_toArray, List.set_cons_zero, List.set_cons_succ])
      refine wpAnyH_take (i := 3) (oi := { dst := some 57, op := Op.load 43 (Operand.tmp 4), type := 43, pos := "corridor.go:18", after := #[{ on := 1, ground := Ground.guard }], guard := some (1, true) }) (v := undef) rfl (by kernel_rfl) (by kernel_rfl) (by kernel_rfl) (fun _ _ _ h => h) (Or.inr ⟨by rfl, rfl⟩) (by assumption) ?_
      (try simp only [Act.put, List.setIfInBounds_toArray, List.set_cons_zero, List.set_cons_succ])
      refine wpAnyH_take (i := 4) (oi := { dst := some 58, op := Op.call { callee := Callee.value (Operand.func 73), args := #[Operand.tmp 56, Operand.tmp 57], argTypes := #[81, 43] }, type := 2, pos := "corridor.go:18", after := #[{ on := 2, ground := Ground.data }, { on := 3, ground := Ground.data }, { on := 1, ground := Ground.chain }, { on := 1, ground := Ground.guard }], guard := some (1, true) }) (v := undef) rfl (by kernel_rfl) (by kernel_rfl) (by kernel_rfl) (fun _ _ _ h => h) (Or.inr ⟨by rfl, rfl⟩) (by assumption) ?_
      (try simp only [Act.put, List.setIfInBounds_toArray, List.set_cons_zero, List.set_cons_succ])
      refine wpAnyH_take (i := 5) (oi := { dst := some 59, op := Op.load 2 (Operand.tmp 5), type := 2, pos := "corridor.go:18", after := #[{ on := 1, ground := Ground.guard }], guard := some (1, true) }) (v := undef) rfl (by kernel_rfl) (by kernel_rfl) (by kernel_rfl) (fun _ _ _ h => h) (Or.inr ⟨by rfl, rfl⟩) (by assumption) ?_
      (try simp only [Act.put, List.setIfInBounds_toArray, List.set_cons_zero, List.set_cons_succ])
      refine wpAnyH_take (i := 6) (oi := { dst := some 60, op := Op.fieldAddr 81 (Operand.tmp 9) 2, type := 0, pos := "corridor.go:18", after := #[{ on := 1, ground := Ground.guard }], guard := some (1, true) }) (v := undef) rfl (by kernel_rfl) (by kernel_rfl) (by kernel_rfl) (fun _ _ _ h => h) (Or.inr ⟨by rfl, rfl⟩) (by assumption) ?_
      (try simp only [Act.put, List.setIfInBounds_toArray, List.set_cons_zero, List.set_cons_succ])
      refine wpAnyH_take (i := 7) (oi := { dst := some 61, op := Op.load 2 (Operand.tmp 60), type := 2, pos := "corridor.go:18", after := #[{ on := 6, ground := Ground.data }, { on := 1, ground := Ground.guard }], guard := some (1, true) }) (v := undef) rfl (by kernel_rfl) (by kernel_rfl) (by kernel_rfl) (fun _ _ _ h => h) (Or.inr ⟨by rfl, rfl⟩) (by assumption) ?_
      (try simp only [Act.put, List.setIfInBounds_toArray, List.set_cons_zero, List.set_cons_succ])
      refine wpAnyH_take (i := 8) (oi := { dst := some 62, op := Op.binOp BinOp.mul 2 (Operand.tmp 59) (Operand.tmp 61) 2, type := 2, pos := "corridor.go:18", after := #[{ on := 5, ground := Ground.data }, { on := 7, ground := Ground.data }, { on := 1, ground := Ground.guard }], guard := some (1, true) }) (v := undef) rfl (by kernel_rfl) (by kernel_rfl) (by kernel_rfl) (fun _ _ _ h => h) (Or.inr ⟨by rfl, rfl⟩) (by assumption) ?_
      (try simp only [Act.put, List.setIfInBounds_toArray, List.set_cons_zero, List.set_cons_succ])
      refine wpAnyH_take (i := 9) (oi := { dst := some 63, op := Op.binOp BinOp.leq 2 (Operand.tmp 58) (Operand.tmp 62) 2, type := 4, pos := "corridor.go:18", after := #[{ on := 4, ground := Ground.data }, { on := 8, ground := Ground.data }, { on := 1, ground := Ground.guard }], guard := some (1, true) }) (v := undef) rfl (by kernel_rfl) (by kernel_rfl) (by kernel_rfl) (fun _ _ _ h => h) (Or.inr ⟨by rfl, rfl⟩) (by assumption) ?_
      (try simp only [Act.put, List.setIfInBounds_toArray, List.set_cons_zero, List.set_cons_succ])
      refine wpAnyH_take (i := 10) (oi := { dst := some 64, op := Op.pick (Operand.tmp 55) (Operand.tmp 63) (Operand.const (Value.bool false)), type := 4, pos := "corridor.go:18", after := #[{ on := 1, ground := Ground.data }, { on := 9, ground := Ground.data }], guard := none }) (v := .bool false) rfl (by kernel_rfl) (by kernel_rfl) (by kernel_rfl) (fun _ _ _ h => h) (Or.inl ⟨by rfl, (by intro w0 hSw; (try dsimp only at hSw); go_simp)⟩) (by assumption) ?_
      (try simp only [Act.put, List.setIfInBounds_toArray, List.set_cons_zero, List.set_cons_succ])
      refine wpAnyH_done (by kernel_rfl) ?_ _
      refine OnlyK.normal ?_
      gi_wp2
      exact ⟨ko_below hb4.drew _, Kp3.of_below hb4.drew (by omega), ⟨v, hS4.drew, by rw [hrow.out]; exact HO.out.kept (grown_of_below hb4.drew) (Classical.em _)⟩, hB3.trans (hb4.drew.mono (by omega))⟩
  case done =>
    rintro D ys W hD rfl ⟨⟨v, hS, hown⟩, hB3⟩ hK
    rw [nearP_all] at hown
    have s0 : W.cell? ⟨Bb, 0, none⟩ = some v := hS.cell 0
    have hBB : Below w.heap.size w W := hB.trans (hB3.mono (by have := hB.size; omega))
    rcases Nat.eq_zero_or_pos (nearL c p q r (c.n - 1)).length with h0 | h0
    · rw [h0] at hown
      obtain ⟨A, cap', rfl⟩ : ∃ A cap', v = .slice A 0 cap' := by
        rcases hown.2 with ⟨rfl, _⟩ | ⟨g, cap', cur, rfl, _⟩
        · exact ⟨_, _, rfl⟩
        · exact ⟨_, _, rfl⟩
      gi_wp2
      refine ⟨by simp, .inl ⟨_, _, rfl, run_takeDeferred hK, ?_⟩⟩
      refine ⟨_, results_tmp rfl _ _ _, A, cap', by rw [h0]; rfl, fun h => absurd h (by omega), after_loop hBB (by have := hB.size; omega) hK⟩
    · obtain ⟨g, cap', rfl, hg1, hg2⟩ := hown.form h0
      have hI := Lib.hid (ints_list hown)
      have hne : g ≠ D := by
        rintro rfl
        obtain ⟨_, cur, hc⟩ := row_cells hown rfl
        rw [hc] at hK; cases hK
      clear hown
      gi_wp2
      refine ⟨by simp, .inl ⟨_, _, rfl, run_takeDeferred hK, ?_⟩⟩
      refine ⟨_, results_tmp rfl _ _ _, some ⟨g, 0, none⟩, cap', rfl, fun _ => ⟨g, rfl, ?_⟩, after_loop hBB (by have := hB.size; omega) hK⟩
      exact fun i hi => (World.cell?_of_block (World.putObj_heap_other hne)).trans (hI.out i hi)
  case stop =>
    rintro D cd pre W _ _ h _
    exact h.elim

/-- **Near, for a valid curve, spot and reach.** -/
theorem near_good (b off cap : Nat) (c : Crv) (hg : Good c) (p q r : Int) (hp1 : okc p) (hq1 : okc q) (hr0 : 0 ≤ r) (hr1 : r ≤ 16777216) (w : World) (hp : Pts w b off c.n c.X c.Y) :
    Calls Try.prog 33 #[cv b off c.n cap, sp p q, .int .i64 r] w (NearPost (nearL c p q r (c.n - 1)) w) :=
  callsIn_wide.1 (near_in 3 (Nat.le_refl _) b off cap c hg p q r hp1 hq1 hr0 hr1 w hp (hp.lt (by have := hg.lo; omega)))
end Go.Proofs.Ytglkpabcflecmaa
