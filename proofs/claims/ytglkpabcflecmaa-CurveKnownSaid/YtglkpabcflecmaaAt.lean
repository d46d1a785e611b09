/- 'pieceAt', 'Piece', 'At'. -/
import Derived.Test.YtglkpabcflecmaaLen
namespace Go.Proofs.Ytglkpabcflecmaa
open Go.RowKit Go.Shelf
attribute [local go_sem] Oper.semAt_some

theorem BoxAt.ne_of {w : World} {g g' : Nat} {t t' : TypeId} {cs cs' : Array Value} (h : BoxAt w g t cs) (h' : BoxAt w g' t' cs') (hne : t ≠ t') : g ≠ g' := by
  rintro rfl
  have e := (show w.heap[g]? = _ from h).symm.trans h'
  simp at e
  exact hne e.2

abbrev set6 (W : World) (g : Nat) (a0 a1 a2 a3 a4 a5 : Value) : World := (((((W.setCell ⟨g, 0, none⟩ a0).setCell ⟨g, 1, none⟩ a1).setCell ⟨g, 2, none⟩ a2).setCell ⟨g, 3, none⟩ a3).setCell ⟨g, 4, none⟩ a4).setCell ⟨g, 5, none⟩ a5
theorem keeps6 (W : World) (g : Nat) (a0 a1 a2 a3 a4 a5 : Value) : KeepsOthers W (set6 W g a0 a1 a2 a3 a4 a5) :=
  (((((KeepsOthers.setCell _ _ _).trans (KeepsOthers.setCell _ _ _)).trans (KeepsOthers.setCell _ _ _)).trans (KeepsOthers.setCell _ _ _)).trans (KeepsOthers.setCell _ _ _)).trans (KeepsOthers.setCell _ _ _)
theorem set6' {W : World} {g : Nat} {t : TypeId} {z0 z1 z2 z3 z4 z5 : Value} (h : BoxAt W g t #[z0, z1, z2, z3, z4, z5]) (a0 a1 a2 a3 a4 a5 : Value) : BoxAt (set6 W g a0 a1 a2 a3 a4 a5) g t #[a0, a1, a2, a3, a4, a5] :=
  (((((h.set 0 a0).set 1 a1).set 2 a2).set 3 a3).set 4 a4).set 5 a5
theorem other6 {W : World} {g g' : Nat} {t : TypeId} {cs : Array Value} (h : BoxAt W g t cs) (hne : g ≠ g') (a0 a1 a2 a3 a4 a5 : Value) : BoxAt (set6 W g' a0 a1 a2 a3 a4 a5) g t cs :=
  (((((h.other hne 0 a0).other hne 1 a1).other hne 2 a2).other hne 3 a3).other hne 4 a4).other hne 5 a5
theorem below6 {B : Nat} {A W : World} (h : Below B A W) {g : Nat} (hg : B ≤ g) (a0 a1 a2 a3 a4 a5 : Value) : Below B A (set6 W g a0 a1 a2 a3 a4 a5) :=
  (((((h.setCell (p := ⟨g, 0, none⟩) hg a0).setCell (p := ⟨g, 1, none⟩) hg a1).setCell (p := ⟨g, 2, none⟩) hg a2).setCell (p := ⟨g, 3, none⟩) hg a3).setCell (p := ⟨g, 4, none⟩) hg a4).setCell (p := ⟨g, 5, none⟩) hg a5
theorem Kp2.set6 {n₀ D : Nat} {A W : World} (h : Kp2 n₀ D A W) {g : Nat} (hg : n₀ ≤ g) (hD : g < D) (a0 a1 a2 a3 a4 a5 : Value) : Kp2 n₀ D A (set6 W g a0 a1 a2 a3 a4 a5) :=
  (((((h.setCell (p := ⟨g, 0, none⟩) hg hD a0).setCell (p := ⟨g, 1, none⟩) hg hD a1).setCell (p := ⟨g, 2, none⟩) hg hD a2).setCell (p := ⟨g, 3, none⟩) hg hD a3).setCell (p := ⟨g, 4, none⟩) hg hD a4).setCell (p := ⟨g, 5, none⟩) hg hD a5
theorem Kp2.drew {n₀ D : Nat} {A W : World} (h : Kp2 n₀ D A W) : Kp2 n₀ D A W.drew := ⟨h.below.drew, h.cells⟩
theorem BoxAt.drew {w : World} {g : Nat} {t : TypeId} {cs : Array Value} (h : BoxAt w g t cs) : BoxAt w.drew g t cs := h
theorem snoc_ge {c : Crv} {s : Int} {N : Nat} {pre : List (Ix N)} {x : Ix N} (h : ∀ y ∈ pre, 0 < y.1 → c.st y.1 ≤ s) (hx : 0 < x.1 → c.st x.1 ≤ s) : ∀ y ∈ pre ++ [x], 0 < y.1 → c.st y.1 ≤ s := by
  intro y hy
  rcases List.mem_append.1 hy with h1 | h1
  · exact h y h1
  · simp at h1; subst h1; exact hx
theorem Crv.st_mono {c : Crv} {i j : Nat} (h : i ≤ j) : c.st i ≤ c.st j := by
  induction j with
  | zero => obtain rfl : i = 0 := by omega
            exact Int.le_refl _
  | succ j ih =>
    rcases Nat.lt_or_ge i (j + 1) with h' | h'
    · have := ih (by omega)
      have := Crv.len_nonneg (c := c) j
      show c.st i ≤ c.st j + c.len j
      omega
    · obtain rfl : i = j + 1 := by omega
      exact Int.le_refl _

/-- The offset s lies in the piece j. -/
structure InPiece (c : Crv) (s : Int) (j : Nat) : Prop where
  lt : j < c.n - 1
  ge : 0 < j → c.st j ≤ s
  up : j + 1 < c.n - 1 → s < c.st (j + 1)

theorem InPiece.uniq {c : Crv} {s : Int} {i j : Nat} (h : InPiece c s i) (h' : InPiece c s j) : i = j := by
  have one : ∀ i j, InPiece c s i → InPiece c s j → ¬ i < j := fun i j h h' hlt => by
    have h1 := h.up (by have := h'.lt; omega)
    have h2 := h'.ge (by omega)
    have h3 := Crv.st_mono (c := c) (show i + 1 ≤ j by omega)
    omega
  have := one i j h h'
  have := one j i h' h
  omega

def lastN {N : Nat} (pre : List (Ix N)) : Int := (pre.getLast?).elim 0 (fun x => (x.1 : Int))
abbrev pca (c : Crv) (i : Nat) : Array Value := #[.int .i64 (c.X i), .int .i64 (c.Y i), .int .i64 (c.wx i), .int .i64 (c.wy i), .int .i64 (c.len i), .int .i64 (c.st i)]
abbrev zero6 : Array Value := #[.int .i64 0, .int .i64 0, .int .i64 0, .int .i64 0, .int .i64 0, .int .i64 0]
def lastP (c : Crv) {N : Nat} (pre : List (Ix N)) : Array Value := (pre.getLast?).elim zero6 (fun x => pca c x.1)
theorem lastN_snoc {N : Nat} (pre : List (Ix N)) (x : Ix N) : lastN (pre ++ [x]) = (x.1 : Int) := by simp [lastN]
theorem lastP_six (c : Crv) {N : Nat} (pre : List (Ix N)) : ∃ z0 z1 z2 z3 z4 z5 : Int, lastP c pre = #[.int .i64 z0, .int .i64 z1, .int .i64 z2, .int .i64 z3, .int .i64 z4, .int .i64 z5] := by
  unfold lastP
  cases pre.getLast? with
  | none => exact ⟨_, _, _, _, _, _, rfl⟩
  | some x => exact ⟨_, _, _, _, _, _, rfl⟩
theorem lastP_snoc (c : Crv) {N : Nat} (pre : List (Ix N)) (x : Ix N) : lastP c (pre ++ [x]) = pca c x.1 := by simp [lastP]

set_option maxRecDepth 100000 in
set_option maxHeartbeats 4000000 in
theorem pieceAt_in (m : Nat) (hm : 3 ≤ m) (b off cap : Nat) (c : Crv) (hg : Good c) (s : Int) (j : Nat) (hj : InPiece c s j) (w : World) (hp : Pts w b off c.n c.X c.Y) (hb : b < w.heap.size) :
    CallsIn Fence.wide m Try.prog 68 #[cv b off c.n cap, .int .i64 s] w fun e w' => e = .returned (.tuple #[.int .i64 (j : Int), .agg (pca c j)]) ∧ Below w.heap.size w w' := by
  obtain ⟨hn, hn', hok, _⟩ := id hg
  refine callsIn_of_wp_marks Try.func68 rfl trivial ?_ rfl
  simp only [Try.ntmps68, List.size_toArray, List.length_cons, List.length_nil, Nat.reduceAdd, Nat.reduceSub, Array.replicate_succ, Array.replicate_zero, List.push_toArray, List.append_toArray, List.nil_append, List.cons_append]
  gi_wp2_with (first
    | (refine ⟨trivial, fun _ => by omega, ?_⟩; gi_at_call 60; refine (callsIn_wide.2 (pieces_any b off c.n cap _)).mono ?_; rintro e w2 ⟨rfl, rfl⟩))
  obtain ⟨S, hS⟩ : ∃ S, S = Value.slice (some ⟨b, off, none⟩) c.n cap := ⟨_, rfl⟩
  have sS := ((((BoxAt.new (w.alloc (.cells #[S] 24)) 2 #[.int .i64 s]).alloc (.cells zero6 81)).alloc (.cells #[.int .i64 0] 3)).alloc (.cells zero6 81)).alloc (.cells #[S] 24)
  have sR := (((BoxAt.new ((w.alloc (.cells #[S] 24)).alloc (.cells #[.int .i64 s] 2)) 81 zero6).alloc (.cells #[.int .i64 0] 3)).alloc (.cells zero6 81)).alloc (.cells #[S] 24)
  have sN := ((BoxAt.new (((w.alloc (.cells #[S] 24)).alloc (.cells #[.int .i64 s] 2)).alloc (.cells zero6 81)) 3 #[.int .i64 0]).alloc (.cells zero6 81)).alloc (.cells #[S] 24)
  have sF := (BoxAt.new ((((w.alloc (.cells #[S] 24)).alloc (.cells #[.int .i64 s] 2)).alloc (.cells zero6 81)).alloc (.cells #[.int .i64 0] 3)) 81 zero6).alloc (.cells #[S] 24)
  have sP := BoxAt.new (((((w.alloc (.cells #[S] 24)).alloc (.cells #[.int .i64 s] 2)).alloc (.cells zero6 81)).alloc (.cells #[.int .i64 0] 3)).alloc (.cells zero6 81)) 24 #[S]
  have hB0 : Below w.heap.size w ((((((w.alloc (.cells #[S] 24)).alloc (.cells #[.int .i64 s] 2)).alloc (.cells zero6 81)).alloc (.cells #[.int .i64 0] 3)).alloc (.cells zero6 81)).alloc (.cells #[S] 24)) :=
    ((((((Below.refl _ w).alloc (Nat.le_refl _) _).alloc (by simp) _).alloc (by simp; omega) _).alloc (by simp; omega) _).alloc (by simp; omega) _).alloc (by simp; omega) _
  have hsz : ((((((w.alloc (.cells #[S] 24)).alloc (.cells #[.int .i64 s] 2)).alloc (.cells zero6 81)).alloc (.cells #[.int .i64 0] 3)).alloc (.cells zero6 81)).alloc (.cells #[S] 24)).heap.size = w.heap.size + 6 := by simp
  simp only [World.size_alloc] at sS sR sN sF sP
  rw [hS] at sS sR sN sF sP hB0 hsz
  generalize (((((w.alloc (.cells #[Value.slice (some ⟨b, off, none⟩) c.n cap] 24)).alloc (.cells #[.int .i64 s] 2)).alloc (.cells zero6 81)).alloc (.cells #[.int .i64 0] 3)).alloc (.cells zero6 81)).alloc (.cells #[Value.slice (some ⟨b, off, none⟩) c.n cap] 24) = W0 at *
  obtain ⟨Bs, hBs⟩ : ∃ B, B = w.heap.size + 1 := ⟨_, rfl⟩
  rw [← hBs] at sS sR sN sF sP ⊢
  obtain ⟨Br, hBr⟩ : ∃ B, B = Bs + 1 := ⟨_, rfl⟩
  rw [← hBr] at sR sN sF sP ⊢
  obtain ⟨Bn, hBn⟩ : ∃ B, B = Br + 1 := ⟨_, rfl⟩
  rw [← hBn] at sN sF sP ⊢
  obtain ⟨Bf, hBf⟩ : ∃ B, B = Bn + 1 := ⟨_, rfl⟩
  rw [← hBf] at sF sP ⊢
  have e1 : w.heap.size < Bs := by omega
  have e2 : Bs < Br := by omega
  have e3 : Br < Bn := by omega
  have e4 : Bn < Bf := by omega
  have e5 : W0.heap.size = Bf + 2 := by omega
  have hp0 := hp.below hB0 hb
  clear hS hsz hBs hBr hBn hBf S
  refine wpIn_rangeFunc_ownH rfl (by omega) (gf := 89) (lb := #[.pointer (some ⟨Bf + 1, 0, none⟩)]) rfl trivial (enters_of Try.func89 (by kernel_rfl) rfl)
    (pieces_stops (m - 1) (by omega) (Bf + 1) w.heap.size (Bf + 1) b off cap c hn hn' hok hb W0 sP (Nat.le_refl _) hp0 hB0.size) Kp2.trans (kp2_b hB0.size) (Below.refl _ _) (fun _ => rfl)
    (fun pre W => (((((∀ y ∈ pre, 0 < y.1 → c.st y.1 ≤ s) ∧ BoxAt W Bs 2 #[.int .i64 s]) ∧ BoxAt W Br 81 zero6) ∧ BoxAt W Bn 3 #[.int .i64 (lastN pre)]) ∧ BoxAt W Bf 81 (lastP c pre)) ∧ Below w.heap.size w W)
    (fun cd pre W => (∃ ini x, ((((cd = .exit 0 ∧ pre = ini ++ [x] ∧ (∀ y ∈ ini, 0 < y.1 → c.st y.1 ≤ s) ∧ 0 < x.1 ∧ s < c.st x.1) ∧ BoxAt W Br 81 zero6) ∧ BoxAt W Bn 3 #[.int .i64 (lastN ini)]) ∧ BoxAt W Bf 81 (lastP c ini))) ∧ Below w.heap.size w W)
    (OwnFrom.and (Own.from (own_and (own_and (own_and (own_and (own_pure _) (boxAt_own _ _ _)) (boxAt_own _ _ _)) (boxAt_own _ _ _)) (boxAt_own _ _ _)) _) (ownFrom_below (Nat.le_refl _) (by omega)))
    (fun cd => OwnFrom.and (Own.from (fun s A B row hs hg hr => by
      obtain ⟨ini, x, ⟨⟨h1, h2⟩, h3⟩, h4⟩ := hs
      exact ⟨ini, x, ⟨⟨h1, boxAt_own (β := Unit) _ _ (fun _ => _) () A B row h2 hg hr⟩, boxAt_own (β := Unit) _ _ (fun _ => _) () A B row h3 hg hr⟩, boxAt_own (β := Unit) _ _ (fun _ => _) () A B row h4 hg hr⟩) _) (ownFrom_below (Nat.le_refl _) (by omega)))
    ⟨⟨⟨⟨⟨by simp, sS⟩, sR⟩, sN⟩, sF⟩, hB0⟩
    (fun x a' W => ∃ Bx, BoxAt W Bx 81 (pca c x.1) ∧
      a' = { tmps := #[cv b off c.n cap, .int .i64 s, .pointer (some ⟨w.heap.size, 0, none⟩), .pointer (some ⟨Bs, 0, none⟩), .int .i64 0, .pointer (some ⟨Br, 0, none⟩), .pointer (some ⟨Bn, 0, none⟩), .pointer (some ⟨Bf, 0, none⟩), .int .i64 (x.1 : Int), .pointer (some ⟨Bx, 0, none⟩),
          .agg #[.slice (some ⟨b, off, none⟩) c.n cap], .func (.func 89) #[] #[.pointer (some ⟨Bf + 1, 0, none⟩)], .int .i64 (x.1 : Int), pcv c x.1, undef, undef, undef, undef, undef, undef, undef, undef, undef, undef, undef, undef], defers := [] })
    (fun x a' => Own.from (fun _ A B row hs hg hr => by obtain ⟨Bx, h2, h3⟩ := hs; exact ⟨Bx, boxAt_own (β := Unit) _ _ (fun _ => _) () A B row h2 hg hr, h3⟩) _) ?assign ?body ?done ?stop
  case assign =>
    rintro l pre x W K ⟨⟨⟨⟨⟨h0, h1⟩, h2⟩, h3⟩, h4⟩, hB⟩ hK
    gi_wp2
    exact hK _ _ ((KeepsOthers.alloc _ _).from _) ((Kp2.refl _ _ _).alloc hB.size _) ⟨⟨⟨⟨⟨h0, h1.alloc _⟩, h2.alloc _⟩, h3.alloc _⟩, h4.alloc _⟩, hB.alloc hB.size _⟩ ⟨W.heap.size, BoxAt.new _ _ _, rfl⟩
  case body =>
    rintro l pre x a' W hl hr ⟨⟨⟨⟨⟨h0, h1⟩, h2⟩, h3⟩, h4⟩, hB⟩ ⟨Bx, hbx, rfl⟩ hlt
    have hx2 : x.1 + 1 < c.n := by have := x.2; omega
    have k0 : W.cell? ⟨Bx, 0, none⟩ = some (.int .i64 (c.X x.1)) := hbx.cell 0
    have k1 : W.cell? ⟨Bx, 1, none⟩ = some (.int .i64 (c.Y x.1)) := hbx.cell 1
    have k2 : W.cell? ⟨Bx, 2, none⟩ = some (.int .i64 (c.wx x.1)) := hbx.cell 2
    have k3 : W.cell? ⟨Bx, 3, none⟩ = some (.int .i64 (c.wy x.1)) := hbx.cell 3
    have k4 : W.cell? ⟨Bx, 4, none⟩ = some (.int .i64 (c.len x.1)) := hbx.cell 4
    have k5 : W.cell? ⟨Bx, 5, none⟩ = some (.int .i64 (c.st x.1)) := hbx.cell 5
    have v0 : W.cell? ⟨Bs, 0, none⟩ = some (.int .i64 s) := h1.cell 0
    have H0 := Lib.hid h0
    clear h0
    have EN := Lib.hid (lastN_snoc pre x)
    have EP := Lib.hid (lastP_snoc c pre x)
    by_cases hx0 : 0 < x.1
    · have hx1 : 0 < (x.1 : Int) := by omega
      by_cases hs : s < c.st x.1
      · gi_wp2
        exact ⟨KeepsFrom.refl _ _, ⟨pre, x, ⟨⟨⟨rfl, rfl, H0.out, hx0, hs⟩, h2⟩, h3⟩, h4⟩, hB⟩
      · have hs' : c.st x.1 ≤ s := by omega
        have n0 : W.cell? ⟨Bn, 0, none⟩ = some (.int .i64 (lastN pre)) := h3.cell 0
        have n1 : W.frozen? ⟨Bn, 0, none⟩ = false := h3.frozen 0
        have hne : Bx ≠ Bn := hbx.ne_of h3 (by decide)
        have hne2 : Bn ≠ Bx := Ne.symm hne
        have hne3 : Bn ≠ Bf := by omega
        have hne4 : Bf ≠ Bn := by omega
        obtain ⟨z0, z1, z2, z3, z4, z5, hz⟩ := lastP_six c pre
        have hF := Lib.hid h4
        have hz' := Lib.hid hz
        rw [hz] at h4
        clear hz
        have f0 : W.cell? ⟨Bf, 0, none⟩ = some (.int .i64 z0) := h4.cell 0
        have f1 : W.cell? ⟨Bf, 1, none⟩ = some (.int .i64 z1) := h4.cell 1
        have f2 : W.cell? ⟨Bf, 2, none⟩ = some (.int .i64 z2) := h4.cell 2
        have f3 : W.cell? ⟨Bf, 3, none⟩ = some (.int .i64 z3) := h4.cell 3
        have f4 : W.cell? ⟨Bf, 4, none⟩ = some (.int .i64 z4) := h4.cell 4
        have f5 : W.cell? ⟨Bf, 5, none⟩ = some (.int .i64 z5) := h4.cell 5
        have g0 : W.frozen? ⟨Bf, 0, none⟩ = false := h4.frozen 0
        have g1 : W.frozen? ⟨Bf, 1, none⟩ = false := h4.frozen 1
        have g2 : W.frozen? ⟨Bf, 2, none⟩ = false := h4.frozen 2
        have g3 : W.frozen? ⟨Bf, 3, none⟩ = false := h4.frozen 3
        have g4 : W.frozen? ⟨Bf, 4, none⟩ = false := h4.frozen 4
        have g5 : W.frozen? ⟨Bf, 5, none⟩ = false := h4.frozen 5
        gi_wp2
        gi_region
        all_goals exact ⟨(((KeepsOthers.setCell _ _ _).trans (keeps6 _ _ _ _ _ _ _ _)).trans (KeepsOthers.drew _)).from _, ((((Kp2.refl _ _ _).setCell (p := ⟨Bn, 0, none⟩) (by show w.heap.size ≤ Bn; omega) (by show Bn < Bf + 1; omega) _).set6 (by omega) (by omega) _ _ _ _ _ _)).drew,
          ⟨⟨⟨⟨snoc_ge H0.out (by omega), (other6 (h1.other (g' := Bn) (by omega) _ _) (by omega) _ _ _ _ _ _).drew⟩, (other6 (h2.other (g' := Bn) (by omega) _ _) (by omega) _ _ _ _ _ _).drew⟩, by rw [EN.out]; exact (other6 (h3.set 0 _) (by omega) _ _ _ _ _ _).drew⟩, by rw [EP.out]; exact (set6' (h4.other (g' := Bn) (by omega) _ _) _ _ _ _ _ _).drew⟩,
          ((below6 (hB.setCell (p := ⟨Bn, 0, none⟩) (by show w.heap.size ≤ Bn; omega) _) (by omega) _ _ _ _ _ _)).drew⟩
    · have hx1 : decide (0 < (x.1 : Int)) = false := by simp; omega
      have hx3 : decide (0 < x.1) = false := by simp; omega
      have n0 : W.cell? ⟨Bn, 0, none⟩ = some (.int .i64 (lastN pre)) := h3.cell 0
      have n1 : W.frozen? ⟨Bn, 0, none⟩ = false := h3.frozen 0
      have hne : Bx ≠ Bn := hbx.ne_of h3 (by decide)
      have hne2 : Bn ≠ Bx := Ne.symm hne
      have hne3 : Bn ≠ Bf := by omega
      have hne4 : Bf ≠ Bn := by omega
      obtain ⟨z0, z1, z2, z3, z4, z5, hz⟩ := lastP_six c pre
      have hF := Lib.hid h4
      have hz' := Lib.hid hz
      rw [hz] at h4
      clear hz
      have f0 : W.cell? ⟨Bf, 0, none⟩ = some (.int .i64 z0) := h4.cell 0
      have f1 : W.cell? ⟨Bf, 1, none⟩ = some (.int .i64 z1) := h4.cell 1
      have f2 : W.cell? ⟨Bf, 2, none⟩ = some (.int .i64 z2) := h4.cell 2
      have f3 : W.cell? ⟨Bf, 3, none⟩ = some (.int .i64 z3) := h4.cell 3
      have f4 : W.cell? ⟨Bf, 4, none⟩ = some (.int .i64 z4) := h4.cell 4
      have f5 : W.cell? ⟨Bf, 5, none⟩ = some (.int .i64 z5) := h4.cell 5
      have g0 : W.frozen? ⟨Bf, 0, none⟩ = false := h4.frozen 0
      have g1 : W.frozen? ⟨Bf, 1, none⟩ = false := h4.frozen 1
      have g2 : W.frozen? ⟨Bf, 2, none⟩ = false := h4.frozen 2
      have g3 : W.frozen? ⟨Bf, 3, none⟩ = false := h4.frozen 3
      have g4 : W.frozen? ⟨Bf, 4, none⟩ = false := h4.frozen 4
      have g5 : W.frozen? ⟨Bf, 5, none⟩ = false := h4.frozen 5
      gi_wp2
      gi_region
      all_goals exact ⟨(((KeepsOthers.setCell _ _ _).trans (keeps6 _ _ _ _ _ _ _ _)).trans (KeepsOthers.drew _)).from _, ((((Kp2.refl _ _ _).setCell (p := ⟨Bn, 0, none⟩) (by show w.heap.size ≤ Bn; omega) (by show Bn < Bf + 1; omega) _).set6 (by omega) (by omega) _ _ _ _ _ _)).drew,
        ⟨⟨⟨⟨snoc_ge H0.out (by omega), (other6 (h1.other (g' := Bn) (by omega) _ _) (by omega) _ _ _ _ _ _).drew⟩, (other6 (h2.other (g' := Bn) (by omega) _ _) (by omega) _ _ _ _ _ _).drew⟩, by rw [EN.out]; exact (other6 (h3.set 0 _) (by omega) _ _ _ _ _ _).drew⟩, by rw [EP.out]; exact (set6' (h4.other (g' := Bn) (by omega) _ _) _ _ _ _ _ _).drew⟩,
        ((below6 (hB.setCell (p := ⟨Bn, 0, none⟩) (by show w.heap.size ≤ Bn; omega) _) (by omega) _ _ _ _ _ _)).drew⟩
  case done =>
    rintro D ys W hD rfl ⟨⟨⟨⟨⟨h0, h1⟩, h2⟩, h3⟩, h4⟩, hB⟩ hK
    obtain ⟨N', hN⟩ : ∃ N', c.n - 1 = N' + 1 := ⟨c.n - 2, by omega⟩
    have hk : N' < c.n - 1 := by omega
    have hall : allIx (c.n - 1) = upto (c.n - 1) N' ++ [⟨N', hk⟩] := by
      rw [← upto_succ hk, ← hN]; unfold upto; rw [List.take_of_length_le (by rw [allIx_length]; exact Nat.le_refl _)]
    rw [hall] at h0 h3 h4
    rw [lastN_snoc] at h3
    rw [lastP_snoc] at h4
    obtain rfl : j = N' := hj.uniq ⟨hk, fun h => h0 ⟨N', hk⟩ (by simp) h, fun h => by omega⟩
    clear h0 hall
    have n0 : W.cell? ⟨Bn, 0, none⟩ = some (.int .i64 (j : Int)) := h3.cell 0
    have m0 : W.cell? ⟨Bf, 0, none⟩ = some (.int .i64 (c.X j)) := h4.cell 0
    have m1 : W.cell? ⟨Bf, 1, none⟩ = some (.int .i64 (c.Y j)) := h4.cell 1
    have m2 : W.cell? ⟨Bf, 2, none⟩ = some (.int .i64 (c.wx j)) := h4.cell 2
    have m3 : W.cell? ⟨Bf, 3, none⟩ = some (.int .i64 (c.wy j)) := h4.cell 3
    have m4 : W.cell? ⟨Bf, 4, none⟩ = some (.int .i64 (c.len j)) := h4.cell 4
    have m5 : W.cell? ⟨Bf, 5, none⟩ = some (.int .i64 (c.st j)) := h4.cell 5
    have q0 : W.cell? ⟨Br, 0, none⟩ = some (.int .i64 0) := h2.cell 0
    have q1 : W.cell? ⟨Br, 1, none⟩ = some (.int .i64 0) := h2.cell 1
    have q2 : W.cell? ⟨Br, 2, none⟩ = some (.int .i64 0) := h2.cell 2
    have q3 : W.cell? ⟨Br, 3, none⟩ = some (.int .i64 0) := h2.cell 3
    have q4 : W.cell? ⟨Br, 4, none⟩ = some (.int .i64 0) := h2.cell 4
    have q5 : W.cell? ⟨Br, 5, none⟩ = some (.int .i64 0) := h2.cell 5
    have r0 : W.frozen? ⟨Br, 0, none⟩ = false := h2.frozen 0
    have r1 : W.frozen? ⟨Br, 1, none⟩ = false := h2.frozen 1
    have r2 : W.frozen? ⟨Br, 2, none⟩ = false := h2.frozen 2
    have r3 : W.frozen? ⟨Br, 3, none⟩ = false := h2.frozen 3
    have r4 : W.frozen? ⟨Br, 4, none⟩ = false := h2.frozen 4
    have r5 : W.frozen? ⟨Br, 5, none⟩ = false := h2.frozen 5
    have hne3 : Bn ≠ Br := by omega
    have hne4 : Bf ≠ Br := by omega
    gi_wp2
    gi_region
    all_goals gi_wp2
    all_goals
      have hK' := ((keeps6 W Br (.int .i64 (c.X j)) (.int .i64 (c.Y j)) (.int .i64 (c.wx j)) (.int .i64 (c.wy j)) (.int .i64 (c.len j)) (.int .i64 (c.st j))).trans (KeepsOthers.drew _)).same D _ hK rfl
      have hbz := (set6' h2 (.int .i64 (c.X j)) (.int .i64 (c.Y j)) (.int .i64 (c.wx j)) (.int .i64 (c.wy j)) (.int .i64 (c.len j)) (.int .i64 (c.st j))).drew
      have hbq := boxAt_own (β := Unit) Br 81 (fun _ => pca c j) () _ _ (some D) hbz (grownBy_putObj' _ D (.deferred none)) (fun r e => by cases e; exact ⟨_, hK', rfl⟩)
      have t0 := hbq.cell 0
      have t1 := hbq.cell 1
      have t2 := hbq.cell 2
      have t3 := hbq.cell 3
      have t4 := hbq.cell 4
      have t5 := hbq.cell 5
      refine ⟨by simp, .inl ⟨_, _, rfl, run_takeDeferred hK', ?_⟩⟩
      refine ⟨.tuple #[.int .i64 (j : Int), .agg (pca c j)], ?_, rfl, after_loop (below6 hB (by omega) _ _ _ _ _ _).drew (by omega) hK'⟩
      simp [results, Try.f68, go_sem, t0, t1, t2, t3, t4, t5]
  case stop =>
    rintro D cd pre W hD ⟨k, hk, rfl⟩ ⟨⟨ini, x, ⟨⟨⟨rfl, e1, e2, e3, e4⟩, h2⟩, h3⟩, h4⟩, hB⟩ hK
    have key : ini = upto (c.n - 1) (j + 1) := by
      cases k with
      | zero => simp [upto] at e1
      | succ k' =>
        have hkN : k' < c.n - 1 := by omega
        rw [upto_succ hkN] at e1
        obtain ⟨rfl, e5⟩ := List.append_inj' e1 rfl
        have e6 : (⟨k', hkN⟩ : Ix (c.n - 1)) = x := by simpa using e5
        rw [← e6] at e3 e4
        simp only at e3 e4
        obtain ⟨i, rfl⟩ : ∃ i, k' = i + 1 := ⟨k' - 1, by omega⟩
        obtain rfl : j = i := hj.uniq ⟨by omega, fun h => e2 ⟨i, by omega⟩ (by rw [upto_succ (by omega)]; simp) h, fun _ => e4⟩
        rfl
    rw [key, upto_succ hj.lt] at h3 h4
    rw [lastN_snoc] at h3
    rw [lastP_snoc] at h4
    clear e1 e2 e3 e4 key
    have n0 : W.cell? ⟨Bn, 0, none⟩ = some (.int .i64 (j : Int)) := h3.cell 0
    have m0 : W.cell? ⟨Bf, 0, none⟩ = some (.int .i64 (c.X j)) := h4.cell 0
    have m1 : W.cell? ⟨Bf, 1, none⟩ = some (.int .i64 (c.Y j)) := h4.cell 1
    have m2 : W.cell? ⟨Bf, 2, none⟩ = some (.int .i64 (c.wx j)) := h4.cell 2
    have m3 : W.cell? ⟨Bf, 3, none⟩ = some (.int .i64 (c.wy j)) := h4.cell 3
    have m4 : W.cell? ⟨Bf, 4, none⟩ = some (.int .i64 (c.len j)) := h4.cell 4
    have m5 : W.cell? ⟨Bf, 5, none⟩ = some (.int .i64 (c.st j)) := h4.cell 5
    have q0 : W.cell? ⟨Br, 0, none⟩ = some (.int .i64 0) := h2.cell 0
    have q1 : W.cell? ⟨Br, 1, none⟩ = some (.int .i64 0) := h2.cell 1
    have q2 : W.cell? ⟨Br, 2, none⟩ = some (.int .i64 0) := h2.cell 2
    have q3 : W.cell? ⟨Br, 3, none⟩ = some (.int .i64 0) := h2.cell 3
    have q4 : W.cell? ⟨Br, 4, none⟩ = some (.int .i64 0) := h2.cell 4
    have q5 : W.cell? ⟨Br, 5, none⟩ = some (.int .i64 0) := h2.cell 5
    have r0 : W.frozen? ⟨Br, 0, none⟩ = false := h2.frozen 0
    have r1 : W.frozen? ⟨Br, 1, none⟩ = false := h2.frozen 1
    have r2 : W.frozen? ⟨Br, 2, none⟩ = false := h2.frozen 2
    have r3 : W.frozen? ⟨Br, 3, none⟩ = false := h2.frozen 3
    have r4 : W.frozen? ⟨Br, 4, none⟩ = false := h2.frozen 4
    have r5 : W.frozen? ⟨Br, 5, none⟩ = false := h2.frozen 5
    have hne3 : Bn ≠ Br := by omega
    have hne4 : Bf ≠ Br := by omega
    gi_wp2
    gi_region
    all_goals gi_wp2
    all_goals
      have hK' := ((keeps6 W Br (.int .i64 (c.X j)) (.int .i64 (c.Y j)) (.int .i64 (c.wx j)) (.int .i64 (c.wy j)) (.int .i64 (c.len j)) (.int .i64 (c.st j))).trans (KeepsOthers.drew _)).same D _ hK rfl
      have hbz := (set6' h2 (.int .i64 (c.X j)) (.int .i64 (c.Y j)) (.int .i64 (c.wx j)) (.int .i64 (c.wy j)) (.int .i64 (c.len j)) (.int .i64 (c.st j))).drew
      have hbq := boxAt_own (β := Unit) Br 81 (fun _ => pca c j) () _ _ (some D) hbz (grownBy_putObj' _ D (.deferred none)) (fun r e => by cases e; exact ⟨_, hK', rfl⟩)
      have t0 := hbq.cell 0
      have t1 := hbq.cell 1
      have t2 := hbq.cell 2
      have t3 := hbq.cell 3
      have t4 := hbq.cell 4
      have t5 := hbq.cell 5
      refine ⟨by simp, .inl ⟨_, _, rfl, run_takeDeferred hK', ?_⟩⟩
      refine ⟨.tuple #[.int .i64 (j : Int), .agg (pca c j)], ?_, rfl, after_loop (below6 hB (by omega) _ _ _ _ _ _).drew (by omega) hK'⟩
      simp [results, Try.f68, go_sem, t0, t1, t2, t3, t4, t5]

/-- **pieceAt of a valid curve: the piece in which s lies.** -/
theorem pieceAt_good (b off cap : Nat) (c : Crv) (hg : Good c) (s : Int) (j : Nat) (hj : InPiece c s j) (w : World) (hp : Pts w b off c.n c.X c.Y) :
    Calls Try.prog 68 #[cv b off c.n cap, .int .i64 s] w fun e w' => e = .returned (.tuple #[.int .i64 (j : Int), .agg (pca c j)]) ∧ Below w.heap.size w w' :=
  callsIn_wide.1 (pieceAt_in 3 (Nat.le_refl _) b off cap c hg s j hj w hp (hp.lt (by have := hg.lo; omega)))
end Go.Proofs.Ytglkpabcflecmaa
