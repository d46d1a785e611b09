/- The program's Pieces of a valid curve. -/
import Derived.Test.YtglkpabcflecmaaIter2
import Derived.Test.YtglkpabcflecmaaRLen
import Derived.Maps.AppendAt
namespace Go.Proofs.Ytglkpabcflecmaa
open Go.RowKit Go.Shelf
attribute [local go_sem] Oper.semAt_some

theorem row_cells {W : World} {base : Nat} {e : TypeId} {size : Nat} {v : Value} {k : Nat} {xs : List Value} (h : W.ownsRow base e size v k xs) {j : Nat} (hj : v.ownBlock = some j) : base ≤ j ∧ ∃ cur, W.heap[j]? = some (.cells cur e (0, 0)) := by
  rcases h.2 with ⟨rfl, _⟩ | ⟨g, cap, cur, rfl, hb, hg, _⟩
  · simp [Value.ownBlock] at hj
  · simp [Value.ownBlock] at hj
    subst hj
    exact ⟨hb, cur, hg⟩
theorem row_ne2 {W : World} {base : Nat} {e : TypeId} {size : Nat} {v : Value} {k : Nat} {xs : List Value} (h : W.ownsRow base e size v k xs) {j : Nat} (hj : j < base) : some j ≠ v.ownBlock := fun e' => by
  have := (row_cells h e'.symm).1; omega

def lensL (c : Crv) {N : Nat} (pre : List (Ix N)) : List Value := pre.map (fun x => .int .i64 (c.len x.1))
theorem lensL_snoc (c : Crv) {N : Nat} (pre : List (Ix N)) (x : Ix N) : lensL c (pre ++ [x]) = lensL c pre ++ [.int .i64 (c.len x.1)] := by simp [lensL]
theorem lensL_upto (c : Crv) {N k : Nat} (hk : k ≤ N) : lensL c (upto N k) = cellsI c.len k := by
  induction k with
  | zero => rw [upto_zero]; rfl
  | succ k ih => rw [upto_succ (by omega), lensL_snoc, ih (by omega)]; rfl
theorem lensL_all (c : Crv) (N : Nat) : lensL c (allIx N) = cellsI c.len N := by
  rw [← lensL_upto c (Nat.le_refl N)]; unfold upto; rw [List.take_of_length_le (by rw [allIx_length]; exact Nat.le_refl _)]

theorem lens_own (Bb base : Nat) (c : Crv) {N : Nat} : Own (fun (pre : List (Ix N)) W => ∃ v, BoxAt W Bb 32 #[v] ∧ W.ownsRow base 2 1 v pre.length (lensL c pre)) := by
  intro s W W' row ⟨v, hb, ho⟩ hg hr
  refine ⟨v, boxAt_own (β := Unit) Bb 32 (fun _ => #[v]) () W W' row hb hg hr, ho.kept hg ?_⟩
  cases hv : v.ownBlock with
  | none => exact .inl rfl
  | some j =>
    right
    intro e
    obtain ⟨o, ho2, hc⟩ := hr j e.symm
    obtain ⟨_, cur, hcur⟩ := row_cells ho hv
    rw [hcur] at ho2; cases ho2; cases hc

set_option maxRecDepth 100000 in
set_option maxHeartbeats 4000000 in
theorem pieces_in (m : Nat) (hm : 3 ≤ m) (b off cap : Nat) (c : Crv) (hg : Good c) (w : World) (hp : Pts w b off c.n c.X c.Y) (hb : b < w.heap.size) :
    CallsIn Fence.wide m Try.prog 25 #[cv b off c.n cap] w (PcsPost c w) := by
  obtain ⟨i0_, hi0, hz0, hz1, hz2⟩ := info_parts Try.info2
  have hI0 := Lib.hid hi0
  have hZ0 := Lib.hid hz0
  have hZ1 := Lib.hid hz1
  have hZ2 := Lib.hid hz2
  clear hi0 hz0 hz1 hz2
  obtain ⟨hn, hn', hok, _⟩ := id hg
  refine callsIn_of_wp_marks Try.func25 rfl trivial ?_ rfl
  simp only [Try.ntmps25, List.size_toArray, List.length_cons, List.length_nil, Nat.reduceAdd, Nat.reduceSub, Array.replicate_succ, Array.replicate_zero, List.push_toArray, List.append_toArray, List.nil_append, List.cons_append]
  have hp2 := hp.below ((Below.refl _ w).alloc (Nat.le_refl _) (.cells #[.slice (some ⟨b, off, none⟩) c.n cap] 24)) hb
  gi_wp2_with (first
    | (refine ⟨trivial, fun _ => by omega, ?_⟩; gi_at_call 20; refine (callsIn_wide.2 (check_good b off cap c hg _ hp2)).mono ?_; rintro e w1 ⟨rfl, hb1⟩; obtain ⟨hbw, hz1, cC, hz2⟩ := one_facts hb1; clear hb1)
    | (refine ⟨trivial, fun _ => by omega, ?_⟩; gi_at_call 60; refine (callsIn_wide.2 (pieces_any b off c.n cap _)).mono ?_; rintro e w2 ⟨rfl, rfl⟩))
  obtain ⟨Bb, hBb⟩ : ∃ Bb, Bb = w1.heap.size := ⟨_, rfl⟩
  obtain ⟨W0, hW0⟩ : ∃ W0, ((w1.alloc (.cells #[.slice none 0 0] 32)).alloc (.cells #[.slice (some ⟨b, off, none⟩) c.n cap] 24)) = W0 := ⟨_, rfl⟩
  obtain ⟨sB, sP, hB10, hsz⟩ := two_boxes w1 32 #[.slice none 0 0] (.slice (some ⟨b, off, none⟩) c.n cap)
  have hB0 : Below w.heap.size w W0 := by rw [← hW0]; exact hbw.trans (hB10.mono (by omega))
  rw [hW0, ← hBb] at sB sP hsz
  rw [hW0, ← hBb]
  rw [← hBb] at hz1 hz2
  have hp0 := hp.below hB0 hb
  clear hW0 hBb hB10 cC hbw hp2
  refine wpIn_rangeFunc_ownH rfl (by omega) (gf := 89) (lb := #[.pointer (some ⟨Bb + 1, 0, none⟩)]) rfl trivial (enters_of Try.func89 (by kernel_rfl) rfl)
    (pieces_stops3 (m - 1) (by omega) (Bb + 1) w.heap.size (Bb + 1) b off cap c hn hn' hok hb W0 sP (Nat.le_refl _) hp0 hB0.size) Kp3.trans (kp3_b hB0.size) (Below.refl _ _) (fun _ => rfl)
    (fun pre W => (∃ v, BoxAt W Bb 32 #[v] ∧ W.ownsRow (Bb + 2) 2 1 v pre.length (lensL c pre)) ∧ Below w.heap.size w W)
    (fun _ _ _ => False)
    (OwnFrom.and (Own.from (lens_own Bb (Bb + 2) c) _) (ownFrom_below (Nat.le_refl _) (by omega)))
    (fun _ _ _ _ _ hs _ _ => hs)
    ⟨⟨_, sB, World.ownsRow_nil _ _ _ _⟩, hB0⟩
    (fun x a' W => ∃ Bx, BoxAt W Bx 81 #[.int .i64 (c.X x.1), .int .i64 (c.Y x.1), .int .i64 (c.wx x.1), .int .i64 (c.wy x.1), .int .i64 (c.len x.1), .int .i64 (c.st x.1)] ∧
      a' = { tmps := #[cv b off c.n cap, .pointer (some ⟨w.heap.size, 0, none⟩), .slice none 0 0, .pointer (some ⟨Bb, 0, none⟩), undef, .pointer (some ⟨Bx, 0, none⟩), .agg #[.slice (some ⟨b, off, none⟩) c.n cap], .int .i64 0, .bool false,
          .agg #[.slice (some ⟨b, off, none⟩) c.n cap], .func (.func 89) #[] #[.pointer (some ⟨Bb + 1, 0, none⟩)], .int .i64 (x.1 : Int), pcv c x.1, undef, undef, undef, undef, undef, undef], defers := [] })
    (fun x a' => Own.from (fun _ A B row hs hg hr => by obtain ⟨Bx, h2, h3⟩ := hs; exact ⟨Bx, boxAt_own (β := Unit) _ _ (fun _ => _) () A B row h2 hg hr, h3⟩) _) ?assign ?body ?done ?stop
  case assign =>
    rintro l pre x W K ⟨⟨v, h1, hown⟩, hB⟩ hK
    gi_wp2
    exact hK _ _ ((KeepsOthers.alloc _ _).from _) ((Kp3.refl _ _ _).alloc hB.size _) ⟨⟨v, h1.alloc _, hown.alloc _⟩, hB.alloc hB.size _⟩ ⟨W.heap.size, BoxAt.new _ _ _, rfl⟩
  case body =>
    rintro l pre x a' W hl hr ⟨⟨v, hS, hown⟩, hB⟩ ⟨Bx, hbx, rfl⟩ hlt
    have hlt' : pre.length < 16 := by omega
    have HO := Lib.hid hown
    clear hown
    have hBs := hB.size
    have hSl := hS.lt
    have k4 : W.cell? ⟨Bx, 4, none⟩ = some (.int .i64 (c.len x.1)) := hbx.cell 4
    have s0 : W.cell? ⟨Bb, 0, none⟩ = some v := hS.cell 0
    have s1 : W.frozen? ⟨Bb, 0, none⟩ = false := hS.frozen 0
    have hWB : Bb + 2 ≤ W.heap.size := by obtain ⟨r, hr'⟩ := hr; have := (Array.getElem?_eq_some_iff.1 hr').1; omega
    gi_wp2_with (gi_at_builtin; refine wpListIn_append_own _ rfl _ _ 32 rfl (Bb + 2) 2 i0_ (.int .i64 0) 1 8 Try.underlying32 hI0.out hZ0.out hZ1.out hZ2.out rfl (by decide) v pre.length (lensL c pre) rfl (HO.out.alloc _) ⟨W.heap.size, 0, none⟩ 1 1 [.int .i64 (c.len x.1)] rfl rfl (cell_one_new _ _ _) (by simp [Value.oneCell']) (by unfold maxLen; omega) (by omega) (by simp; omega) ?_; intro v' w7 hown7 hgrow _; obtain ⟨g', cap', rfl, hg1, hg2⟩ := hown7.form (by omega); have hb7 : Hid (BoxAt w7 Bb 32 #[v]) := (hS.alloc _).grown hgrow (row_ne2 HO.out (by omega)); have c7 : w7.cell? ⟨Bb, 0, none⟩ = some v := BoxAt.cell hb7.out 0; have f7 : w7.frozen? ⟨Bb, 0, none⟩ = false := BoxAt.frozen hb7.out 0)
    have hrc : ∀ j, v.ownBlock = some j → Bb + 2 ≤ j ∧ ∃ cur, (W.alloc (.cells #[.int .i64 (c.len x.1)] 2)).heap[j]? = some (.cells cur 2 (0, 0)) := fun j e => row_cells (HO.out.alloc _) e
    refine ⟨(((KeepsOthers.alloc W _).trans (KeepsOthers.of_grownBy hgrow (fun j o e ho => by obtain ⟨_, cur, hc⟩ := hrc j e; rw [hc] at ho; cases ho; rfl))).trans (KeepsOthers.setCell _ _ _)).from _,
      (((Kp3.refl _ _ _).alloc hB.size _).grown (by simp; omega) hgrow (fun g e => ⟨by have := (hrc g e).1; omega, (hrc g e).2⟩)).setCell (p := ⟨Bb, 0, none⟩) (by show w.heap.size ≤ Bb; omega) (by show Bb < Bb + 1; omega) _,
      ⟨_, hb7.out.set 0 _, ?_⟩, ((hB.alloc hB.size _).grown hgrow (by simp; omega) (fun g e => by have := (hrc g e).1; omega)).setCell (p := ⟨Bb, 0, none⟩) (by show w.heap.size ≤ Bb; omega) _⟩
    rw [lensL_snoc, List.length_append]
    exact hown7.kept (grownBy_setCell' _ _ _) (.inr (by simp [Value.ownBlock]; omega))
  case done =>
    rintro D ys W hD rfl ⟨⟨v, hS, hown⟩, hB⟩ hK
    rw [lensL_all, allIx_length] at hown
    have s0 : W.cell? ⟨Bb, 0, none⟩ = some v := hS.cell 0
    obtain ⟨g, cap', rfl, hg1, hg2⟩ := hown.form (by omega)
    have hI := Lib.hid (Ints.of_own hown)
    have hne : g ≠ D := by
      rintro rfl
      obtain ⟨_, cur, hc⟩ := row_cells hown rfl
      rw [hc] at hK; cases hK
    clear hown
    gi_wp2
    refine ⟨by simp, .inl ⟨_, _, rfl, run_takeDeferred hK, ?_⟩⟩
    refine ⟨_, results_tmp rfl _ _ _, g, cap', rfl, ?_, after_loop hB (by omega) hK⟩
    exact fun i hi => (World.cell?_of_block (World.putObj_heap_other hne)).trans (hI.out i hi)
  case stop =>
    rintro D cd pre W _ _ h _
    exact h.elim

/-- **Pieces of a valid curve.** -/
theorem pieces_good (b off cap : Nat) (c : Crv) (hg : Good c) (w : World) (hp : Pts w b off c.n c.X c.Y) :
    Calls Try.prog 25 #[cv b off c.n cap] w (PcsPost c w) :=
  callsIn_wide.1 (pieces_in 3 (Nat.le_refl _) b off cap c hg w hp (hp.lt (by have := hg.lo; omega)))
end Go.Proofs.Ytglkpabcflecmaa
