/- 'Length' of a valid curve. -/
import Derived.Test.YtglkpabcflecmaaChk
namespace Go.Proofs.Ytglkpabcflecmaa
open Go.RowKit Go.Shelf
attribute [local go_sem] Oper.semAt_some

/-- A valid curve. -/
structure Good (c : Crv) : Prop where
  lo : 2 ≤ c.n
  hi : c.n ≤ 16
  ok : c.AllOk
  fe : ∀ i, i + 1 < c.n → c.ferr i = 0
theorem Good.first {c : Crv} (h : Good c) : firstE c.ferr (c.n - 1) = 0 := firstE_zero (fun j hj => h.fe j (by omega))
theorem Good.len {c : Crv} (h : Good c) {i : Nat} (hi : i + 1 < c.n) : c.len i * c.len i = c.d2 i ∧ 1000 ≤ c.len i ∧ c.len i ≤ 1048576 := by
  have hf := h.fe i hi
  have hp : c.perr i = 0 := by
    unfold Crv.ferr at hf; split at hf
    · rename_i h'; exact absurd hf h'
    · rename_i h'; simpa using h'
  unfold Crv.perr at hp
  split at hp
  · cases hp
  split at hp
  · cases hp
  · rename_i h1 h2
    exact ⟨Classical.not_not.1 h1, by omega, by omega⟩
theorem check_good (b off cap : Nat) (c : Crv) (h : Good c) (w : World) (hp : Pts w b off c.n c.X c.Y) :
    Calls Try.prog 20 #[cv b off c.n cap] w fun e w' => e = .returned (.int .i64 0) ∧ Below w.heap.size w w' := by
  have := check_ok b off cap c h.lo h.hi h.ok w hp
  rwa [h.first] at this

def sumL (c : Crv) {N : Nat} (pre : List (Ix N)) : Int := (pre.map (fun x => c.len x.1)).sum
theorem sumL_snoc (c : Crv) {N : Nat} (pre : List (Ix N)) (x : Ix N) : sumL c (pre ++ [x]) = sumL c pre + c.len x.1 := by simp [sumL]
theorem sumL_bd {c : Crv} (h : c.AllOk) (pre : List (Ix (c.n - 1))) : 0 ≤ sumL c pre ∧ sumL c pre ≤ 67108864 * pre.length := by
  unfold sumL
  induction pre with
  | nil => simp
  | cons x r ih =>
    have h1 := Crv.len_nonneg (c := c) x.1
    have h2 := Crv.len_lt h (i := x.1) (by have := x.2; omega)
    simp only [List.map_cons, List.sum_cons, List.length_cons]
    omega
theorem sumL_upto (c : Crv) {N k : Nat} (hk : k ≤ N) : sumL c (upto N k) = c.st k := by
  induction k with
  | zero => rw [upto_zero]; rfl
  | succ k ih => rw [upto_succ (by omega), sumL_snoc, ih (by omega)]; rfl
theorem sumL_all (c : Crv) (N : Nat) : sumL c (allIx N) = c.st N := by
  rw [← sumL_upto c (Nat.le_refl N)]; unfold upto; rw [List.take_of_length_le (by rw [allIx_length]; exact Nat.le_refl _)]

theorem one_facts {w w1 : World} {s : Value} {t : TypeId} (hb1 : Below (w.alloc (.cells #[s] t)).heap.size (w.alloc (.cells #[s] t)) w1) :
    Below w.heap.size w w1 ∧ w.heap.size + 1 ≤ w1.heap.size ∧ w1.cell? ⟨w.heap.size, 0, none⟩ = some s ∧ w.heap.size < w1.heap.size := by
  have hC : BoxAt w1 w.heap.size t #[s] := BoxAt.below (BoxAt.new w t #[s]) hb1 (by simp)
  have hz : w.heap.size + 1 ≤ w1.heap.size := by have := hb1.size; simp at this; omega
  exact ⟨((Below.refl _ w).alloc (Nat.le_refl _) _).trans (hb1.mono (by simp)), hz, hC.cell 0, by omega⟩

theorem two_boxes (w1 : World) (t : TypeId) (cs : Array Value) (s : Value) :
    BoxAt ((w1.alloc (.cells cs t)).alloc (.cells #[s] 24)) w1.heap.size t cs ∧ BoxAt ((w1.alloc (.cells cs t)).alloc (.cells #[s] 24)) (w1.heap.size + 1) 24 #[s] ∧
    Below w1.heap.size w1 ((w1.alloc (.cells cs t)).alloc (.cells #[s] 24)) ∧ ((w1.alloc (.cells cs t)).alloc (.cells #[s] 24)).heap.size = w1.heap.size + 2 := by
  refine ⟨(BoxAt.new w1 t cs).alloc _, ?_, ((Below.refl _ _).alloc (Nat.le_refl _) _).alloc (by simp) _, by simp⟩
  have := BoxAt.new (w1.alloc (.cells cs t)) 24 #[s]
  rwa [World.size_alloc] at this

theorem after_loop {w W : World} {D : Nat} (hB : Below w.heap.size w W) (hD : w.heap.size ≤ D) (hK : W.heap[D]? = some (.deferred (some []))) : Below w.heap.size w (W.putObj D (.deferred none)) :=
  hB.trans (belowK_b (w := w) (Nat.le_refl _) W D _ _ hD hK rfl rfl)

set_option maxRecDepth 100000 in
set_option maxHeartbeats 4000000 in
theorem length_in (m : Nat) (hm : 3 ≤ m) (b off cap : Nat) (c : Crv) (hg : Good c) (w : World) (hp : Pts w b off c.n c.X c.Y) (hb : b < w.heap.size) :
    CallsIn Fence.wide m Try.prog 22 #[cv b off c.n cap] w fun e w' => e = .returned (.int .i64 (c.st (c.n - 1))) ∧ Below w.heap.size w w' := by
  obtain ⟨hn, hn', hok, _⟩ := id hg
  refine callsIn_of_wp_marks Try.func22 rfl trivial ?_ rfl
  simp only [Try.ntmps22, List.size_toArray, List.length_cons, List.length_nil, Nat.reduceAdd, Nat.reduceSub, Array.replicate_succ, Array.replicate_zero, List.push_toArray, List.append_toArray, List.nil_append, List.cons_append]
  have hp2 := hp.below ((Below.refl _ w).alloc (Nat.le_refl _) (.cells #[.slice (some ⟨b, off, none⟩) c.n cap] 24)) hb
  gi_wp2_with (first
    | (refine ⟨trivial, fun _ => by omega, ?_⟩; gi_at_call 20; refine (callsIn_wide.2 (check_good b off cap c hg _ hp2)).mono ?_; rintro e w1 ⟨rfl, hb1⟩; obtain ⟨hbw, hz1, cC, hz2⟩ := one_facts hb1; clear hb1)
    | (refine ⟨trivial, fun _ => by omega, ?_⟩; gi_at_call 60; refine (callsIn_wide.2 (pieces_any b off c.n cap _)).mono ?_; rintro e w2 ⟨rfl, rfl⟩))
  obtain ⟨Bb, hBb⟩ : ∃ Bb, Bb = w1.heap.size := ⟨_, rfl⟩
  obtain ⟨W0, hW0⟩ : ∃ W0, ((w1.alloc (.cells #[.int .i64 0] 2)).alloc (.cells #[.slice (some ⟨b, off, none⟩) c.n cap] 24)) = W0 := ⟨_, rfl⟩
  obtain ⟨sB, sP, hB10, hsz⟩ := two_boxes w1 2 #[.int .i64 0] (.slice (some ⟨b, off, none⟩) c.n cap)
  have hB0 : Below w.heap.size w W0 := by rw [← hW0]; exact hbw.trans (hB10.mono (by omega))
  rw [hW0, ← hBb] at sB sP hsz
  rw [hW0, ← hBb]
  rw [← hBb] at hz1 hz2
  have hp0 := hp.below hB0 hb
  clear hW0 hBb hB10 cC hbw hp2
  refine wpIn_rangeFunc_ownH rfl (by omega) (gf := 89) (lb := #[.pointer (some ⟨Bb + 1, 0, none⟩)]) rfl trivial (enters_of Try.func89 (by kernel_rfl) rfl)
    (pieces_stops (m - 1) (by omega) (Bb + 1) w.heap.size (Bb + 1) b off cap c hn hn' hok hb W0 sP (Nat.le_refl _) hp0 hB0.size) Kp2.trans (kp2_b hB0.size) (Below.refl _ _) (fun _ => rfl)
    (fun pre W => BoxAt W Bb 2 #[.int .i64 (sumL c pre)] ∧ Below w.heap.size w W)
    (fun _ _ _ => False)
    (OwnFrom.and (Own.from (boxAt_own _ _ _) _) (ownFrom_below (Nat.le_refl _) (by omega)))
    (fun _ _ _ _ _ hs _ _ => hs)
    ⟨sB, hB0⟩
    (fun x a' W => ∃ Bx, BoxAt W Bx 81 #[.int .i64 (c.X x.1), .int .i64 (c.Y x.1), .int .i64 (c.wx x.1), .int .i64 (c.wy x.1), .int .i64 (c.len x.1), .int .i64 (c.st x.1)] ∧
      a' = { tmps := #[cv b off c.n cap, .pointer (some ⟨w.heap.size, 0, none⟩), .int .i64 0, .pointer (some ⟨Bb, 0, none⟩), undef, .pointer (some ⟨Bx, 0, none⟩), .agg #[.slice (some ⟨b, off, none⟩) c.n cap], .int .i64 0, .bool false,
          .agg #[.slice (some ⟨b, off, none⟩) c.n cap], .func (.func 89) #[] #[.pointer (some ⟨Bb + 1, 0, none⟩)], .int .i64 (x.1 : Int), pcv c x.1, undef, undef, undef, undef, undef], defers := [] })
    (fun x a' => Own.from (fun _ A B row hs hg hr => by obtain ⟨Bx, h2, h3⟩ := hs; exact ⟨Bx, boxAt_own (β := Unit) _ _ (fun _ => _) () A B row h2 hg hr, h3⟩) _) ?assign ?body ?done ?stop
  case assign =>
    rintro l pre x W K ⟨h1, hB⟩ hK
    gi_wp2
    exact hK _ _ ((KeepsOthers.alloc _ _).from _) ((Kp2.refl _ _ _).alloc hB.size _) ⟨h1.alloc _, hB.alloc hB.size _⟩ ⟨W.heap.size, BoxAt.new _ _ _, rfl⟩
  case body =>
    rintro l pre x a' W hl hr ⟨hS, hB⟩ ⟨Bx, hbx, rfl⟩ hlt
    have hx2 : x.1 + 1 < c.n := by have := x.2; omega
    have k4 : W.cell? ⟨Bx, 4, none⟩ = some (.int .i64 (c.len x.1)) := hbx.cell 4
    have s0 : W.cell? ⟨Bb, 0, none⟩ = some (.int .i64 (sumL c pre)) := hS.cell 0
    have s1 : W.frozen? ⟨Bb, 0, none⟩ = false := hS.frozen 0
    obtain ⟨b1, b2⟩ := sumL_bd hok pre
    have b3 := Crv.len_nonneg (c := c) x.1
    have b4 := Crv.len_lt hok hx2
    have b5 : sumL c pre ≤ 1006632960 := by omega
    have es := Lib.hid (sumL_snoc c pre x)
    gi_wp2
    exact ⟨(KeepsOthers.setCell _ _ _).from _, (Kp2.refl _ _ _).setCell (p := ⟨Bb, 0, none⟩) (by show w.heap.size ≤ Bb; omega) (by show Bb < Bb + 1; omega) _, by rw [es.out]; exact hS.set 0 _, hB.setCell (p := ⟨Bb, 0, none⟩) (by show w.heap.size ≤ Bb; omega) _⟩
  case done =>
    rintro D ys W hD rfl ⟨hS, hB⟩ hK
    rw [sumL_all] at hS
    have s0 : W.cell? ⟨Bb, 0, none⟩ = some (.int .i64 (c.st (c.n - 1))) := hS.cell 0
    gi_wp2
    refine ⟨by simp, .inl ⟨_, _, rfl, run_takeDeferred hK, ?_⟩⟩
    exact ⟨_, results_tmp rfl _ _ _, rfl, after_loop hB (by omega) hK⟩
  case stop =>
    rintro D cd pre W _ _ h _
    exact h.elim

/-- **Length of a valid curve.** -/
theorem length_good (b off cap : Nat) (c : Crv) (hg : Good c) (w : World) (hp : Pts w b off c.n c.X c.Y) :
    Calls Try.prog 22 #[cv b off c.n cap] w fun e w' => e = .returned (.int .i64 (c.st (c.n - 1))) ∧ Below w.heap.size w w' :=
  callsIn_wide.1 (length_in 3 (Nat.le_refl _) b off cap c hg w hp (hp.lt (by have := hg.lo; omega)))
end Go.Proofs.Ytglkpabcflecmaa
