/- 'At' and 'Piece' of a valid curve. -/
import Derived.Test.YtglkpabcflecmaaPlace
namespace Go.Proofs.Ytglkpabcflecmaa
open Go.RowKit Go.Shelf

/-- The place of the offset s, which lies in the piece j. -/
def atX (c : Crv) (s : Int) (j : Nat) : Int := c.X j + c.wx j * clampT s (c.st j) (c.len j) / c.len j
def atY (c : Crv) (s : Int) (j : Nat) : Int := c.Y j + c.wy j * clampT s (c.st j) (c.len j) / c.len j

theorem two_facts {w w1 : World} {s r : Value} {t t' : TypeId} (hb1 : Below ((w.alloc (.cells #[s] t)).alloc (.cells #[r, r] t')).heap.size ((w.alloc (.cells #[s] t)).alloc (.cells #[r, r] t')) w1) :
    Below w.heap.size w w1 ∧ w.heap.size + 1 + 1 ≤ w1.heap.size ∧ w1.cell? ⟨w.heap.size, 0, none⟩ = some s ∧ w.heap.size < w1.heap.size ∧ Hid (BoxAt w1 (w.heap.size + 1) t' #[r, r]) := by
  have hC : BoxAt w1 w.heap.size t #[s] := BoxAt.below ((BoxAt.new w t #[s]).alloc _) hb1 (by simp; omega)
  have hR := BoxAt.new (w.alloc (.cells #[s] t)) t' #[r, r]
  rw [World.size_alloc] at hR
  have hz : w.heap.size + 1 + 1 ≤ w1.heap.size := by have := hb1.size; simp at this; omega
  exact ⟨(((Below.refl _ w).alloc (Nat.le_refl _) _).alloc (by simp) _).trans (hb1.mono (by simp; omega)), hz, hC.cell 0, by omega, hR.below hb1 (by simp)⟩

theorem two_far {w : World} {g g' i : Nat} (x y : Value) (h : g' ≠ g) (a b : Nat) : ((w.setCell ⟨g', a, none⟩ x).setCell ⟨g', b, none⟩ y).cell? ⟨g, i, none⟩ = w.cell? ⟨g, i, none⟩ :=
  (World.cell?_of_block (Below.heap_setCell _ _ _ _ (Ne.symm h))).trans (World.cell?_of_block (Below.heap_setCell _ _ _ _ (Ne.symm h)))

set_option maxRecDepth 100000 in
set_option maxHeartbeats 2000000 in
theorem at_good (b off cap : Nat) (c : Crv) (hg : Good c) (s : Int) (j : Nat) (hj : InPiece c s j) (hs1 : -9223372036854775808 ≤ s) (hs2 : s ≤ 9223372036854775807) (w : World) (hp : Pts w b off c.n c.X c.Y) :
    Calls Try.prog 31 #[cv b off c.n cap, .int .i64 s] w fun e w' => e = .returned (sp (atX c s j) (atY c s j)) ∧ Below w.heap.size w w' := by
  obtain ⟨hn, hn', hok, _⟩ := id hg
  have hb : b < w.heap.size := hp.lt (by omega)
  have hjl : j + 1 < c.n := by have := hj.lt; omega
  have l1 := (hg.len hjl).2.1
  have l2 := (hg.len hjl).2.2
  have st0 := Crv.st_nonneg (c := c) j
  have st1 := Crv.st_lt hok (i := j) (by omega)
  have sd1 : -9223372036854775808 ≤ s - c.st j := by
    rcases Nat.eq_zero_or_pos j with h | h
    · subst h; simp [Crv.st]; exact hs1
    · have := hj.ge h; omega
  have cl := clampT_bd (s := s) (st := c.st j) (l := c.len j) (by omega)
  have wc := fun W : World => within_any (c.X j) (c.Y j) (c.wx j) (c.wy j) (c.len j) (c.st j) s W (by omega) (by omega) sd1 (by omega)
  have pc := fun W : World => place_any (c.X j) (c.Y j) (c.wx j) (c.wy j) (c.len j) (c.st j) (clampT s (c.st j) (c.len j)) W (hok j (by omega)).1 (hok j (by omega)).2 (Crv.okd_wx hok hjl) (Crv.okd_wy hok hjl) (by omega) (by omega) cl.1 cl.2
  have pc' : ∀ W : World, Calls Try.prog 70 #[.agg (pca c j), .int .i64 (clampT s (c.st j) (c.len j))] W fun e w' => e = .returned (sp (atX c s j) (atY c s j)) ∧ Below W.heap.size W w' := pc
  generalize clampT s (c.st j) (c.len j) = t at *
  generalize atX c s j = ax at *
  generalize atY c s j = ay at *
  have WC := Lib.hid wc
  have PC := Lib.hid pc'
  have hp2 := hp.below (((Below.refl _ w).alloc (Nat.le_refl _) (.cells #[.slice (some ⟨b, off, none⟩) c.n cap] 24)).alloc (by simp) (.cells #[.int .i64 0, .int .i64 0] 43)) hb
  clear wc pc pc' cl sd1 st0 st1 l1 l2
  go_enter Try.func31, Try.ntmps31
  go_wp2_with (first
    | (go_at_call 20; (with_reducible refine (check_good b off cap c hg _ hp2).mono ?_); rintro e w1 ⟨rfl, hb1⟩; obtain ⟨hbw, hz1, cC, hz2, hR⟩ := two_facts hb1; clear hb1; have hp3 := hp.below hbw hb)
    | (go_at_call 68; (with_reducible refine (pieceAt_good b off cap c hg s j hj _ hp3).mono ?_); rintro e w2 ⟨rfl, hb2⟩))
  have hR2 := hR.out.below hb2 (BoxAt.lt hR.out)
  have hR3 := hR2.alloc (.cells (pca c j) 81)
  have hX3 := BoxAt.new w2 81 (pca c j)
  have hB3 : Below w.heap.size w (w2.alloc (.cells (pca c j) 81)) := (hbw.trans (hb2.mono (by omega))).alloc (by have := hb2.size; omega) _
  have hz3 := hR2.lt
  generalize w2.alloc (.cells (pca c j) 81) = w3 at hR3 hX3 hB3 ⊢
  generalize w2.heap.size = g at hX3 hz3 ⊢
  clear hb2 hR2 hR hp3 hz1 cC hz2 hbw hp2 hp hb hok
  have k0 : w3.cell? ⟨g, 0, none⟩ = some (.int .i64 (c.X j)) := hX3.cell 0
  have k1 : w3.cell? ⟨g, 1, none⟩ = some (.int .i64 (c.Y j)) := hX3.cell 1
  have k2 : w3.cell? ⟨g, 2, none⟩ = some (.int .i64 (c.wx j)) := hX3.cell 2
  have k3 : w3.cell? ⟨g, 3, none⟩ = some (.int .i64 (c.wy j)) := hX3.cell 3
  have k4 : w3.cell? ⟨g, 4, none⟩ = some (.int .i64 (c.len j)) := hX3.cell 4
  have k5 : w3.cell? ⟨g, 5, none⟩ = some (.int .i64 (c.st j)) := hX3.cell 5
  have lg := hX3.lt
  go_region_held3 (fun w' => w'.cell? ⟨g, 0, none⟩ = some (.int .i64 (c.X j)) ∧ w'.cell? ⟨g, 1, none⟩ = some (.int .i64 (c.Y j)) ∧ w'.cell? ⟨g, 2, none⟩ = some (.int .i64 (c.wx j)) ∧ w'.cell? ⟨g, 3, none⟩ = some (.int .i64 (c.wy j)) ∧ w'.cell? ⟨g, 4, none⟩ = some (.int .i64 (c.len j)) ∧ w'.cell? ⟨g, 5, none⟩ = some (.int .i64 (c.st j)))
    (first
      | (refine ⟨?_, ?_, ?_, ?_, ?_, ?_⟩ <;> exact (two_far _ _ (by omega) _ _).trans ((hb45.cell (by assumption)).trans (by assumption)))
      | (refine ⟨?_, ?_, ?_, ?_, ?_, ?_⟩ <;> exact (hb45.cell (by assumption)).trans (by assumption))
      | (refine ⟨?_, ?_, ?_, ?_, ?_, ?_⟩ <;> exact (hb4'.cell (by assumption)).trans (by assumption))
      | go_keep)
    (first
      | (go_at_call 69; (with_reducible refine (WC.out _).mono ?_); rintro e w4 ⟨rfl, hb4⟩; have hb4' : Below w3.heap.size w3 w4 := (((Below.refl _ w3).drew).trans hb4); have qR4 : Hid (BoxAt w4 (w.heap.size + 1) 43 #[.int .i64 0, .int .i64 0]) := hR3.below hb4' hR3.lt)
      | (go_at_call 70; (with_reducible refine (PC.out _).mono ?_); rintro e w5 ⟨rfl, hb5⟩; have hb45 : Below w3.heap.size w3 w5 := hb4'.trans (hb5.mono hb4'.size); obtain ⟨qR5, r0, r1, f0, f1⟩ := box2 (hR3) hb45))
  go_wp2
  have hz := ((qR5.out).set 0 (.int .i64 ax)).set 1 (.int .i64 ay)
  have z0 := hz.cell 0
  have z1 := hz.cell 1
  have e : (((#[Value.int .i64 0, Value.int .i64 0] : Array Value).setIfInBounds 0 (.int .i64 ax)).setIfInBounds 1 (.int .i64 ay)) = #[.int .i64 ax, .int .i64 ay] := rfl
  rw [e] at z0 z1
  exact bodyPost_ret (v := sp ax ay) (by simp [results, Try.results31, go_sem, z0, z1]) rfl ⟨rfl, ((hB3.trans (hb45.mono hB3.size)).setCell (p := ⟨w.heap.size + 1, 0, none⟩) (by simp) _).setCell (p := ⟨w.heap.size + 1, 1, none⟩) (by simp) _⟩
end Go.Proofs.Ytglkpabcflecmaa
