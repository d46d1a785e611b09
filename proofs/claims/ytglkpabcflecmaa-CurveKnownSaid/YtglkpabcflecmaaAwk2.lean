/- 'At' and 'Piece' of a valid curve. -/
/- 'of', 'bent', 'awake'. -/
/- 'bent', 'awake'. -/
import Derived.Test.YtglkpabcflecmaaPlace
import Derived.Deep.AppendLies
import Derived.Deep.RegionLaw
namespace Go.Proofs.Ytglkpabcflecmaa
open Go.RowKit Go.Shelf

/-- The place of the offset s, which lies in the piece j. -/
def atX (c : Crv) (s : Int) (j : Nat) : Int := c.X j + c.wx j * clampT s (c.st j) (c.len j) / c.len j
def atY (c : Crv) (s : Int) (j : Nat) : Int := c.Y j + c.wy j * clampT s (c.st j) (c.len j) / c.len j

theorem two_facts {w w1 : World} {s r : Value} {t t' : TypeId} (hb1 : Below ((w.alloc (.cells #[s] t)).alloc (.cells #[r, r] t')).heap.size ((w.alloc (.cells #[s] t)).alloc (.cells #[r, r] t')) w1) :
    Below w.heap.size w w1 ∧ w.heap.size + 1 + 1 ≤ w1.heap.size ∧ w1.cell? ⟨w.heap.size, 0, none⟩ = some s ∧ w.heap.size < w1.heap.size ∧ Hid (BoxAt w1 (w.heap.size + 1) t' #[r, r]) := by
  have hC : BoxAt w1 w.heap.size t #[s] := BoxAt.below ((BoxAt.new w t #[s]).alloc _) hb1 (by simp; omega)
  have hR := BoxAt.new (w.alloc (.cells #[s] t)) t' #[r, r]
  rw [World.size_alloc] at hR
  have hz : w.heap.size + 1 + 1 ≤ w1.heap.size := by have := hb1.size; simp at this; omega
  exact ⟨(((Below.refl _ w).alloc (Nat.le_refl _) _).alloc (by simp) _).trans (hb1.mono (by simp; omega)), hz, hC.cell 0, by omega, hR.below hb1 (by simp)⟩

theorem two_far {w : World} {g g' i : Nat} (x y : Value) (h : g' ≠ g) (a b : Nat) : ((w.setCell ⟨g', a, none⟩ x).setCell ⟨g', b, none⟩ y).cell? ⟨g, i, none⟩ = w.cell? ⟨g, i, none⟩ :=
  (World.cell?_of_block (Below.heap_setCell _ _ _ _ (Ne.symm h))).trans (World.cell?_of_block (Below.heap_setCell _ _ _ _ (Ne.symm h)))

set_option maxRecDepth 100000 in
set_option maxHeartbeats 2000000 in
theorem at_good (b off cap : Nat) (c : Crv) (hg : Good c) (s : Int) (j : Nat) (hj : InPiece c s j) (hs1 : -9223372036854775808 ≤ s) (hs2 : s ≤ 9223372036854775807) (w : World) (hp : Pts w b off c.n c.X c.Y) :
    Calls Try.prog 31 #[cv b off c.n cap, .int .i64 s] w fun e w' => e = .returned (sp (atX c s j) (atY c s j)) ∧ Below w.heap.size w w' := by
  obtain ⟨hn, hn', hok, _⟩ := id hg
  have hb : b < w.heap.size := hp.lt (by omega)
  have hjl : j + 1 < c.n := by have := hj.lt; omega
  have l1 := (hg.len hjl).2.1
  have l2 := (hg.len hjl).2.2
  have st0 := Crv.st_nonneg (c := c) j
  have st1 := Crv.st_lt hok (i := j) (by omega)
  have sd1 : -9223372036854775808 ≤ s - c.st j := by
    rcases Nat.eq_zero_or_pos j with h | h
    · subst h; simp [Crv.st]; exact hs1
    · have := hj.ge h; omega
  have cl := clampT_bd (s := s) (st := c.st j) (l := c.len j) (by omega)
  have wc := fun W : World => within_any (c.X j) (c.Y j) (c.wx j) (c.wy j) (c.len j) (c.st j) s W (by omega) (by omega) sd1 (by omega)
  have pc := fun W : World => place_any (c.X j) (c.Y j) (c.wx j) (c.wy j) (c.len j) (c.st j) (clampT s (c.st j) (c.len j)) W (hok j (by omega)).1 (hok j (by omega)).2 (Crv.okd_wx hok hjl) (Crv.okd_wy hok hjl) (by omega) (by omega) cl.1 cl.2
  have pc' : ∀ W : World, Calls Try.prog 70 #[.agg (pca c j), .int .i64 (clampT s (c.st j) (c.len j))] W fun e w' => e = .returned (sp (atX c s j) (atY c s j)) ∧ Below W.heap.size W w' := pc
  generalize clampT s (c.st j) (c.len j) = t at *
  generalize atX c s j = ax at *
  generalize atY c s j = ay at *
  have WC := Lib.hid wc
  have PC := Lib.hid pc'
  have hp2 := hp.below (((Below.refl _ w).alloc (Nat.le_refl _) (.cells #[.slice (some ⟨b, off, none⟩) c.n cap] 24)).alloc (by simp) (.cells #[.int .i64 0, .int .i64 0] 43)) hb
  clear wc pc pc' cl sd1 st0 st1 l1 l2
  go_enter Try.func31, Try.ntmps31
  go_wp2_with (first
    | (go_at_call 20; (with_reducible refine (check_good b off cap c hg _ hp2).mono ?_); rintro e w1 ⟨rfl, hb1⟩; obtain ⟨hbw, hz1, cC, hz2, hR⟩ := two_facts hb1; clear hb1; have hp3 := hp.below hbw hb)
    | (go_at_call 68; (with_reducible refine (pieceAt_good b off cap c hg s j hj _ hp3).mono ?_); rintro e w2 ⟨rfl, hb2⟩))
  have hR2 := hR.out.below hb2 (BoxAt.lt hR.out)
  have hR3 := hR2.alloc (.cells (pca c j) 81)
  have hX3 := BoxAt.new w2 81 (pca c j)
  have hB3 : Below w.heap.size w (w2.alloc (.cells (pca c j) 81)) := (hbw.trans (hb2.mono (by omega))).alloc (by have := hb2.size; omega) _
  have hz3 := hR2.lt
  generalize w2.alloc (.cells (pca c j) 81) = w3 at hR3 hX3 hB3 ⊢
  generalize w2.heap.size = g at hX3 hz3 ⊢
  clear hb2 hR2 hR hp3 hz1 cC hz2 hbw hp2 hp hb hok
  have k0 : w3.cell? ⟨g, 0, none⟩ = some (.int .i64 (c.X j)) := hX3.cell 0
  have k1 : w3.cell? ⟨g, 1, none⟩ = some (.int .i64 (c.Y j)) := hX3.cell 1
  have k2 : w3.cell? ⟨g, 2, none⟩ = some (.int .i64 (c.wx j)) := hX3.cell 2
  have k3 : w3.cell? ⟨g, 3, none⟩ = some (.int .i64 (c.wy j)) := hX3.cell 3
  have k4 : w3.cell? ⟨g, 4, none⟩ = some (.int .i64 (c.len j)) := hX3.cell 4
  have k5 : w3.cell? ⟨g, 5, none⟩ = some (.int .i64 (c.st j)) := hX3.cell 5
  have lg := hX3.lt
  go_region_held3 (fun w' => w'.cell? ⟨g, 0, none⟩ = some (.int .i64 (c.X j)) ∧ w'.cell? ⟨g, 1, none⟩ = some (.int .i64 (c.Y j)) ∧ w'.cell? ⟨g, 2, none⟩ = some (.int .i64 (c.wx j)) ∧ w'.cell? ⟨g, 3, none⟩ = some (.int .i64 (c.wy j)) ∧ w'.cell? ⟨g, 4, none⟩ = some (.int .i64 (c.len j)) ∧ w'.cell? ⟨g, 5, none⟩ = some (.int .i64 (c.st j)))
    (first
      | (refine ⟨?_, ?_, ?_, ?_, ?_, ?_⟩ <;> exact (two_far _ _ (by omega) _ _).trans ((hb45.cell (by assumption)).trans (by assumption)))
      | (refine ⟨?_, ?_, ?_, ?_, ?_, ?_⟩ <;> exact (hb45.cell (by assumption)).trans (by assumption))
      | (refine ⟨?_, ?_, ?_, ?_, ?_, ?_⟩ <;> exact (hb4'.cell (by assumption)).trans (by assumption))
      | go_keep)
    (first
      | (go_at_call 69; (with_reducible refine (WC.out _).mono ?_); rintro e w4 ⟨rfl, hb4⟩; have hb4' : Below w3.heap.size w3 w4 := (((Below.refl _ w3).drew).trans hb4); have qR4 : Hid (BoxAt w4 (w.heap.size + 1) 43 #[.int .i64 0, .int .i64 0]) := hR3.below hb4' hR3.lt)
      | (go_at_call 70; (with_reducible refine (PC.out _).mono ?_); rintro e w5 ⟨rfl, hb5⟩; have hb45 : Below w3.heap.size w3 w5 := hb4'.trans (hb5.mono hb4'.size); obtain ⟨qR5, r0, r1, f0, f1⟩ := box2 (hR3) hb45))
  go_wp2
  have hz := ((qR5.out).set 0 (.int .i64 ax)).set 1 (.int .i64 ay)
  have z0 := hz.cell 0
  have z1 := hz.cell 1
  have e : (((#[Value.int .i64 0, Value.int .i64 0] : Array Value).setIfInBounds 0 (.int .i64 ax)).setIfInBounds 1 (.int .i64 ay)) = #[.int .i64 ax, .int .i64 ay] := rfl
  rw [e] at z0 z1
  exact bodyPost_ret (v := sp ax ay) (by simp [results, Try.results31, go_sem, z0, z1]) rfl ⟨rfl, ((hB3.trans (hb45.mono hB3.size)).setCell (p := ⟨w.heap.size + 1, 0, none⟩) (by simp) _).setCell (p := ⟨w.heap.size + 1, 1, none⟩) (by simp) _⟩
end Go.Proofs.Ytglkpabcflecmaa

namespace Go.Proofs.Ytglkpabcflecmaa
open Go.RowKit Go.Shelf

theorem Try.info43 : (Try.prog.info? 43).map (fun i => (i.zero, i.size, i.bytes)) = some (some (.agg #[.int .i64 0, .int .i64 0]), 2, 16) := by kernel_rfl

/-- The cells of the first k spots. -/
def cellsL (X Y : Nat → Int) : Nat → List Value
  | 0 => []
  | k + 1 => cellsL X Y k ++ [.int .i64 (X k), .int .i64 (Y k)]
theorem cellsL_length (X Y : Nat → Int) (k : Nat) : (cellsL X Y k).length = k * 2 := by induction k with | zero => rfl | succ k ih => simp [cellsL, ih]; omega
theorem cellsL_get (X Y : Nat → Int) {k i : Nat} (h : i < k) : (cellsL X Y k)[i * 2]? = some (.int .i64 (X i)) ∧ (cellsL X Y k)[i * 2 + 1]? = some (.int .i64 (Y i)) := by
  induction k with
  | zero => omega
  | succ k ih =>
    have hl := cellsL_length X Y k
    unfold cellsL
    rcases Nat.lt_or_ge i k with h' | h'
    · obtain ⟨a, b⟩ := ih h'
      exact ⟨by rw [List.getElem?_append_left (by omega)]; exact a, by rw [List.getElem?_append_left (by omega)]; exact b⟩
    · obtain rfl : i = k := by omega
      exact ⟨by rw [List.getElem?_append_right (by omega), hl]; simp, by rw [List.getElem?_append_right (by omega), hl]; simp⟩
/-- A row that a call owns, as spots. -/
theorem Pts.of_own {w : World} {base g k cap : Nat} {X Y : Nat → Int} (h : w.ownsRow base 43 2 (.slice (some ⟨g, 0, none⟩) k cap) k (cellsL X Y k)) : Pts w g 0 k X Y := by
  intro i hi
  obtain ⟨a, b⟩ := cellsL_get X Y hi
  have add : ∀ j, (⟨g, 0, none⟩ : Addr).add j = ⟨g, 0 + j, none⟩ := fun j => by unfold Addr.add; split <;> simp_all
  have h1 := h.cells (g := g) rfl _ _ a
  have h2 := h.cells (g := g) rfl _ _ b
  rw [add] at h1 h2
  exact ⟨h1, by rw [show 0 + i * 2 + 1 = 0 + (i * 2 + 1) by omega]; exact h2⟩

def OfPost (n : Nat) (X Y : Nat → Int) (w : World) (e : Ending) (w' : World) : Prop := ∃ g c', e = .returned (cv g 0 n c') ∧ Pts w' g 0 n X Y ∧ Below w.heap.size w w' ∧ w.heap.size ≤ g

set_option maxRecDepth 100000 in
set_option maxHeartbeats 2000000 in
theorem of_any (b n N cap : Nat) (X Y : Nat → Int) (w : World) (hN : Hid (N = 2 * n)) (hn : n ≤ 1000000) (hn0 : 0 < n) (hL : Hid (∀ i, i < n → w.cell? ⟨b, 2 * i, none⟩ = some (.int .i64 (X i)) ∧ w.cell? ⟨b, 2 * i + 1, none⟩ = some (.int .i64 (Y i)))) (hb : b < w.heap.size) :
    Calls Try.prog 55 #[.slice (some ⟨b, 0, none⟩) N cap] w (OfPost n X Y w) := by
  obtain ⟨i0, hi0, hz0, hz1, hz2⟩ := info_parts Try.info43
  have hNn : N ≤ 2000000 := by have := hN.out; omega
  have hI0 := Lib.hid hi0
  have hZ0 := Lib.hid hz0
  have hZ1 := Lib.hid hz1
  have hZ2 := Lib.hid hz2
  clear hi0 hz0 hz1 hz2
  have sR : BoxAt ((w.alloc (.cells #[.slice none 0 0] 24)).alloc (.cells #[.slice none 0 0] 24)) w.heap.size 24 #[.slice none 0 0] := (BoxAt.new w 24 _).alloc _
  have sC := BoxAt.new (w.alloc (.cells #[.slice none 0 0] 24)) 24 #[.slice none 0 0]
  rw [World.size_alloc] at sC
  have hB0 : Below w.heap.size w ((w.alloc (.cells #[.slice none 0 0] 24)).alloc (.cells #[.slice none 0 0] 24)) := ((Below.refl _ w).alloc (Nat.le_refl _) _).alloc (by simp) _
  go_enter Try.func55, Try.ntmps55
  go_wp2
  go_loopw [4] (fun i wr => ∃ (m k : Nat) (v : Value), Hid (m = 2 * k) ∧ k ≤ n ∧ i = .int .i64 m ∧ BoxAt wr w.heap.size 24 #[.slice none 0 0] ∧ BoxAt wr (w.heap.size + 1) 24 #[v] ∧ wr.ownsRow w.heap.size 43 2 v k (cellsL X Y k) ∧ Below w.heap.size w wr) (fun i _ => N - (intOf i).toNat)
  case atStart => exact ⟨0, 0, .slice none 0 0, rfl, Nat.zero_le _, rfl, sR, sC, World.ownsRow_nil _ _ _ _, hB0⟩
  case round =>
    obtain ⟨m, k, v, hm, hk, rfl, bR, bC, hown, hB⟩ := hrel
    clear sR sC hB0
    have hm2 : (m : Int) ≤ 2000000 := by have := hm.out; omega
    by_cases hlt : k < n
    · have hmN : m + 1 < N := by have := hm.out; have := hN.out; omega
      have c0 : wr.cell? ⟨b, m, none⟩ = some (.int .i64 (X k)) := by rw [hm.out]; exact (hB.cell (p := ⟨b, 2 * k, none⟩) hb).trans (hL.out k hlt).1
      have c1 : wr.cell? ⟨b, m + 1, none⟩ = some (.int .i64 (Y k)) := by rw [hm.out]; exact (hB.cell (p := ⟨b, 2 * k + 1, none⟩) hb).trans (hL.out k hlt).2
      have cC : wr.cell? ⟨w.heap.size + 1, 0, none⟩ = some v := bC.cell 0
      have i1 : (0 : Int) ≤ (m : Int) := Int.natCast_nonneg _
      have i2 : (m : Int) < (N : Int) := by omega
      have i3 : (0 : Int) ≤ (m : Int) + 1 := by omega
      have i4 : (m : Int) + 1 < (N : Int) := by omega
      have i5 : IntKind.i64.wrap ((m : Int) + 1) = (m : Int) + 1 := IntWalk.i64_in _ (by omega)
      have i6 : ((m : Int) + 1).toNat = m + 1 := by omega
      have ab : v.ownBlock ≠ some b := fun e => by have := (hown.lt b e).1; omega
      have aC : v.ownBlock ≠ some (w.heap.size + 1) := fun e => by
        rcases hown.2 with ⟨rfl, _⟩ | ⟨g, cap', cur, rfl, _, hgb, _⟩
        · simp [Value.ownBlock] at e
        · obtain rfl : g = w.heap.size + 1 := by simpa [Value.ownBlock] using e
          have := (show wr.heap[w.heap.size + 1]? = _ from bC).symm.trans hgb
          simp at this
      have aR0 : Hid (v.ownBlock ≠ some w.heap.size) := fun e => by
        rcases hown.2 with ⟨rfl, _⟩ | ⟨g, cap', cur, rfl, _, hgb, _⟩
        · simp [Value.ownBlock] at e
        · obtain rfl : g = w.heap.size := by simpa [Value.ownBlock] using e
          have := (show wr.heap[w.heap.size]? = _ from bR).symm.trans hgb
          simp at this
      have l1 := World.block_lt_of_cell? wr _ c0
      have l2 := bC.lt
      have hbs := hB.size
      go_wp2
      go_region_law
        ((refine step_append_lies _ (by rfl) _ _ _ (by rfl) w.heap.size 43 i0 _ 2 16 Try.underlying22 hI0.out hZ0.out hZ1.out hZ2.out rfl (by omega) v k (cellsL X Y k) (by rfl) ((hown.alloc _).drew)
            ⟨wr.heap.size, 0, none⟩ 1 1 [.int .i64 (X k), .int .i64 (Y k)] (by rfl) (by rfl) (World.news_of_block (cs := #[.int .i64 (X k), .int .i64 (Y k)]) (t := 43) (fr := (0, 0)) (heap_alloc_new wr _)) (by simp [Value.oneCell'])
            (by omega) (by unfold maxLen; omega) (by omega) (by simp; omega) (wr.heap.size + 1) (by simp) ?_; intro gg cap1 w1 hown1 hgrow hat hlt1; have bC1 : Hid (BoxAt w1 (w.heap.size + 1) 24 #[v]) := (((bC.alloc _).drew).grown hgrow (Ne.symm aC)); have fC1 : w1.frozen? ⟨w.heap.size + 1, 0, none⟩ = false := BoxAt.frozen bC1.out 0; have cC1 : w1.cell? ⟨w.heap.size + 1, 0, none⟩ = some v := BoxAt.cell bC1.out 0))
      all_goals
        have aR : v.ownBlock ≠ some w.heap.size := aR0.out
        have bR1 : BoxAt w1 w.heap.size 24 #[.slice none 0 0] := ((bR.alloc _).drew).grown hgrow (Ne.symm aR)
        have hgC : gg ≠ w.heap.size + 1 := by
          rcases hat with h | h
          · intro e; rw [e] at h; exact aC h
          · omega
        have hm' : Hid (m + 2 = 2 * (k + 1)) := by have := hm.out; show m + 2 = 2 * (k + 1); omega
        have hB1 : Below w.heap.size w w1 := (((hB.alloc hbs _).drew).grown hgrow (by simp; omega) (fun g e => (hown.lt g e).1))
        have OB := Lib.hid hown1
        clear hown1 hat
        go_wp2
        go_roundw
        case rel => exact ⟨m + 2, k + 1, _, hm', by omega, by go_num, bR1.other (by omega) _ _, bC1.out.set 0 _, OB.out.kept (grownBy_setCell' _ _ _) (.inr (by simp [Value.ownBlock]; exact hgC)), hB1.setCell (p := ⟨w.heap.size + 1, 0, none⟩) (by simp) _⟩
        case measure => simp [intOf]; omega
    · have hk' : k = n := by omega
      subst hk'
      have hmN : ¬ (m : Int) + 1 < (N : Int) := by have := hm.out; have := hN.out; omega
      obtain ⟨g, cap', rfl, hg1, hg2⟩ := hown.form hn0
      have cC : wr.cell? ⟨w.heap.size + 1, 0, none⟩ = some (.slice (some ⟨g, 0, none⟩) k cap') := bC.cell 0
      have cR : wr.cell? ⟨w.heap.size, 0, none⟩ = some (.slice none 0 0) := bR.cell 0
      have fR : wr.frozen? ⟨w.heap.size, 0, none⟩ = false := bR.frozen 0
      have hP := Lib.hid (Pts.of_own hown)
      have hO := Lib.hid hown
      clear hown
      go_wp2
      have hz := (bR.set 0 (.slice (some ⟨g, 0, none⟩) k cap'))
      have z0 := hz.cell 0
      have e : ((#[Value.slice none 0 0] : Array Value).setIfInBounds 0 (.slice (some ⟨g, 0, none⟩) k cap')) = #[.slice (some ⟨g, 0, none⟩) k cap'] := rfl
      rw [e] at z0
      have hgne : g ≠ w.heap.size := fun e => by
        subst e
        rcases hO.out.2 with ⟨h, _⟩ | ⟨g, c1, cur, h, _, hgb, _⟩
        · cases h
        · cases h
          have := (show wr.heap[w.heap.size]? = _ from bR).symm.trans hgb
          simp at this
      have hP2 : Pts (wr.setCell ⟨w.heap.size, 0, none⟩ (.slice (some ⟨g, 0, none⟩) k cap')) g 0 k X Y := fun i hi => by
        have h1 := hP.out i hi
        have far : ∀ j, (wr.setCell ⟨w.heap.size, 0, none⟩ (.slice (some ⟨g, 0, none⟩) k cap')).cell? ⟨g, j, none⟩ = wr.cell? ⟨g, j, none⟩ := fun j => World.cell?_of_block (Below.heap_setCell _ _ _ _ hgne)
        exact ⟨(far _).trans h1.1, (far _).trans h1.2⟩
      exact bodyPost_ret (v := cv g 0 k cap') (by simp [results, Try.results55, go_sem, z0]) rfl ⟨g, cap', rfl, hP2, hB.setCell (p := ⟨w.heap.size, 0, none⟩) (by simp) _, hg1⟩
end Go.Proofs.Ytglkpabcflecmaa

namespace Go.Proofs.Ytglkpabcflecmaa
open Go.RowKit Go.Shelf

def BX (i : Nat) : Int := if i = 0 then 0 else if i = 1 then 3000 else 8000
def BY (i : Nat) : Int := if i = 0 then 0 else 4000
def crvB : Crv := ⟨3, BX, BY⟩
def CX (i : Nat) : Int := if i = 0 then 0 else 1000
def crvC : Crv := ⟨2, CX, CX⟩

theorem B_len0 : crvB.len 0 = 5000 := isqI_uniq (by decide) (by decide) (by decide)
theorem B_len1 : crvB.len 1 = 5000 := isqI_uniq (by decide) (by decide) (by decide)
theorem C_len0 : crvC.len 0 = 1414 := isqI_uniq (by decide) (by decide) (by decide)
theorem B_ok : crvB.AllOk := by
  intro i hi
  have : i = 0 ∨ i = 1 ∨ i = 2 := by simp only [crvB] at hi; omega
  rcases this with rfl | rfl | rfl <;> simp [crvB, BX, BY, okc]
theorem C_ok : crvC.AllOk := by
  intro i hi
  have : i = 0 ∨ i = 1 := by simp only [crvC] at hi; omega
  rcases this with rfl | rfl <;> simp [crvC, CX, okc]
theorem B_good : Good crvB := by
  refine ⟨by decide, by decide, B_ok, fun i hi => ?_⟩
  have : i = 0 ∨ i = 1 := by simp only [crvB] at hi; omega
  rcases this with rfl | rfl
  · unfold Crv.ferr Crv.perr; rw [B_len0]; decide
  · unfold Crv.ferr Crv.perr; rw [B_len1]; decide
theorem B_st : crvB.st 2 = 10000 := by show 0 + crvB.len 0 + crvB.len 1 = 10000; rw [B_len0, B_len1]; decide
theorem B_in : InPiece crvB 2500 0 := ⟨by decide, fun h => by omega, fun _ => by show 2500 < 0 + crvB.len 0; rw [B_len0]; decide⟩
theorem B_atX : atX crvB 2500 0 = 1500 := by unfold atX; rw [B_len0]; decide
theorem B_atY : atY crvB 2500 0 = 2000 := by unfold atY; rw [B_len0]; decide
theorem C_err : firstE crvC.ferr (crvC.n - 1) = 3 := by
  show (if firstE crvC.ferr 0 ≠ 0 then firstE crvC.ferr 0 else crvC.ferr 0) = 3
  have e : crvC.ferr 0 = 3 := by unfold Crv.ferr Crv.perr; rw [C_len0]; decide
  rw [e]; rfl

theorem of_bent (b : Nat) (w : World) (hb : BoxAt w b 2 #[.int .i64 0, .int .i64 0, .int .i64 3000, .int .i64 4000, .int .i64 8000, .int .i64 4000]) (cap : Nat) :
    Calls Try.prog 55 #[.slice (some ⟨b, 0, none⟩) 6 cap] w (OfPost 3 BX BY w) := by
  refine of_any b 3 6 cap BX BY w rfl (by decide) (by decide) (fun i hi => ?_) hb.lt
  have : i = 0 ∨ i = 1 ∨ i = 2 := by omega
  rcases this with rfl | rfl | rfl
  · exact ⟨hb.cell 0, hb.cell 1⟩
  · exact ⟨hb.cell 2, hb.cell 3⟩
  · exact ⟨hb.cell 4, hb.cell 5⟩
theorem of_right (b : Nat) (w : World) (hb : BoxAt w b 2 #[.int .i64 0, .int .i64 0, .int .i64 1000, .int .i64 1000]) (cap : Nat) :
    Calls Try.prog 55 #[.slice (some ⟨b, 0, none⟩) 4 cap] w (OfPost 2 CX CX w) := by
  refine of_any b 2 4 cap CX CX w rfl (by decide) (by decide) (fun i hi => ?_) hb.lt
  have : i = 0 ∨ i = 1 := by omega
  rcases this with rfl | rfl
  · exact ⟨hb.cell 0, hb.cell 1⟩
  · exact ⟨hb.cell 2, hb.cell 3⟩

theorem below_step {w W W1 : World} (h : Below w.heap.size w W) (hb : Below W.heap.size W W1) : Below w.heap.size w W1 := h.trans (hb.mono h.size)
theorem below_step2 {w W W1 : World} {o : Obj} (h : Below w.heap.size w W) (hb : Below (W.alloc o).heap.size (W.alloc o) W1) : Below w.heap.size w W1 :=
  below_step (h.alloc h.size o) hb

set_option maxRecDepth 100000 in
set_option maxHeartbeats 1000000 in
theorem bent_any (w : World) : Calls Try.prog 54 #[] w (OfPost 3 BX BY w) := by
  have hx := BoxAt.new (w.alloc (.cells #[.slice none 0 0] 24)) 2 #[.int .i64 0, .int .i64 0, .int .i64 3000, .int .i64 4000, .int .i64 8000, .int .i64 4000]
  rw [World.size_alloc] at hx
  have hr := (BoxAt.new w 24 #[.slice none 0 0]).alloc (.cells #[.int .i64 0, .int .i64 0, .int .i64 3000, .int .i64 4000, .int .i64 8000, .int .i64 4000] 2)
  have hB : Below w.heap.size w ((w.alloc (.cells #[.slice none 0 0] 24)).alloc (.cells #[.int .i64 0, .int .i64 0, .int .i64 3000, .int .i64 4000, .int .i64 8000, .int .i64 4000] 2)) := ((Below.refl _ w).alloc (Nat.le_refl _) _).alloc (by simp) _
  go_enter Try.func54, Try.ntmps54
  go_wp2_with (go_at_call 55; (with_reducible refine (of_bent _ _ hx _).mono ?_); rintro e w1 ⟨g, c', rfl, hp, hb1, hg⟩; have r1 : Hid (BoxAt w1 w.heap.size 24 #[.slice none 0 0]) := hr.below hb1 (by simp; omega); have r2 : w1.cell? ⟨w.heap.size, 0, none⟩ = some (.slice none 0 0) := BoxAt.cell r1.out 0; have r3 : w1.frozen? ⟨w.heap.size, 0, none⟩ = false := BoxAt.frozen r1.out 0)
  have hz := r1.out.set 0 (.slice (some ⟨g, 0, none⟩) 3 c')
  have z0 := hz.cell 0
  have e : ((#[Value.slice none 0 0] : Array Value).setIfInBounds 0 (.slice (some ⟨g, 0, none⟩) 3 c')) = #[.slice (some ⟨g, 0, none⟩) 3 c'] := rfl
  rw [e] at z0
  have hgne : g ≠ w.heap.size := by simp at hg; omega
  have hP2 : Pts (w1.setCell ⟨w.heap.size, 0, none⟩ (.slice (some ⟨g, 0, none⟩) 3 c')) g 0 3 BX BY := fun i hi => by
    have h1 := hp i hi
    have far : ∀ j, (w1.setCell ⟨w.heap.size, 0, none⟩ (.slice (some ⟨g, 0, none⟩) 3 c')).cell? ⟨g, j, none⟩ = w1.cell? ⟨g, j, none⟩ := fun j => World.cell?_of_block (Below.heap_setCell _ _ _ _ hgne)
    exact ⟨(far _).trans h1.1, (far _).trans h1.2⟩
  exact bodyPost_ret (v := cv g 0 3 c') (by simp [results, Try.results54, go_sem, z0]) rfl ⟨g, c', rfl, hP2, (below_step hB hb1).setCell (p := ⟨w.heap.size, 0, none⟩) (by simp) _, by simp at hg; omega⟩

theorem len_bent (g c' : Nat) (W : World) (hp : Pts W g 0 3 BX BY) : Calls Try.prog 22 #[cv g 0 3 c'] W fun e w' => e = .returned (.int .i64 10000) ∧ Below W.heap.size W w' := by
  have := length_good g 0 c' crvB B_good W hp
  rw [show crvB.st (crvB.n - 1) = 10000 from B_st] at this
  exact this
theorem at_bent (g c' : Nat) (W : World) (hp : Pts W g 0 3 BX BY) : Calls Try.prog 31 #[cv g 0 3 c', .int .i64 2500] W fun e w' => e = .returned (sp 1500 2000) ∧ Below W.heap.size W w' := by
  have := at_good g 0 c' crvB B_good 2500 0 B_in (by omega) (by omega) W hp
  rw [B_atX, B_atY] at this
  exact this
theorem check_right (g c' : Nat) (W : World) (hp : Pts W g 0 2 CX CX) : Calls Try.prog 20 #[cv g 0 2 c'] W fun e w' => e = .returned (.int .i64 3) ∧ Below W.heap.size W w' := by
  have := check_ok g 0 c' crvC (by decide) (by decide) C_ok W hp
  rw [C_err] at this
  exact this

set_option maxRecDepth 100000 in
set_option maxHeartbeats 1000000 in
/-- **The chapter's examples that every statement asks.** -/
theorem awake_any (w : World) : Calls Try.prog 18 #[] w fun e w' => e = .returned (.bool true) ∧ Below w.heap.size w w' := by
  have hB := Below.refl w.heap.size w
  go_enter Try.func18, Try.ntmps18
  go_wp2_with (first
    | (go_at_call 54; (with_reducible refine (bent_any _).mono ?_); rintro e w1 ⟨g, c', rfl, hp, hb1, hg⟩; replace hB := below_step hB hb1)
    | (go_at_call 22; (with_reducible refine (len_bent _ _ _ hp).mono ?_); rintro e w1 ⟨rfl, hb1⟩; replace hB := below_step hB hb1)
    | (go_at_call 31; (with_reducible refine (at_bent _ _ _ hp).mono ?_); rintro e w1 ⟨rfl, hb1⟩; replace hB := below_step hB hb1)
    | (go_at_call 55; (with_reducible refine (of_right _ _ (BoxAt.new _ 2 _) _).mono ?_); rintro e w1 ⟨g, c', rfl, hp, hb1, hg⟩; replace hB := below_step2 hB hb1)
    | (go_at_call 20; (with_reducible refine (check_right _ _ _ hp).mono ?_); rintro e w1 ⟨rfl, hb1⟩; replace hB := below_step hB hb1))
  go_ret
  exact ⟨rfl, hB⟩
#print axioms awake_any
end Go.Proofs.Ytglkpabcflecmaa

