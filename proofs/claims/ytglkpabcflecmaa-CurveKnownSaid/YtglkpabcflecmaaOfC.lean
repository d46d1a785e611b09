/- 'of', with what its row has room for. -/
import Derived.Test.YtglkpabcflecmaaAwk2
import Derived.Test.YtglkpabcflecmaaRowX
namespace Go.Proofs.Ytglkpabcflecmaa
open Go.RowKit Go.Shelf

def OfPostC (n : Nat) (X Y : Nat → Int) (w : World) (e : Ending) (w' : World) : Prop := ∃ g c', e = .returned (cv g 0 n c') ∧ Pts w' g 0 n X Y ∧ Below w.heap.size w w' ∧ w.heap.size ≤ g ∧ n ≤ c'

set_option maxRecDepth 100000 in
set_option maxHeartbeats 2000000 in
theorem of_anyc (b n N cap : Nat) (X Y : Nat → Int) (w : World) (hN : Hid (N = 2 * n)) (hn : n ≤ 1000000) (hn0 : 0 < n) (hL : Hid (∀ i, i < n → w.cell? ⟨b, 2 * i, none⟩ = some (.int .i64 (X i)) ∧ w.cell? ⟨b, 2 * i + 1, none⟩ = some (.int .i64 (Y i)))) (hb : b < w.heap.size) :
    Calls Try.prog 55 #[.slice (some ⟨b, 0, none⟩) N cap] w (OfPostC n X Y w) := by
  obtain ⟨i0, hi0, hz0, hz1, hz2⟩ := info_parts Try.info43
  have hNn : N ≤ 2000000 := by have := hN.out; omega
  have hI0 := Lib.hid hi0
  have hZ0 := Lib.hid hz0
  have hZ1 := Lib.hid hz1
  have hZ2 := Lib.hid hz2
  clear hi0 hz0 hz1 hz2
  have sR : BoxAt ((w.alloc (.cells #[.slice none 0 0] 24)).alloc (.cells #[.slice none 0 0] 24)) w.heap.size 24 #[.slice none 0 0] := (BoxAt.new w 24 _).alloc _
  have sC := BoxAt.new (w.alloc (.cells #[.slice none 0 0] 24)) 24 #[.slice none 0 0]
  rw [World.size_alloc] at sC
  have hB0 : Below w.heap.size w ((w.alloc (.cells #[.slice none 0 0] 24)).alloc (.cells #[.slice none 0 0] 24)) := ((Below.refl _ w).alloc (Nat.le_refl _) _).alloc (by simp) _
  go_enter Try.func55, Try.ntmps55
  go_wp2
  go_loopw [4] (fun i wr => ∃ (m k : Nat) (v : Value), Hid (m = 2 * k) ∧ k ≤ n ∧ i = .int .i64 m ∧ BoxAt wr w.heap.size 24 #[.slice none 0 0] ∧ BoxAt wr (w.heap.size + 1) 24 #[v] ∧ wr.ownsRow w.heap.size 43 2 v k (cellsL X Y k) ∧ Below w.heap.size w wr) (fun i _ => N - (intOf i).toNat)
  case atStart => exact ⟨0, 0, .slice none 0 0, rfl, Nat.zero_le _, rfl, sR, sC, World.ownsRow_nil _ _ _ _, hB0⟩
  case round =>
    obtain ⟨m, k, v, hm, hk, rfl, bR, bC, hown, hB⟩ := hrel
    clear sR sC hB0
    have hm2 : (m : Int) ≤ 2000000 := by have := hm.out; omega
    by_cases hlt : k < n
    · have hmN : m + 1 < N := by have := hm.out; have := hN.out; omega
      have c0 : wr.cell? ⟨b, m, none⟩ = some (.int .i64 (X k)) := by rw [hm.out]; exact (hB.cell (p := ⟨b, 2 * k, none⟩) hb).trans (hL.out k hlt).1
      have c1 : wr.cell? ⟨b, m + 1, none⟩ = some (.int .i64 (Y k)) := by rw [hm.out]; exact (hB.cell (p := ⟨b, 2 * k + 1, none⟩) hb).trans (hL.out k hlt).2
      have cC : wr.cell? ⟨w.heap.size + 1, 0, none⟩ = some v := bC.cell 0
      have i1 : (0 : Int) ≤ (m : Int) := Int.natCast_nonneg _
      have i2 : (m : Int) < (N : Int) := by omega
      have i3 : (0 : Int) ≤ (m : Int) + 1 := by omega
      have i4 : (m : Int) + 1 < (N : Int) := by omega
      have i5 : IntKind.i64.wrap ((m : Int) + 1) = (m : Int) + 1 := IntWalk.i64_in _ (by omega)
      have i6 : ((m : Int) + 1).toNat = m + 1 := by omega
      have ab : v.ownBlock ≠ some b := fun e => by have := (hown.lt b e).1; omega
      have aC : v.ownBlock ≠ some (w.heap.size + 1) := fun e => by
        rcases hown.2 with ⟨rfl, _⟩ | ⟨g, cap', cur, rfl, _, hgb, _⟩
        · simp [Value.ownBlock] at e
        · obtain rfl : g = w.heap.size + 1 := by simpa [Value.ownBlock] using e
          have := (show wr.heap[w.heap.size + 1]? = _ from bC).symm.trans hgb
          simp at this
      have aR0 : Hid (v.ownBlock ≠ some w.heap.size) := fun e => by
        rcases hown.2 with ⟨rfl, _⟩ | ⟨g, cap', cur, rfl, _, hgb, _⟩
        · simp [Value.ownBlock] at e
        · obtain rfl : g = w.heap.size := by simpa [Value.ownBlock] using e
          have := (show wr.heap[w.heap.size]? = _ from bR).symm.trans hgb
          simp at this
      have l1 := World.block_lt_of_cell? wr _ c0
      have l2 := bC.lt
      have hbs := hB.size
      go_wp2
      go_region_law
        ((refine step_append_lies _ (by rfl) _ _ _ (by rfl) w.heap.size 43 i0 _ 2 16 Try.underlying22 hI0.out hZ0.out hZ1.out hZ2.out rfl (by omega) v k (cellsL X Y k) (by rfl) ((hown.alloc _).drew)
            ⟨wr.heap.size, 0, none⟩ 1 1 [.int .i64 (X k), .int .i64 (Y k)] (by rfl) (by rfl) (World.news_of_block (cs := #[.int .i64 (X k), .int .i64 (Y k)]) (t := 43) (fr := (0, 0)) (heap_alloc_new wr _)) (by simp [Value.oneCell'])
            (by omega) (by unfold maxLen; omega) (by omega) (by simp; omega) (wr.heap.size + 1) (by simp) ?_; intro gg cap1 w1 hown1 hgrow hat hlt1; have bC1 : Hid (BoxAt w1 (w.heap.size + 1) 24 #[v]) := (((bC.alloc _).drew).grown hgrow (Ne.symm aC)); have fC1 : w1.frozen? ⟨w.heap.size + 1, 0, none⟩ = false := BoxAt.frozen bC1.out 0; have cC1 : w1.cell? ⟨w.heap.size + 1, 0, none⟩ = some v := BoxAt.cell bC1.out 0))
      all_goals
        have aR : v.ownBlock ≠ some w.heap.size := aR0.out
        have bR1 : BoxAt w1 w.heap.size 24 #[.slice none 0 0] := ((bR.alloc _).drew).grown hgrow (Ne.symm aR)
        have hgC : gg ≠ w.heap.size + 1 := by
          rcases hat with h | h
          · intro e; rw [e] at h; exact aC h
          · omega
        have hm' : Hid (m + 2 = 2 * (k + 1)) := by have := hm.out; show m + 2 = 2 * (k + 1); omega
        have hB1 : Below w.heap.size w w1 := (((hB.alloc hbs _).drew).grown hgrow (by simp; omega) (fun g e => (hown.lt g e).1))
        have OB := Lib.hid hown1
        clear hown1 hat
        go_wp2
        go_roundw
        case rel => exact ⟨m + 2, k + 1, _, hm', by omega, by go_num, bR1.other (by omega) _ _, bC1.out.set 0 _, OB.out.kept (grownBy_setCell' _ _ _) (.inr (by simp [Value.ownBlock]; exact hgC)), hB1.setCell (p := ⟨w.heap.size + 1, 0, none⟩) (by simp) _⟩
        case measure => simp [intOf]; omega
    · have hk' : k = n := by omega
      subst hk'
      have hmN : ¬ (m : Int) + 1 < (N : Int) := by have := hm.out; have := hN.out; omega
      obtain ⟨g, cap', rfl, hg1, hg2⟩ := hown.form hn0
      have cC : wr.cell? ⟨w.heap.size + 1, 0, none⟩ = some (.slice (some ⟨g, 0, none⟩) k cap') := bC.cell 0
      have cR : wr.cell? ⟨w.heap.size, 0, none⟩ = some (.slice none 0 0) := bR.cell 0
      have fR : wr.frozen? ⟨w.heap.size, 0, none⟩ = false := bR.frozen 0
      have hP := Lib.hid (Pts.of_own hown)
      have hO := Lib.hid hown
      clear hown
      go_wp2
      have hz := (bR.set 0 (.slice (some ⟨g, 0, none⟩) k cap'))
      have z0 := hz.cell 0
      have e : ((#[Value.slice none 0 0] : Array Value).setIfInBounds 0 (.slice (some ⟨g, 0, none⟩) k cap')) = #[.slice (some ⟨g, 0, none⟩) k cap'] := rfl
      rw [e] at z0
      have hgne : g ≠ w.heap.size := fun e => by
        subst e
        rcases hO.out.2 with ⟨h, _⟩ | ⟨g, c1, cur, h, _, hgb, _⟩
        · cases h
        · cases h
          have := (show wr.heap[w.heap.size]? = _ from bR).symm.trans hgb
          simp at this
      have hP2 : Pts (wr.setCell ⟨w.heap.size, 0, none⟩ (.slice (some ⟨g, 0, none⟩) k cap')) g 0 k X Y := fun i hi => by
        have h1 := hP.out i hi
        have far : ∀ j, (wr.setCell ⟨w.heap.size, 0, none⟩ (.slice (some ⟨g, 0, none⟩) k cap')).cell? ⟨g, j, none⟩ = wr.cell? ⟨g, j, none⟩ := fun j => World.cell?_of_block (Below.heap_setCell _ _ _ _ hgne)
        exact ⟨(far _).trans h1.1, (far _).trans h1.2⟩
      exact bodyPost_ret (v := cv g 0 k cap') (by simp [results, Try.results55, go_sem, z0]) rfl ⟨g, cap', rfl, hP2, hB.setCell (p := ⟨w.heap.size, 0, none⟩) (by simp) _, hg1, (row_at hO.out).2⟩
end Go.Proofs.Ytglkpabcflecmaa
