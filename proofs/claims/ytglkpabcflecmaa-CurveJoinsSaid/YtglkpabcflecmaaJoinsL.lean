/- What the walk of the law CurveJoins leans on: copies, equal curves, new rows, the kit curve with its row; its walks at long curves. -/
import Derived.Test.YtglkpabcflecmaaRowX
import Derived.Test.YtglkpabcflecmaaOwn
import Derived.Test.YtglkpabcflecmaaCks
import Derived.BigQuiet
import Derived.Test.YtglkpabcflecmaaJoinA
import Derived.Deep.AppendSrc
import Derived.Test.YtglkpabcflecmaaRJn
import Derived.Test.YtglkpabcflecmaaPtsL
import Derived.StillTailTactics
namespace Go.Proofs.Ytglkpabcflecmaa
open Go.RowKit Go.Shelf

set_option maxHeartbeats 2000000 in
theorem ownspots_cap (b off n cap : Nat) (X Y : Nat → Int) (hn : 0 < n) (hn' : n ≤ 20) (w : World) (hp : Pts w b off n X Y) :
    Calls Try.prog 58 #[.slice (some ⟨b, off, none⟩) n cap] w fun e w' => ∃ g cap', e = .returned (.slice (some ⟨g, 0, none⟩) n cap') ∧ Pts w' g 0 n X Y ∧ Below w.heap.size w w' ∧ n ≤ cap' := by
  obtain ⟨i0, hi0, hz0, hz1, hz2⟩ := info_parts Try.info43
  have hI0 := Lib.hid hi0
  have hZ0 := Lib.hid hz0
  have hZ1 := Lib.hid hz1
  have hZ2 := Lib.hid hz2
  clear hi0 hz0 hz1 hz2
  have hb := hp.lt hn
  have hE := Lib.hid (empty_row w)
  have hB : Below w.heap.size w (w.alloc (.cells #[] 43)) := (Below.refl _ _).alloc (Nat.le_refl _) _
  have hP := Lib.hid (hp.below hB hb)
  have hnews : Hid (∀ j u, (cellsL X Y n)[j]? = some u → (w.alloc (.cells #[] 43)).cell? ((⟨b, off, none⟩ : Addr).add j) = some u) := by
    intro j u h
    obtain ⟨i, hi, ⟨rfl, rfl⟩ | ⟨rfl, rfl⟩⟩ := cellsL_inv h
    · rw [add_plain]; exact (hP.out i hi).1
    · rw [add_plain, ← Nat.add_assoc]; exact (hP.out i hi).2
  have hone : Hid (∀ u ∈ cellsL X Y n, u.oneCell' = true) := by
    intro u hu
    obtain ⟨j, hj⟩ := List.getElem?_of_mem hu
    obtain ⟨i, hi, ⟨_, rfl⟩ | ⟨_, rfl⟩⟩ := cellsL_inv hj <;> simp [Value.oneCell']
  clear hp
  go_enter Try.func58, Try.ntmps58
  go_wp2_with (at_builtin; refine wpList_append_lies _ rfl _ _ 22 rfl w.heap.size 43 i0 _ 2 16 Try.underlying22 hI0.out hZ0.out hZ1.out hZ2.out rfl (by decide) (.slice (some ⟨w.heap.size, 0, none⟩) 0 0) 0 [] rfl hE.out ⟨b, off, none⟩ n cap (cellsL X Y n) rfl (cellsL_length X Y n) hnews.out hone.out hn (by unfold maxLen; omega) (by omega) (by simp) _ rfl ?_; intro gg cap1 w7 hown7 hgrow hat hlt7)
  rw [Nat.zero_add, List.nil_append] at hown7
  have hP7 := Lib.hid (Pts.of_own hown7)
  have hC7 := Lib.hid (row_at hown7).2
  have hB7 : Below w.heap.size w w7 := hB.grown hgrow (by simp) (fun g e => by simp [Value.ownBlock] at e; omega)
  have e0 : 0 + n = n := Nat.zero_add n
  clear hown7 hat
  go_wp2
  go_ret
  exact ⟨gg, cap1, by simp, hP7.out, hB7, hC7.out⟩
theorem ownspots_caps (A : Option Addr) (n cap : Nat) (X Y : Nat → Int) (hn' : n ≤ 20) (w : World) (h : Spots w A n X Y) :
    Calls Try.prog 58 #[.slice A n cap] w fun e w' => ∃ B cap', e = .returned (.slice B n cap') ∧ Spots w' B n X Y ∧ Below w.heap.size w w' ∧ n ≤ cap' := by
  rcases Nat.eq_zero_or_pos n with rfl | hn
  · refine (ownspots_nil A cap w).mono ?_
    rintro e w' ⟨B, cap', rfl, hb⟩
    exact ⟨B, cap', rfl, fun h => absurd h (by omega), hb, Nat.zero_le _⟩
  · obtain ⟨b, off, rfl, hp⟩ := h hn
    refine (ownspots_cap b off n cap X Y hn hn' w hp).mono ?_
    rintro e w' ⟨g, cap', rfl, hp', hb, hc⟩
    exact ⟨_, cap', rfl, fun _ => ⟨g, 0, rfl, hp'⟩, hb, hc⟩

set_option maxHeartbeats 2000000 in
theorem own_cap (A : Option Addr) (n cap : Nat) (X Y : Nat → Int) (hn' : n ≤ 20) (w : World) (h : Spots w A n X Y) :
    Calls Try.prog 19 #[.agg #[.slice A n cap]] w fun e w' => ∃ B cap', e = .returned (.agg #[.slice B n cap']) ∧ Spots w' B n X Y ∧ Below w.heap.size w w' ∧ n ≤ cap' := by
  have hB : Below w.heap.size w ((w.alloc (.cells #[.slice A n cap] 24)).alloc (.cells #[.slice none 0 0] 24)) := ((Below.refl _ w).alloc (Nat.le_refl _) _).alloc (by simp) _
  have hr : BoxAt ((w.alloc (.cells #[.slice A n cap] 24)).alloc (.cells #[.slice none 0 0] 24)) (w.heap.size + 1) 24 #[.slice none 0 0] := by
    have := BoxAt.new (w.alloc (.cells #[.slice A n cap] 24)) 24 #[.slice none 0 0]
    rwa [World.size_alloc] at this
  have HC := Lib.hid (ownspots_caps A n cap X Y hn' _ (h.below hB))
  clear h
  go_enter Try.func19, Try.ntmps19
  go_wp2_with (go_at_call 58; (with_reducible refine HC.out.mono ?_); rintro e w1 ⟨B, cap', rfl, hS, hb1, hcap⟩; have HS := Lib.hid hS; clear hS; have hR := Lib.hid (box_step hr hb1); have r0 := BoxAt.cell hR.out 0; have r1 := BoxAt.frozen hR.out 0; replace hB := below_step hB hb1)
  have hq := BoxAt.cell (BoxAt.set hR.out 0 (.slice B n cap')) 0
  have e1 : ((#[Value.slice none 0 0] : Array Value).setIfInBounds 0 (.slice B n cap')) = #[.slice B n cap'] := rfl
  rw [e1] at hq
  refine bodyPost_ret (v := .agg #[.slice B n cap']) (by simp [results, Try.results19, go_sem, hq]) rfl ⟨B, cap', rfl, ?_, hB.setCell (p := ⟨w.heap.size + 1, 0, none⟩) (by simp) _, hcap⟩
  intro hn
  obtain ⟨b, off, e, hp⟩ := HS.out hn
  refine ⟨b, off, e, ?_⟩
  have hne : b ≠ w.heap.size + 1 := by
    rintro rfl
    have h0 := (hp 0 hn).1
    rw [BoxAt.cell hR.out] at h0
    cases off <;> simp at h0
  intro i hi
  have far : ∀ j, (w1.setCell ⟨w.heap.size + 1, 0, none⟩ (.slice B n cap')).cell? ⟨b, j, none⟩ = w1.cell? ⟨b, j, none⟩ := fun j => World.cell?_of_block (Below.heap_setCell _ _ _ _ hne)
  exact ⟨(far _).trans (hp i hi).1, (far _).trans (hp i hi).2⟩

end Go.Proofs.Ytglkpabcflecmaa
namespace Go.Proofs.Ytglkpabcflecmaa
open Go.RowKit Go.Shelf

/-- Are the first k points equal? -/
def eqK (a b : Crv) : Nat → Bool
  | 0 => true
  | k + 1 => eqK a b k && (decide (a.X k = b.X k) && decide (a.Y k = b.Y k))
def sameB (a b : Crv) : Bool := decide (a.n = b.n) && eqK a b a.n
theorem eqK_no {a b : Crv} {i k : Nat} (hi : i < k) (h : ¬ (a.X i = b.X i ∧ a.Y i = b.Y i)) : eqK a b k = false := by
  induction k with
  | zero => omega
  | succ k ih =>
    unfold eqK
    rcases Nat.lt_or_ge i k with h1 | h1
    · rw [ih h1]; rfl
    · obtain rfl : i = k := by omega
      have : (decide (a.X i = b.X i) && decide (a.Y i = b.Y i)) = false := by
        cases hx : (decide (a.X i = b.X i) && decide (a.Y i = b.Y i)) with
        | false => rfl
        | true => simp at hx; exact absurd hx h
      rw [this]; simp
theorem eqK_self (a : Crv) (k : Nat) : eqK a a k = true := by
  induction k with
  | zero => rfl
  | succ k ih => unfold eqK; rw [ih]; simp
theorem sameB_self (a : Crv) : sameB a a = true := by unfold sameB; rw [eqK_self]; simp

set_option maxRecDepth 100000 in
set_option maxHeartbeats 4000000 in
theorem rsame_any (A1 A2 : Option Addr) (c1 c2 : Nat) (a b : Crv) (ha : a.n ≤ 1000) (w : World) (h1 : Spots w A1 a.n a.X a.Y) (h2 : Spots w A2 b.n b.X b.Y) :
    Calls Try.prog 51 #[.agg #[.slice A1 a.n c1], .agg #[.slice A2 b.n c2]] w fun e w' => e = .returned (.bool (sameB a b)) ∧ Below w.heap.size w w' := by
  have hB : Below w.heap.size w ((w.alloc (.cells #[.slice A1 a.n c1] 24)).alloc (.cells #[.slice A2 b.n c2] 24)) := ((Below.refl _ w).alloc (Nat.le_refl _) _).alloc (by simp) _
  have f1 := (BoxAt.new w 24 #[.slice A1 a.n c1]).alloc (.cells #[.slice A2 b.n c2] 24)
  have f2 := BoxAt.new (w.alloc (.cells #[.slice A1 a.n c1] 24)) 24 #[.slice A2 b.n c2]
  rw [World.size_alloc] at f2
  have HS1 := Lib.hid h1
  have HS2 := Lib.hid h2
  by_cases hn : a.n = b.n
  · have HE : Hid (sameB a b = eqK a b a.n) := by show _ = _; unfold sameB; rw [hn]; simp
    obtain ⟨N, hN⟩ : ∃ N, N = a.n := ⟨_, rfl⟩
    rw [← hN] at HE ha HS1 f1 f2 hB ⊢
    rw [← hn, ← hN] at HS2 f2 f1 hB ⊢
    clear h1 h2 hn hN
    go_enter Try.func51, Try.ntmps51
    go_wp2
    go_loopw [5] (fun i wr => ∃ k : Nat, k ≤ N ∧ i = .int .i64 k ∧ Hid (eqK a b k = true) ∧ BoxAt wr w.heap.size 24 #[.slice A1 N c1] ∧ BoxAt wr (w.heap.size + 1) 24 #[.slice A2 N c2] ∧ Below w.heap.size w wr) (fun i _ => N - (intOf i).toNat)
    case atStart => exact ⟨0, Nat.zero_le _, rfl, rfl, f1, f2, hB⟩
    case round =>
      clear f1 f2 hB
      obtain ⟨k, hk, rfl, HK, f1, f2, hB⟩ := hrel
      have k0 : wr.cell? ⟨w.heap.size, 0, none⟩ = some (.slice A1 N c1) := f1.cell 0
      have k1 : wr.cell? ⟨w.heap.size + 1, 0, none⟩ = some (.slice A2 N c2) := f2.cell 0
      have z1 := f1.lt
      have z2 := f2.lt
      by_cases hlt : k < N
      · obtain ⟨b1, o1, rfl, p1⟩ := HS1.out (by omega)
        obtain ⟨b2, o2, rfl, p2⟩ := HS2.out (by omega)
        obtain ⟨x1, y1⟩ := p1.below hB (p1.lt (by omega)) k hlt
        obtain ⟨x2, y2⟩ := p2.below hB (p2.lt (by omega)) k hlt
        have z3 := World.block_lt_of_cell? wr _ x1
        have z4 := World.block_lt_of_cell? wr _ x2
        have i0 : (0 : Int) ≤ (k : Int) := Int.natCast_nonneg _
        have i1 : (k : Int) < (N : Int) := by omega
        have HSU : Hid (eqK a b (k + 1) = (eqK a b k && (decide (a.X k = b.X k) && decide (a.Y k = b.Y k)))) := rfl
        have HNO : Hid (¬ (a.X k = b.X k ∧ a.Y k = b.Y k) → eqK a b N = false) := fun h => eqK_no hlt h
        clear p1 p2
        generalize a.X k = X1 at *
        generalize a.Y k = Y1 at *
        generalize b.X k = X2 at *
        generalize b.Y k = Y2 at *
        by_cases e : X1 = X2 ∧ Y1 = Y2
        · obtain ⟨rfl, rfl⟩ := e
          have HK2 : Hid (eqK a b (k + 1) = true) := by show _ = _; rw [HSU.out, HK.out]; simp
          go_upto_region 6 with fail
          go_cut [30] from 13 to 30 (fun v w' => v = .bool false ∧ Below wr.heap.size wr w')
          case first =>
            go_quiet (fail)
            go_wp2
            go_meet
            exact ⟨rfl, below_drewN (Below.refl _ _) _⟩
          case rest =>
            obtain ⟨wd, rfl⟩ : ∃ x : World, x = wc := ⟨_, rfl⟩
            obtain ⟨rfl, hbd⟩ := hcut
            have g1 := box_step f1 hbd
            have g2 := box_step f2 hbd
            go_wp2
            go_roundw
            case rel => exact ⟨k + 1, by omega, by go_num, HK2, g1, g2, below_step hB hbd⟩
            case measure => simp [intOf]; omega
        · have HF : Hid (sameB a b = false) := HE.out.trans (HNO.out e)
          by_cases ex : X1 = X2
          · subst ex
            have ey : ¬ Y1 = Y2 := fun h => e ⟨rfl, h⟩
            have ey2 : (Y1 == Y2) = false := by simp [ey]
            clear e
            go_upto_region 6 with fail
            go_cut [30] from 13 to 30 (fun v w' => v = .bool true ∧ Below wr.heap.size wr w')
            case first =>
              go_quiet (fail)
              go_wp2
              go_meet
              exact ⟨by simp [*], below_drewN (Below.refl _ _) _⟩
            case rest =>
              obtain ⟨wd, rfl⟩ : ∃ x : World, x = wc := ⟨_, rfl⟩
              obtain ⟨rfl, hbd⟩ := hcut
              go_wp2
              go_ret
              exact ⟨congrArg (fun z => Ending.returned (.bool z)) HF.out.symm, below_step hB hbd⟩
          · have ex2 : (X1 == X2) = false := by simp [ex]
            clear e
            go_upto_region 6 with fail
            go_cut [30] from 13 to 30 (fun v w' => v = .bool true ∧ Below wr.heap.size wr w')
            case first =>
              go_quiet (fail)
              go_wp2
              go_meet
              exact ⟨by simp [*], below_drewN (Below.refl _ _) _⟩
            case rest =>
              obtain ⟨wd, rfl⟩ : ∃ x : World, x = wc := ⟨_, rfl⟩
              obtain ⟨rfl, hbd⟩ := hcut
              go_wp2
              go_ret
              exact ⟨congrArg (fun z => Ending.returned (.bool z)) HF.out.symm, below_step hB hbd⟩
      · obtain rfl : k = N := by omega
        have i1 : ¬ ((k : Nat) : Int) < (k : Int) := by omega
        have HT : Hid (sameB a b = true) := HE.out.trans HK.out
        go_wp2
        go_ret
        exact ⟨congrArg (fun z => Ending.returned (.bool z)) HT.out.symm, hB⟩
  · have HF : Hid (sameB a b = false) := by show _ = _; unfold sameB; simp [hn]
    have hni : ¬ ((a.n : Int) = (b.n : Int)) := by omega
    have k0 : ((w.alloc (.cells #[.slice A1 a.n c1] 24)).alloc (.cells #[.slice A2 b.n c2] 24)).cell? ⟨w.heap.size, 0, none⟩ = some (.slice A1 a.n c1) := f1.cell 0
    clear h1 h2
    go_enter Try.func51, Try.ntmps51
    go_wp2
    go_ret
    exact ⟨congrArg (fun z => Ending.returned (.bool z)) HF.out.symm, hB⟩
set_option maxRecDepth 100000 in
set_option maxHeartbeats 4000000 in
theorem equal_any (A1 A2 : Option Addr) (c1 c2 : Nat) (a b : Crv) (ha : a.n ≤ 1000) (w : World) (h1 : Spots w A1 a.n a.X a.Y) (h2 : Spots w A2 b.n b.X b.Y) :
    Calls Try.prog 88 #[.slice A1 a.n c1, .slice A2 b.n c2] w fun e w' => e = .returned (.bool (sameB a b)) ∧ Below w.heap.size w w' := by
  have hB : Below w.heap.size w w := Below.refl _ _
  have HS1 := Lib.hid h1
  have HS2 := Lib.hid h2
  by_cases hn : a.n = b.n
  · have HE : Hid (sameB a b = eqK a b a.n) := by show _ = _; unfold sameB; rw [hn]; simp
    obtain ⟨N, hN⟩ : ∃ N, N = a.n := ⟨_, rfl⟩
    rw [← hN] at HE ha HS1 ⊢
    rw [← hn, ← hN] at HS2 ⊢
    clear h1 h2 hn hN
    go_enter Try.func88, Try.ntmps88
    go_wp2
    go_loopw [13] (fun i wr => ∃ k : Nat, k ≤ N ∧ i = .int .i64 k ∧ Hid (eqK a b k = true) ∧ Below w.heap.size w wr) (fun i _ => N - (intOf i).toNat)
    case atStart => exact ⟨0, Nat.zero_le _, rfl, rfl, hB⟩
    case round =>
      clear hB
      obtain ⟨k, hk, rfl, HK, hB⟩ := hrel
      by_cases hlt : k < N
      · obtain ⟨b1, o1, rfl, p1⟩ := HS1.out (by omega)
        obtain ⟨b2, o2, rfl, p2⟩ := HS2.out (by omega)
        obtain ⟨x1, y1⟩ := p1.below hB (p1.lt (by omega)) k hlt
        obtain ⟨x2, y2⟩ := p2.below hB (p2.lt (by omega)) k hlt
        have z3 := World.block_lt_of_cell? wr _ x1
        have z4 := World.block_lt_of_cell? wr _ x2
        have i0 : (0 : Int) ≤ (k : Int) := Int.natCast_nonneg _
        have i1 : (k : Int) < (N : Int) := by omega
        have HSU : Hid (eqK a b (k + 1) = (eqK a b k && (decide (a.X k = b.X k) && decide (a.Y k = b.Y k)))) := rfl
        have HNO : Hid (¬ (a.X k = b.X k ∧ a.Y k = b.Y k) → eqK a b N = false) := fun h => eqK_no hlt h
        clear p1 p2
        generalize a.X k = X1 at *
        generalize a.Y k = Y1 at *
        generalize b.X k = X2 at *
        generalize b.Y k = Y2 at *
        by_cases e : X1 = X2 ∧ Y1 = Y2
        · obtain ⟨rfl, rfl⟩ := e
          have HK2 : Hid (eqK a b (k + 1) = true) := by show _ = _; rw [HSU.out, HK.out]; simp
          go_upto_region 6 with fail
          go_cut [24] from 16 to 24 (fun v w' => v = .bool false ∧ Below wr.heap.size wr w')
          case first =>
            go_quiet (fail)
            go_wp2
            go_meet
            exact ⟨rfl, below_drewN (Below.refl _ _) _⟩
          case rest =>
            obtain ⟨wd, rfl⟩ : ∃ x : World, x = wc := ⟨_, rfl⟩
            obtain ⟨rfl, hbd⟩ := hcut
            go_wp2
            go_roundw
            case rel => exact ⟨k + 1, by omega, by go_num, HK2, below_step hB hbd⟩
            case measure => simp [intOf]; omega
        · have HF : Hid (sameB a b = false) := HE.out.trans (HNO.out e)
          by_cases ex : X1 = X2
          · subst ex
            have ey : ¬ Y1 = Y2 := fun h => e ⟨rfl, h⟩
            have ey2 : (Y1 == Y2) = false := by simp [ey]
            clear e
            go_upto_region 6 with fail
            go_cut [24] from 16 to 24 (fun v w' => v = .bool true ∧ Below wr.heap.size wr w')
            case first =>
              go_quiet (fail)
              go_wp2
              go_meet
              exact ⟨by simp [*], below_drewN (Below.refl _ _) _⟩
            case rest =>
              obtain ⟨wd, rfl⟩ : ∃ x : World, x = wc := ⟨_, rfl⟩
              obtain ⟨rfl, hbd⟩ := hcut
              go_wp2
              go_ret
              exact ⟨congrArg (fun z => Ending.returned (.bool z)) HF.out.symm, below_step hB hbd⟩
          · have ex2 : (X1 == X2) = false := by simp [ex]
            clear e
            go_upto_region 6 with fail
            go_cut [24] from 16 to 24 (fun v w' => v = .bool true ∧ Below wr.heap.size wr w')
            case first =>
              go_quiet (fail)
              go_wp2
              go_meet
              exact ⟨by simp [*], below_drewN (Below.refl _ _) _⟩
            case rest =>
              obtain ⟨wd, rfl⟩ : ∃ x : World, x = wc := ⟨_, rfl⟩
              obtain ⟨rfl, hbd⟩ := hcut
              go_wp2
              go_ret
              exact ⟨congrArg (fun z => Ending.returned (.bool z)) HF.out.symm, below_step hB hbd⟩
      · obtain rfl : k = N := by omega
        have i1 : ¬ ((k : Nat) : Int) < (k : Int) := by omega
        have HT : Hid (sameB a b = true) := HE.out.trans HK.out
        go_wp2
        go_ret
        exact ⟨congrArg (fun z => Ending.returned (.bool z)) HT.out.symm, hB⟩
  · have HF : Hid (sameB a b = false) := by show _ = _; unfold sameB; simp [hn]
    have hni : ¬ ((a.n : Int) = (b.n : Int)) := by omega
    clear h1 h2
    go_enter Try.func88, Try.ntmps88
    go_wp2
    go_ret
    exact ⟨congrArg (fun z => Ending.returned (.bool z)) HF.out.symm, hB⟩

set_option maxHeartbeats 2000000 in
theorem same_any (A1 A2 : Option Addr) (c1 c2 : Nat) (a b : Crv) (ha : a.n ≤ 1000) (w : World) (h1 : Spots w A1 a.n a.X a.Y) (h2 : Spots w A2 b.n b.X b.Y) :
    Calls Try.prog 52 #[.agg #[.slice A1 a.n c1], .agg #[.slice A2 b.n c2]] w fun e w' => e = .returned (.bool (sameB a b)) ∧ Below w.heap.size w w' := by
  have hB : Below w.heap.size w ((w.alloc (.cells #[.slice A1 a.n c1] 24)).alloc (.cells #[.slice A2 b.n c2] 24)) := ((Below.refl _ w).alloc (Nat.le_refl _) _).alloc (by simp) _
  have HE := Lib.hid (equal_any A1 A2 c1 c2 a b ha _ (h1.below hB) (h2.below hB))
  generalize sameB a b = r at *
  clear h1 h2
  go_enter Try.func52, Try.ntmps52
  go_wp2_with (go_at_call 88; (with_reducible refine HE.out.mono ?_); rintro e w1 ⟨rfl, hb1⟩)
  go_ret
  exact ⟨rfl, below_step hB hb1⟩
end Go.Proofs.Ytglkpabcflecmaa
namespace Go.Proofs.Ytglkpabcflecmaa
open Go.RowKit Go.Shelf

/-- A row of spots in a block from lo on, before hi. -/
def NewIn (lo hi : Nat) (W : World) (B : Option Addr) (c : Crv) : Prop := 0 < c.n → ∃ g, B = some ⟨g, 0, none⟩ ∧ lo ≤ g ∧ g < hi ∧ RowAt W g c.n c.X c.Y
theorem New.inn {w W : World} {B : Option Addr} {c : Crv} (h : New w W B c) : NewIn w.heap.size W.heap.size W B c := fun hn => by
  obtain ⟨g, e, hg, hr⟩ := h hn
  exact ⟨g, e, hg, hr.lt, hr⟩
theorem NewIn.spots {lo hi : Nat} {W : World} {B : Option Addr} {c : Crv} (h : NewIn lo hi W B c) : Spots W B c.n c.X c.Y := fun hn => by
  obtain ⟨g, e, _, _, hr⟩ := h hn
  exact ⟨g, 0, e, hr.1⟩
theorem NewIn.step {lo hi : Nat} {W W' : World} {B : Option Addr} {c : Crv} (h : NewIn lo hi W B c) (hb : Below W.heap.size W W') : NewIn lo hi W' B c := fun hn => by
  obtain ⟨g, e, h1, h2, hr⟩ := h hn
  exact ⟨g, e, h1, h2, hr.below hb⟩
theorem NewIn.allc {lo hi : Nat} {W : World} {B : Option Addr} {c : Crv} {o : Obj} (h : NewIn lo hi W B c) : NewIn lo hi (W.alloc o) B c := h.step ((Below.refl _ W).alloc (Nat.le_refl _) o)
theorem NewIn.drw {lo hi : Nat} {W : World} {B : Option Addr} {c : Crv} (h : NewIn lo hi W B c) : NewIn lo hi W.drew B c := h.step (Below.refl _ W).drew
theorem NewIn.stc {lo hi L i : Nat} {W : World} {B : Option Addr} {c : Crv} {v : Value} (h : NewIn lo hi W B c) (hL : L < lo ∨ hi ≤ L) : NewIn lo hi (W.setCell ⟨L, i, none⟩ v) B c := fun hn => by
  obtain ⟨g, e, h1, h2, hr⟩ := h hn
  exact ⟨g, e, h1, h2, hr.other (by omega) i v⟩
theorem NewIn.grow {lo hi : Nat} {W W' : World} {B : Option Addr} {c : Crv} {row : Option Nat} (h : NewIn lo hi W B c) (hg : W.grownBy W' row) (hr : ∀ g, row = some g → g < lo ∨ hi ≤ g) : NewIn lo hi W' B c := fun hn => by
  obtain ⟨g, e, h1, h2, hp, cur, hc⟩ := h hn
  have hne : some g ≠ row := fun he => by have := hr g he.symm; omega
  exact ⟨g, e, h1, h2, fun i hi => ⟨(hg.cell_far ⟨g, 0 + i * 2, none⟩ hc.lt hne).trans (hp i hi).1, (hg.cell_far ⟨g, 0 + i * 2 + 1, none⟩ hc.lt hne).trans (hp i hi).2⟩, cur, hc.grown hg hne⟩
theorem jRes_le (a b : Crv) : (jRes a b).n ≤ 16 := by
  unfold jRes
  split
  · rename_i h
    unfold jErr at h
    split at h
    · rename_i h1; exact absurd h h1
    split at h
    · rename_i h1; exact absurd h h1
    split at h
    · cases h
    · exact (good_of h).hi
  · simp
end Go.Proofs.Ytglkpabcflecmaa
namespace Go.Proofs.Ytglkpabcflecmaa
open Go.RowKit Go.Shelf

def CurRow (m : Nat) (S : Nat → Int) (x y : Int) (w : World) (e : Ending) (w' : World) : Prop := ∃ g c', e = .returned (cv g 0 (chN m) c') ∧ RowAt w' g (chN m) (chX x m S) (chY y m S) ∧ Below w.heap.size w w' ∧ w.heap.size ≤ g ∧ chN m ≤ c'
set_option maxRecDepth 100000 in
set_option maxHeartbeats 4000000 in
theorem kcur_row (x y : Int) (A : Option Addr) (m cap : Nat) (S : Nat → Int) (w : World) (hS : Stps w A m S) :
    Calls Try.prog 28 #[chv x y A m cap] w (CurRow m S (x.tmod 20001) (y.tmod 20001) w) := by
  obtain ⟨i0, hi0, hz0, hz1, hz2⟩ := info_parts Try.info43
  have hI0 := Lib.hid hi0
  have hZ0 := Lib.hid hz0
  have hZ1 := Lib.hid hz1
  have hZ2 := Lib.hid hz2
  clear hi0 hz0 hz1 hz2
  obtain ⟨_, _, hx1, hx2⟩ := tmod_cases x 20001 (by decide)
  obtain ⟨_, _, hy1, hy2⟩ := tmod_cases y 20001 (by decide)
  obtain ⟨x0, hx0⟩ : ∃ z, x.tmod 20001 = z := ⟨_, rfl⟩
  obtain ⟨y0, hy0⟩ : ∃ z, y.tmod 20001 = z := ⟨_, rfl⟩
  rw [hx0] at hx1 hx2 ⊢
  rw [hy0] at hy1 hy2 ⊢
  have hI := Lib.hid (kinv_start x y A m cap S x0 y0 w)
  obtain ⟨q0, hq0⟩ : ∃ z, z = quarter m S := ⟨_, rfl⟩
  go_enter Try.func28, Try.ntmps28
  go_upto_region 5 with (go_at_call 66; (with_reducible refine (triples_any _).mono ?_); rintro e w1 ⟨rfl, rfl⟩)
  generalize ((((((w.alloc (.cells #[.int .i64 x, .int .i64 y, .slice A m cap] 37)).alloc (.cells #[.slice none 0 0] 24)).alloc (.cells #[.int .i64 x0, .int .i64 y0] 43)).alloc (.cells #[.int .i64 x0, .int .i64 y0] 43)).alloc
      (.cells #[.slice (some ⟨w.heap.size + 1 + 1 + 1, 0, none⟩) 1 1] 24)).alloc (.cells triCells 88)) = w0 at *
  obtain ⟨v0, b0, b1, b2, b4, b5, hrow, hB⟩ := hI.out
  have k0 : w0.cell? ⟨w.heap.size, 2, none⟩ = some (.slice A m cap) := b0.cell 2
  go_upto_if 27 with fail
  go_cut [6] from 24 to 32 (fun v w' => v = .int .i64 (firstK m S) ∧ w' = w0)
  case first =>
    rcases Nat.eq_zero_or_pos m with hm | hm
    · subst hm
      go_wp2
      go_meet
      exact ⟨rfl, rfl⟩
    · obtain ⟨b, off, rfl, hL⟩ := (hS.below (hB.mono (Nat.le_refl _))) hm
      have e : firstK m S = S 0 % 48 := by unfold firstK; rw [if_pos hm]
      have s0 : w0.cell? ⟨b, off, none⟩ = some (.int .i64 (S 0)) := hL 0 hm
      have hm' : (0 : Int) < (m : Int) := by omega
      go_wp2_with (go_at_call 67; (with_reducible refine (mod_any (S 0) 48 _ (by decide) (by decide)).mono ?_); rintro e w1 ⟨rfl, rfl⟩)
      go_meet
      exact ⟨by rw [e], rfl⟩
  case rest =>
    obtain ⟨wd, rfl⟩ : ∃ z : World, z = wc := ⟨_, rfl⟩
    obtain ⟨rfl, rfl⟩ := hcut
    clear v0 b0 b1 b2 b4 b5 hrow hB k0
    obtain ⟨f0, hf0⟩ : ∃ z, z = firstK m S := ⟨_, rfl⟩
    have hf := firstK_bd m S
    have hQ : Hid (q0 = quarter m S) := hq0
    have hq4 := quarter_lt m S
    rw [← hf0] at hf ⊢
    have hfq : f0.tmod 4 = (q0 : Int) := by
      rw [hq0, Int.tmod_eq_emod_of_nonneg hf.1]
      unfold quarter
      rw [← hf0]
      have := Int.emod_nonneg f0 (show (4:Int) ≠ 0 by decide)
      omega
    rw [← hq0] at hq4
    clear hf0 hq0
    go_wp2
    go_loopw [7] (fun i wr => ∃ k : Nat, k ≤ chN m - 1 ∧ i = .int .i64 k ∧ KInv x y A m cap S x0 y0 w k wr) (fun i _ => 10 - (intOf i).toNat)
    case atStart => exact ⟨0, Nat.zero_le _, rfl, hI.out⟩
    case round =>
      clear hI
      obtain ⟨k, hk, rfl, hK⟩ := hrel
      obtain ⟨t, ht⟩ : ∃ t, t = decide (k < chN m - 1) := ⟨_, rfl⟩
      have hT := Lib.hid ht
      clear ht
      have k0 : wr.cell? ⟨w.heap.size, 2, none⟩ = some (.slice A m cap) := by obtain ⟨v, b0, _⟩ := hK; exact b0.cell 2
      go_upto_region 8 with fail
      go_cut [39] from 33 to 106 (fun v w' => v = .bool t ∧ w' = wr)
      case first =>
        have HK := Lib.hid hK
        clear hK
        have hm0 : (0 : Int) ≤ (m : Int) := by omega
        have hM := chN_cases m
        by_cases h1 : (m : Int) = 0
        · have hk1 : chN m - 1 = 1 := by omega
          rw [hk1] at hT hk
          go_wp2
          go_meet
          exact ⟨congrArg Value.bool ((decide_eq_decide.2 (by omega)).trans hT.out.symm), rfl⟩
        · by_cases h2 : (m : Int) < 5
          · have hk1 : chN m - 1 = m := by omega
            rw [hk1] at hT hk
            go_wp2
            all_goals go_meet
            all_goals exact ⟨congrArg Value.bool ((decide_eq_decide.2 (by omega)).trans hT.out.symm), rfl⟩
          · have hk1 : chN m - 1 = 5 := by omega
            rw [hk1] at hT hk
            go_wp2
            all_goals go_meet
            all_goals exact ⟨congrArg Value.bool ((decide_eq_decide.2 (by omega)).trans hT.out.symm), rfl⟩
      case rest =>
        obtain ⟨rfl, rfl⟩ := hcut
        obtain ⟨wr, rfl⟩ : ∃ z : World, z = wc := ⟨_, rfl⟩
        obtain ⟨v, b0, b1, b2, b4, b5, hrow, hB⟩ := hK
        have HO := Lib.hid hrow
        clear hrow
        cases t with
        | false =>
          have hkM : k + 1 = chN m := by have := hT.out; simp at this; have := chN_bd m; omega
          have hown := HO.out
          rw [hkM] at hown
          obtain ⟨g, cap', rfl, hg1, hg2⟩ := hown.form (by have := chN_bd m; omega)
          obtain ⟨hRow, hCap⟩ := row_at hown
          have HR := Lib.hid hRow
          have HCC := Lib.hid hCap
          have c4 : wr.cell? ⟨w.heap.size + 1 + 1 + 1 + 1, 0, none⟩ = some (.slice (some ⟨g, 0, none⟩) (chN m) cap') := b4.cell 0
          have c1 : wr.cell? ⟨w.heap.size + 1, 0, none⟩ = some (.slice none 0 0) := b1.cell 0
          have f1 : wr.frozen? ⟨w.heap.size + 1, 0, none⟩ = false := b1.frozen 0
          clear hown HO hRow hCap hT hkM
          go_wp2
          have hz := (b1.set 0 (.slice (some ⟨g, 0, none⟩) (chN m) cap'))
          have z0 := hz.cell 0
          have e : ((#[Value.slice none 0 0] : Array Value).setIfInBounds 0 (.slice (some ⟨g, 0, none⟩) (chN m) cap')) = #[.slice (some ⟨g, 0, none⟩) (chN m) cap'] := rfl
          rw [e] at z0
          have hgne : g ≠ w.heap.size + 1 := by omega
          exact bodyPost_ret (v := cv g 0 (chN m) cap') (by simp [results, Try.results28, go_sem, z0]) rfl ⟨g, cap', rfl, HR.out.other hgne 0 _, hB.setCell (p := ⟨w.heap.size + 1, 0, none⟩) (by simp) _, by omega, HCC.out⟩
        | true =>
          have hlt : k < chN m - 1 := by have := hT.out; simpa using this
          clear hT
          go_upto_if 46 with fail
          obtain ⟨N, hN⟩ : ∃ z, z = stepK m S k := ⟨_, rfl⟩
          go_cut [8] from 33 to 106 (fun v w' => v = .int .i64 N ∧ w' = wr)
          case first =>
            by_cases hkm : k < m
            · obtain ⟨b, off, rfl, hL⟩ := (hS.below hB) (by omega)
              have e : N = S k % 1048576 := by rw [hN]; unfold stepK; rw [if_pos hkm]
              have s0 : wr.cell? ⟨b, off + k, none⟩ = some (.int .i64 (S k)) := hL k hkm
              have i1 : (0 : Int) ≤ (k : Int) := Int.natCast_nonneg _
              have i2 : (k : Int) < (m : Int) := by omega
              go_wp2_with (go_at_call 67; (with_reducible refine (mod_any (S k) 1048576 _ (by decide) (by decide)).mono ?_); rintro e w1 ⟨rfl, rfl⟩)
              go_meet
              exact ⟨by rw [e], rfl⟩
            · have e : N = 0 := by rw [hN]; unfold stepK; rw [if_neg hkm]
              have i2 : ¬ (k : Int) < (m : Int) := by omega
              go_wp2
              go_meet
              exact ⟨by rw [e], rfl⟩
          case rest =>
            obtain ⟨rfl, rfl⟩ := hcut
            obtain ⟨wo, rfl⟩ : ∃ z : World, z = wc := ⟨_, rfl⟩
            have hNb := stepK_bd m S k
            rw [← hN] at hNb
            obtain ⟨r, hr⟩ : ∃ z, z = (N % 11).toNat := ⟨_, rfl⟩
            have r0 := Int.emod_nonneg N (show (11:Int) ≠ 0 by decide)
            have r1 := Int.emod_lt_of_pos N (show (0:Int) < 11 by decide)
            have er : N.tmod 11 = (r : Int) := by rw [Int.tmod_eq_emod_of_nonneg hNb.1, hr]; omega
            have hr11 : r < 11 := by omega
            obtain ⟨t0, t1, t2⟩ := tri_cells b5 r hr11
            rw [Nat.zero_add] at t0 t1 t2
            obtain ⟨d0, hd0⟩ : ∃ z, z = tri0 r := ⟨_, rfl⟩
            obtain ⟨d1, hd1⟩ : ∃ z, z = tri1 r := ⟨_, rfl⟩
            obtain ⟨d2, hd2⟩ : ∃ z, z = tri2 r := ⟨_, rfl⟩
            have hok := tri_ok r
            rw [← hd0, ← hd1, ← hd2] at hok
            rw [← hd0] at t0
            rw [← hd1] at t1
            rw [← hd2] at t2
            obtain ⟨o1, o2, o3, o4, o5, o6, _⟩ := hok
            have u0 : 0 ≤ N / 11 := Int.ediv_nonneg hNb.1 (by decide)
            have z0 := Int.emod_nonneg (N / 11) (show (2000:Int) ≠ 0 by decide)
            have z1 := Int.emod_lt_of_pos (N / 11) (show (0:Int) < 2000 by decide)
            obtain ⟨u, hu⟩ : ∃ z, z = N / 11 := ⟨_, rfl⟩
            have eu : N.tdiv 11 = u := by rw [Int.tdiv_eq_ediv_of_nonneg hNb.1, hu]
            obtain ⟨z, hz⟩ : ∃ y, y = u % 2000 := ⟨_, rfl⟩
            have u1 : N / 11 ≤ N := Int.ediv_le_self _ hNb.1
            rw [← hu] at u0 z0 z1 u1
            have ez : u.tmod 2000 = z := by rw [Int.tmod_eq_emod_of_nonneg u0, hz]
            rw [← hz] at z0 z1
            obtain ⟨k1, hk1⟩ : ∃ y, y = 1000 / d2 := ⟨_, rfl⟩
            obtain ⟨k2, hk2⟩ : ∃ y, y = z / d2 := ⟨_, rfl⟩
            have e1 : Int.tdiv 1000 d2 = k1 := by rw [Int.tdiv_eq_ediv_of_nonneg (by decide), hk1]
            have e2 : Int.tdiv z d2 = k2 := by rw [Int.tdiv_eq_ediv_of_nonneg z0, hk2]
            have p1 : 0 ≤ k1 := by rw [hk1]; exact Int.ediv_nonneg (by decide) (by omega)
            have p2 : 0 ≤ k2 := by rw [hk2]; exact Int.ediv_nonneg z0 (by omega)
            have p3 : k1 ≤ 1000 := by rw [hk1]; exact Int.ediv_le_self _ (by decide)
            have p4 : k2 ≤ z := by rw [hk2]; exact Int.ediv_le_self _ z0
            have hK : Hid (k1 + 1 + k2 = triK N) := by show _ = _; unfold triK; rw [← hr, ← hu, ← hz, ← hd2, ← hk1, ← hk2]
            have HN := Lib.hid hN
            have HR := Lib.hid hr
            have D0 := Lib.hid hd0
            have D1 := Lib.hid hd1
            clear hN hr hd0 hd1 hd2 hk1 hk2 hu hz r0 r1
            have hd2n : ¬ d2 = 0 := by omega
            have ri1 : (0 : Int) ≤ (r : Int) := by omega
            have ri2 : (r : Int) < 12 := by omega
            go_upto_region 14 with fail
            have c9 := BoxAt.new wo 88 #[.int .i64 d0, .int .i64 d1, .int .i64 d2]
            have hB9 : Below wo.heap.size wo (wo.alloc (.cells #[.int .i64 d0, .int .i64 d1, .int .i64 d2] 88)) := (Below.refl _ _).alloc (Nat.le_refl _) _
            generalize wo.alloc (.cells #[.int .i64 d0, .int .i64 d1, .int .i64 d2] 88) = w9 at *
            have g0 : w9.cell? ⟨wo.heap.size, 0, none⟩ = some (.int .i64 d0) := c9.cell 0
            have g1 : w9.cell? ⟨wo.heap.size, 1, none⟩ = some (.int .i64 d1) := c9.cell 1
            have g2 : w9.cell? ⟨wo.heap.size, 2, none⟩ = some (.int .i64 d2) := c9.cell 2
            go_quiet (fail)
            obtain ⟨K, hKd⟩ : ∃ y, y = k1 + 1 + k2 := ⟨_, rfl⟩
            rw [← hKd]
            obtain ⟨a, ha⟩ : ∃ y, d0 * K = y := ⟨_, rfl⟩
            obtain ⟨b, hb⟩ : ∃ y, d1 * K = y := ⟨_, rfl⟩
            have hA : Hid (a = legA m S k) := by show a = _; unfold legA; rw [← HN.out, ← HR.out, ← D0.out, ← hK.out, ← hKd, ha]
            have hBb : Hid (b = legB m S k) := by show b = _; unfold legB; rw [← HN.out, ← HR.out, ← D1.out, ← hK.out, ← hKd, hb]
            obtain ⟨l1, l2, _, _, l3, l4, _⟩ := leg_ok m S k
            rw [← hA.out] at l1 l3
            rw [← hBb.out] at l2 l4
            have c10 : BoxAt (w9.drewN nq) wo.heap.size 88 #[.int .i64 d0, .int .i64 d1, .int .i64 d2] := c9
            have hB10 : Below wo.heap.size wo (w9.drewN nq) := below_drewN hB9 _
            generalize w9.drewN nq = wx at *
            clear g0 g1 g2 c9 hB9 hKd hK z0 z1 u0 u1 e1 e2 p1 p2 p3 p4 eu ez t0 t1 t2 o1 o2 o3 o4 o5 o6 er ri1 ri2
            have g0 : wx.cell? ⟨wo.heap.size, 0, none⟩ = some (.int .i64 d0) := c10.cell 0
            have g1 : wx.cell? ⟨wo.heap.size, 1, none⟩ = some (.int .i64 d1) := c10.cell 1
            have r0 := rot_bd (B := 3100) (a := a) (b := b) (by omega) (by omega)
            have v10 := BoxAt.new wx 43 #[.int .i64 a, .int .i64 b]
            go_wp2
            go_loopw [12] (fun q wr => ∃ t : Nat, t ≤ q0 ∧ q = .int .i64 ((q0 - t : Nat) : Int) ∧ BoxAt wr wx.heap.size 43 #[.int .i64 (rot a b t).1, .int .i64 (rot a b t).2] ∧ Below wx.heap.size wx wr) (fun q _ => (intOf q).toNat)
            case atStart => exact ⟨0, Nat.zero_le _, rfl, v10, (Below.refl _ _).alloc (Nat.le_refl _) _⟩
            case round =>
              clear v10 g0 g1
              obtain ⟨t, ht, rfl, bv, hBi⟩ := hrel
              obtain ⟨p, hp⟩ : ∃ y, y = (rot a b t).1 := ⟨_, rfl⟩
              obtain ⟨q, hq⟩ : ∃ y, y = (rot a b t).2 := ⟨_, rfl⟩
              obtain ⟨⟨pb1, pb2⟩, qb1, qb2⟩ := r0 t
              rw [← hp, ← hq] at bv
              rw [← hp] at pb1 pb2
              rw [← hq] at qb1 qb2
              have HP := Lib.hid hp
              have HQ2 := Lib.hid hq
              clear hp hq
              have v0 : wr.cell? ⟨wx.heap.size, 0, none⟩ = some (.int .i64 p) := bv.cell 0
              have v1 : wr.cell? ⟨wx.heap.size, 1, none⟩ = some (.int .i64 q) := bv.cell 1
              have vf0 : wr.frozen? ⟨wx.heap.size, 0, none⟩ = false := bv.frozen 0
              have vf1 : wr.frozen? ⟨wx.heap.size, 1, none⟩ = false := bv.frozen 1
              by_cases htq : t < q0
              · have i1 : (0 : Int) < ((q0 - t : Nat) : Int) := by omega
                have i2 : ((q0 - t : Nat) : Int) < 10 := by omega
                go_wp2
                go_roundw
                case rel => exact ⟨t + 1, by omega, congrArg (Value.int .i64) (by omega), by show BoxAt _ _ _ #[.int .i64 (-(rot a b t).2), .int .i64 (rot a b t).1]; rw [← HP.out, ← HQ2.out]; exact (bv.set 0 _).set 1 _, (hBi.setCell (p := ⟨wx.heap.size, 0, none⟩) (Nat.le_refl _) _).setCell (p := ⟨wx.heap.size, 1, none⟩) (Nat.le_refl _) _⟩
                case measure => simp [intOf]; omega
              · have i1 : ¬ (0 : Int) < ((q0 - t : Nat) : Int) := by omega
                have htq2 : t = q0 := by omega
                have eX : Hid (chX x0 m S (k + 1) = chX x0 m S k + p) := by show _ + (rot _ _ _).1 = _; rw [HP.out, hA.out, hBb.out, htq2, hQ.out]
                have eY : Hid (chY y0 m S (k + 1) = chY y0 m S k + q) := by show _ + (rot _ _ _).2 = _; rw [HQ2.out, hA.out, hBb.out, htq2, hQ.out]
                obtain ⟨⟨xb1, xb2⟩, yb1, yb2⟩ := ch_bd (x := x0) (y := y0) m S (by omega) (by omega) k
                have hM := (chN_bd m).2
                have hB12 : Below wo.heap.size wo wr := hB10.trans (hBi.mono hB10.size)
                have b2' := box_step b2 hB12
                have a0 : wr.cell? ⟨w.heap.size + 1 + 1, 0, none⟩ = some (.int .i64 (chX x0 m S k)) := b2'.cell 0
                have a1 : wr.cell? ⟨w.heap.size + 1 + 1, 1, none⟩ = some (.int .i64 (chY y0 m S k)) := b2'.cell 1
                have af0 : wr.frozen? ⟨w.heap.size + 1 + 1, 0, none⟩ = false := b2'.frozen 0
                have af1 : wr.frozen? ⟨w.heap.size + 1 + 1, 1, none⟩ = false := b2'.frozen 1
                go_upto_region 21 with fail
                rw [← eX.out, ← eY.out]
                obtain ⟨X1, hX1⟩ : ∃ y, y = chX x0 m S (k + 1) := ⟨_, rfl⟩
                obtain ⟨Y1, hY1⟩ : ∃ y, y = chY y0 m S (k + 1) := ⟨_, rfl⟩
                rw [← hX1, ← hY1]
                have HX1 := Lib.hid hX1
                have HY1 := Lib.hid hY1
                clear hX1 hY1
                have HO3 : Hid (((wr.setCell ⟨w.heap.size + 1 + 1, 0, none⟩ (.int .i64 X1)).setCell ⟨w.heap.size + 1 + 1, 1, none⟩ (.int .i64 Y1)).ownsRow (w.heap.size + 3) 43 2 v (k + 1) (cellsL (chX x0 m S) (chY y0 m S) (k + 1))) := by
                  have hne : v.ownBlock = none ∨ v.ownBlock ≠ some (w.heap.size + 1 + 1) := .inr (fun e => by have := (HO.out.lt _ e).1; omega)
                  exact ((HO.out.kept (grown_of_below hB12) (Classical.em _)).kept (grownBy_set _ _ _ _) hne).kept (grownBy_set _ _ _ _) hne
                have B2 := ((b2'.set 0 (.int .i64 X1)).set 1 (.int .i64 Y1))
                have B0 := ((box_step b0 hB12).other (g' := w.heap.size + 1 + 1) (by omega) 0 (.int .i64 X1)).other (g' := w.heap.size + 1 + 1) (by omega) 1 (.int .i64 Y1)
                have B1 := ((box_step b1 hB12).other (g' := w.heap.size + 1 + 1) (by omega) 0 (.int .i64 X1)).other (g' := w.heap.size + 1 + 1) (by omega) 1 (.int .i64 Y1)
                have B4 := ((box_step b4 hB12).other (g' := w.heap.size + 1 + 1) (by omega) 0 (.int .i64 X1)).other (g' := w.heap.size + 1 + 1) (by omega) 1 (.int .i64 Y1)
                have B5 := ((box_step b5 hB12).other (g' := w.heap.size + 1 + 1) (by omega) 0 (.int .i64 X1)).other (g' := w.heap.size + 1 + 1) (by omega) 1 (.int .i64 Y1)
                have BB := ((below_step hB hB12).setCell (p := ⟨w.heap.size + 1 + 1, 0, none⟩) (by show w.heap.size ≤ w.heap.size + 1 + 1; omega) (.int .i64 X1)).setCell (p := ⟨w.heap.size + 1 + 1, 1, none⟩) (by show w.heap.size ≤ w.heap.size + 1 + 1; omega) (.int .i64 Y1)
                have e2 : (((#[Value.int .i64 (chX x0 m S k), Value.int .i64 (chY y0 m S k)] : Array Value).setIfInBounds 0 (.int .i64 X1)).setIfInBounds 1 (.int .i64 Y1)) = #[.int .i64 X1, .int .i64 Y1] := rfl
                rw [e2] at B2
                clear a0 a1 af0 af1 v0 v1 vf0 vf1 b0 b1 b2 b4 b5 b2' hB e2
                have hl5 := B5.lt
                generalize (wr.setCell ⟨w.heap.size + 1 + 1, 0, none⟩ (.int .i64 X1)).setCell ⟨w.heap.size + 1 + 1, 1, none⟩ (.int .i64 Y1) = w3 at *
                have a0 : w3.cell? ⟨w.heap.size + 1 + 1, 0, none⟩ = some (.int .i64 X1) := B2.cell 0
                have a1 : w3.cell? ⟨w.heap.size + 1 + 1, 1, none⟩ = some (.int .i64 Y1) := B2.cell 1
                have a4 : w3.cell? ⟨w.heap.size + 1 + 1 + 1 + 1, 0, none⟩ = some v := B4.cell 0
                have hk6 : k + 1 < 6 := by omega
                go_wp2_with (at_builtin; refine wpList_append_lies _ rfl _ _ 22 rfl (w.heap.size + 3) 43 i0 _ 2 16 Try.underlying22 hI0.out hZ0.out hZ1.out hZ2.out rfl (by decide) v (k + 1) (cellsL (chX x0 m S) (chY y0 m S) (k + 1)) rfl (HO3.out.alloc _) ⟨w3.heap.size, 0, none⟩ 1 1 [.int .i64 X1, .int .i64 Y1] rfl rfl (World.news_of_block (cs := #[.int .i64 X1, .int .i64 Y1]) (t := 43) (fr := (0, 0)) (heap_alloc_new w3 _)) (by simp [Value.oneCell']) (by decide) (by unfold maxLen; omega) (by omega) (by simp; omega) _ rfl ?_; intro gg cap1 w7 hown7 hgrow hat hlt7; have C4 : Hid (BoxAt w7 (w.heap.size + 1 + 1 + 1 + 1) 24 #[v]) := ((B4.alloc _).grown hgrow (box_ne_row B4 (by decide) HO3.out)); have f4 : w7.frozen? ⟨w.heap.size + 1 + 1 + 1 + 1, 0, none⟩ = false := BoxAt.frozen C4.out 0; have c4 : w7.cell? ⟨w.heap.size + 1 + 1 + 1 + 1, 0, none⟩ = some v := BoxAt.cell C4.out 0)
                have e7 : cellsL (chX x0 m S) (chY y0 m S) (k + 1) ++ [.int .i64 X1, .int .i64 Y1] = cellsL (chX x0 m S) (chY y0 m S) (k + 1 + 1) := by rw [HX1.out, HY1.out]; rfl
                rw [e7] at hown7
                have hne4 := box_ne_row C4.out (by decide) hown7
                have n2 : some (w.heap.size + 1 + 1) ≠ v.ownBlock := fun e => by have := (HO3.out.lt _ e.symm).1; omega
                have C0 := ((B0.alloc (.cells #[.int .i64 X1, .int .i64 Y1] 43)).grown hgrow (box_ne_row B0 (by decide) HO3.out)).other (g' := w.heap.size + 1 + 1 + 1 + 1) (by omega) 0 (.slice (some ⟨gg, 0, none⟩) (k + 1 + 1) cap1)
                have C1 := ((B1.alloc (.cells #[.int .i64 X1, .int .i64 Y1] 43)).grown hgrow (box_ne_row B1 (by decide) HO3.out)).other (g' := w.heap.size + 1 + 1 + 1 + 1) (by omega) 0 (.slice (some ⟨gg, 0, none⟩) (k + 1 + 1) cap1)
                have C2 := ((B2.alloc (.cells #[.int .i64 X1, .int .i64 Y1] 43)).grown hgrow n2).other (g' := w.heap.size + 1 + 1 + 1 + 1) (by omega) 0 (.slice (some ⟨gg, 0, none⟩) (k + 1 + 1) cap1)
                have C5 := ((B5.alloc (.cells #[.int .i64 X1, .int .i64 Y1] 43)).grown hgrow (box_ne_row B5 (by decide) HO3.out)).other (g' := w.heap.size + 1 + 1 + 1 + 1) (by omega) 0 (.slice (some ⟨gg, 0, none⟩) (k + 1 + 1) cap1)
                have hB7 := ((BB.alloc BB.size (.cells #[.int .i64 X1, .int .i64 Y1] 43)).grown hgrow (by have := BB.size; simp; omega) (fun g e => by have := (HO3.out.lt _ e).1; omega)).setCell (p := ⟨w.heap.size + 1 + 1 + 1 + 1, 0, none⟩) (by show w.heap.size ≤ w.heap.size + 1 + 1 + 1 + 1; omega) (.slice (some ⟨gg, 0, none⟩) (k + 1 + 1) cap1)
                rw [HX1.out, HY1.out] at C2
                go_roundw
                case rel => exact ⟨k + 1, by omega, by go_num, _, C0, C1, C2, C4.out.set 0 _, C5, hown7.kept (grownBy_set _ _ _ _) (.inr (Ne.symm hne4)), hB7⟩
                case measure => simp [intOf]; omega


/-- What the kit's Curve of these numbers is, and its row. -/
abbrev KitRow (x y : Int) (B : Option Addr) (m bc : Nat) (S : Nat → Int) (d : Crv) : Prop :=
  ∀ W : World, Stps W B m S → Calls Try.prog 28 #[chv x y B m bc] W fun e w' => ∃ g c', e = .returned (cv g 0 d.n c') ∧ RowAt w' g d.n d.X d.Y ∧ Below W.heap.size W w' ∧ W.heap.size ≤ g ∧ d.n ≤ c'
theorem kit_row (x y : Int) (B : Option Addr) (m bc : Nat) (S : Nat → Int) : ∃ d, Mid d ∧ KitRow x y B m bc S d := by
  obtain ⟨_, _, hx1, hx2⟩ := tmod_cases x 20001 (by decide)
  obtain ⟨_, _, hy1, hy2⟩ := tmod_cases y 20001 (by decide)
  exact ⟨_, chain_mid m S (by omega) (by omega), fun W hW => kcur_row x y B m bc S W hW⟩
end Go.Proofs.Ytglkpabcflecmaa
namespace Go.Proofs.Ytglkpabcflecmaa
open Go.RowKit Go.Shelf

theorem append_nothing (ty : TypeId) (base A : Option Addr) (n cap c : Nat) (h : n ≤ cap) (w : World) :
    (Builtin.append_ #[22, 22] ty #[.slice base n cap, .slice A 0 c]).run Try.prog w = .ok (.slice base n cap) w := by
  obtain ⟨i0, hi0, hz0, hz1, hz2⟩ := info_parts Try.info43
  cases base <;> cases A <;> simp [Builtin.append_, run_underlying Try.underlying22, sizeOf, typeInfo, hi0, Builtin.lenOf, Builtin.firstCells, h, loadCells, loadCellsFrom, storeCells]

set_option maxRecDepth 100000 in
set_option maxHeartbeats 4000000 in
theorem concat_one (B b1 o1 c1 n1 : Nat) (X1 Y1 : Nat → Int) (w : World) (hB : BoxAt w B 22 #[.slice (some ⟨b1, o1, none⟩) n1 c1, .slice none 0 0]) (h1 : Pts w b1 o1 n1 X1 Y1)
    (p1 : 0 < n1) (q1 : n1 ≤ 100) :
    Calls Try.prog 98 #[.slice (some ⟨B, 0, none⟩) 2 2] w fun e w' => ∃ g cap, e = .returned (.slice (some ⟨g, 0, none⟩) n1 cap) ∧ w.heap.size ≤ g ∧ RowAt w' g n1 X1 Y1 ∧ Below w.heap.size w w' := by
  obtain ⟨i0_, hi0, hz0, hz1, hz2⟩ := info_parts Try.info43
  have hI0 := Lib.hid hi0
  have hZ0 := Lib.hid hz0
  have hZ1 := Lib.hid hz1
  have hZ2 := Lib.hid hz2
  clear hi0 hz0 hz1 hz2
  have c0 : w.cell? ⟨B, 0, none⟩ = some (.slice (some ⟨b1, o1, none⟩) n1 c1) := hB.cell 0
  have c1' : w.cell? ⟨B, 1, none⟩ = some (.slice none 0 0) := hB.cell 1
  have HG := Lib.hid (fun W => grow_any n1 p1 (by omega) W)
  have hw00 : IntKind.i64.wrap (n1 : Int) = n1 := IntWalk.i64_in _ (by omega)
  have HP1 := Lib.hid h1
  have l1 := h1.lt p1
  have lB := hB.lt
  clear h1
  go_enter Try.func98, Try.ntmps98
  go_wp2
  go_loopw [3, 11] (fun z i wr => ((i = .int .i64 0 ∧ z = .int .i64 0) ∨ (i = .int .i64 1 ∧ z = .int .i64 n1) ∨ (i = .int .i64 2 ∧ z = .int .i64 n1)) ∧ wr = w) (fun _ i _ => 10 - (intOf i).toNat)
  case atStart => exact ⟨.inl ⟨rfl, rfl⟩, rfl⟩
  case round =>
    obtain ⟨⟨rfl, rfl⟩ | ⟨rfl, rfl⟩ | ⟨rfl, rfl⟩, rfl⟩ := hrel
    · have hw0 : IntKind.i64.wrap (0 + (n1 : Int)) = n1 := by rw [Int.zero_add]; exact IntWalk.i64_in _ (by omega)
      have hn0 : ¬ ((n1 : Int) < 0) := by omega
      go_wp2
      go_roundw
      case rel => exact ⟨.inr (.inl ⟨rfl, rfl⟩), trivial⟩
      case measure => simp [intOf]
    · have hn0 : ¬ ((n1 : Int) < 0) := by omega
      go_wp2
      go_roundw
      case rel => exact ⟨.inr (.inr ⟨rfl, rfl⟩), trivial⟩
      case measure => simp [intOf]
    · go_wp2_with (go_at_call 101; (with_reducible refine (HG.out _).mono ?_); rintro e w1 ⟨cap, rfl, hown, hb1⟩)
      have HO1 := Lib.hid hown
      obtain ⟨wo, rfl⟩ : ∃ z : World, z = wr := ⟨_, rfl⟩
      clear hown HG
      go_loopw [6, 27] (fun v i wr => ((i = .int .i64 0 ∧ Hid (wr.ownsRow wo.heap.size 43 2 v 0 [])) ∨ (i = .int .i64 1 ∧ Hid (wr.ownsRow wo.heap.size 43 2 v n1 (cellsL X1 Y1 n1))) ∨ (i = .int .i64 2 ∧ Hid (wr.ownsRow wo.heap.size 43 2 v n1 (cellsL X1 Y1 n1)))) ∧ Below wo.heap.size wo wr) (fun _ i _ => 10 - (intOf i).toNat)
      case atStart => exact ⟨.inl ⟨rfl, HO1⟩, hb1⟩
      case round =>
        obtain ⟨⟨rfl, HO⟩ | ⟨rfl, HO⟩ | ⟨rfl, HO⟩, hBr⟩ := hrel
        · have k0 : wr.cell? ⟨B, 0, none⟩ = some (.slice (some ⟨b1, o1, none⟩) n1 c1) := (Below.cell hBr (p := ⟨B, 0, none⟩) lB).trans c0
          have HQ := Lib.hid (HP1.out.below hBr l1)
          have hsz := hBr.size
          go_wp2_with (at_builtin; refine wpList_append_lies _ rfl _ _ 22 rfl wo.heap.size 43 i0_ _ 2 16 Try.underlying22 hI0.out hZ0.out hZ1.out hZ2.out rfl (by decide) u6 0 [] rfl HO.out ⟨b1, o1, none⟩ n1 c1 (cellsL X1 Y1 n1) rfl (cellsL_length _ _ _) (pts_news HQ.out) (cellsL_one _ _ _) p1 (by unfold maxLen; omega) (by omega) hsz _ rfl ?_; intro gg cap2 w7 hown7 hgrow hat hlt7)
          have HO7 := Lib.hid hown7
          clear hown7
          go_roundw
          case rel => exact ⟨.inr (.inl ⟨rfl, by show World.ownsRow _ _ _ _ _ _ _; have := HO7.out; rw [Nat.zero_add] at this; exact this⟩), hBr.grown hgrow hsz (fun g e => (row_cells HO.out e).1)⟩
          case measure => simp [intOf]
        · have k0 : wr.cell? ⟨B, 1, none⟩ = some (.slice none 0 0) := (Below.cell hBr (p := ⟨B, 1, none⟩) lB).trans c1'
          obtain ⟨g, cap2, rfl, hg1, hg2⟩ := HO.out.form p1
          have hle : n1 ≤ cap2 := by
            rcases HO.out.2 with ⟨h, _⟩ | ⟨_, _, _, h, _, _, h2, _⟩
            · cases h
            · cases h; exact h2
          have HA := Lib.hid (fun ty => append_nothing ty (some ⟨g, 0, none⟩) none n1 cap2 0 hle wr)
          go_wp2_with (at_builtin; refine Lib.wpList_append_run _ rfl _ _ _ _ rfl _ _ rfl rfl _ _ (HA.out _) ?_)
          go_roundw
          case rel => exact ⟨.inr (.inr ⟨rfl, HO⟩), hBr⟩
          case measure => simp [intOf]
        · obtain ⟨g, cap2, rfl, hg1, hg2⟩ := HO.out.form p1
          have hP : Hid (RowAt wr g n1 X1 Y1) := (row_at HO.out).1
          go_wp2
          go_ret
          exact ⟨g, cap2, rfl, hg1, hP.out, hBr⟩

set_option maxRecDepth 100000 in
set_option maxHeartbeats 4000000 in
theorem ext_one (b1 o1 c1 n1 : Nat) (X1 Y1 : Nat → Int) (w : World) (h1 : Pts w b1 o1 n1 X1 Y1) (p1 : 0 < n1) (q1 : n1 ≤ 100) :
    Calls Try.prog 87 #[cv b1 o1 n1 c1, .slice none 0 0] w fun e w' => ∃ g cap, e = .returned (cv g 0 n1 cap) ∧ w.heap.size ≤ g ∧ RowAt w' g n1 X1 Y1 ∧ Below w.heap.size w w' := by
  have hB0 : Below w.heap.size w (((w.alloc (.cells #[.slice (some ⟨b1, o1, none⟩) n1 c1] 24)).alloc (.cells #[.slice none 0 0] 24)).alloc (.cells #[.slice (some ⟨b1, o1, none⟩) n1 c1, .slice none 0 0] 22)) := (((Below.refl _ w).alloc (Nat.le_refl _) _).alloc (by simp) _).alloc (by simp; omega) _
  have hR := (BoxAt.new (w.alloc (.cells #[.slice (some ⟨b1, o1, none⟩) n1 c1] 24)) 24 #[.slice none 0 0]).alloc (.cells #[.slice (some ⟨b1, o1, none⟩) n1 c1, .slice none 0 0] 22)
  have hS := BoxAt.new ((w.alloc (.cells #[.slice (some ⟨b1, o1, none⟩) n1 c1] 24)).alloc (.cells #[.slice none 0 0] 24)) 22 #[.slice (some ⟨b1, o1, none⟩) n1 c1, .slice none 0 0]
  simp only [World.size_alloc] at hR hS
  have g1 := h1.below hB0 (h1.lt p1)
  have HC := Lib.hid (concat_one (w.heap.size + 1 + 1) b1 o1 c1 n1 X1 Y1 _ hS g1 p1 q1)
  have HR := Lib.hid hR
  clear hR hS g1
  go_enter Try.func87, Try.ntmps87
  go_wp2_with (go_at_call 98; (with_reducible refine HC.out.mono ?_); rintro e w1 ⟨g, cap, rfl, hg, hP, hb1⟩; have HR1 := Lib.hid (box_step HR.out hb1); have r0 : w1.cell? ⟨w.heap.size + 1, 0, none⟩ = some (.slice none 0 0) := BoxAt.cell HR1.out 0; have r1 : w1.frozen? ⟨w.heap.size + 1, 0, none⟩ = false := BoxAt.frozen HR1.out 0)
  have hz := (BoxAt.set HR1.out 0 (.slice (some ⟨g, 0, none⟩) n1 cap)).cell 0
  have e5 : ((#[Value.slice none 0 0] : Array Value).setIfInBounds 0 (.slice (some ⟨g, 0, none⟩) n1 cap)) = #[.slice (some ⟨g, 0, none⟩) n1 cap] := rfl
  rw [e5] at hz
  have hg2 : w.heap.size + 1 + 1 + 1 ≤ g := by simpa using hg
  have hb2 : Below (w.heap.size + 1 + 1 + 1) w1 (w1.setCell ⟨w.heap.size + 1, 0, none⟩ (.slice (some ⟨g, 0, none⟩) n1 cap)) ∨ True := .inr trivial
  refine bodyPost_ret (v := cv g 0 n1 cap) (by simp [results, Try.results87, go_sem, hz]) rfl ⟨g, cap, rfl, by omega, ?_, (below_step hB0 hb1).setCell (p := ⟨w.heap.size + 1, 0, none⟩) (by show w.heap.size ≤ w.heap.size + 1; omega) _⟩
  exact hP.other (by omega) 0 _

set_option maxRecDepth 100000 in
set_option maxHeartbeats 2000000 in
theorem grow_zero (w : World) : Calls Try.prog 101 #[.slice none 0 0, .int .i64 0] w fun e w' => e = .returned (.slice none 0 0) ∧ Below w.heap.size w w' := by
  go_enter Try.func101, Try.ntmps101
  go_wp2
  go_ret
  exact ⟨rfl, Below.refl _ _⟩

set_option maxRecDepth 100000 in
set_option maxHeartbeats 4000000 in
theorem concat_zero (B c1 : Nat) (A : Option Addr) (w : World) (hB : BoxAt w B 22 #[.slice A 0 c1, .slice none 0 0]) :
    Calls Try.prog 98 #[.slice (some ⟨B, 0, none⟩) 2 2] w fun e w' => e = .returned (.slice none 0 0) ∧ Below w.heap.size w w' := by
  have c0 : w.cell? ⟨B, 0, none⟩ = some (.slice A 0 c1) := hB.cell 0
  have c1' : w.cell? ⟨B, 1, none⟩ = some (.slice none 0 0) := hB.cell 1
  have lB := hB.lt
  go_enter Try.func98, Try.ntmps98
  go_wp2
  go_loopw [3, 11] (fun z i wr => ((i = .int .i64 0 ∧ z = .int .i64 0) ∨ (i = .int .i64 1 ∧ z = .int .i64 0) ∨ (i = .int .i64 2 ∧ z = .int .i64 0)) ∧ wr = w) (fun _ i _ => 10 - (intOf i).toNat)
  case atStart => exact ⟨.inl ⟨rfl, rfl⟩, rfl⟩
  case round =>
    obtain ⟨⟨rfl, rfl⟩ | ⟨rfl, rfl⟩ | ⟨rfl, rfl⟩, rfl⟩ := hrel
    · go_wp2
      go_roundw
      case rel => exact ⟨.inr (.inl ⟨rfl, rfl⟩), trivial⟩
      case measure => simp [intOf]
    · go_wp2
      go_roundw
      case rel => exact ⟨.inr (.inr ⟨rfl, rfl⟩), trivial⟩
      case measure => simp [intOf]
    · go_wp2_with (go_at_call 101; (with_reducible refine (grow_zero _).mono ?_); rintro e w1 ⟨rfl, hb1⟩)
      obtain ⟨wo, rfl⟩ : ∃ z : World, z = wr := ⟨_, rfl⟩
      go_loopw [6, 27] (fun v i wr => (i = .int .i64 0 ∨ i = .int .i64 1 ∨ i = .int .i64 2) ∧ v = .slice none 0 0 ∧ Below wo.heap.size wo wr) (fun _ i _ => 10 - (intOf i).toNat)
      case atStart => exact ⟨.inl rfl, rfl, hb1⟩
      case round =>
        obtain ⟨rfl | rfl | rfl, rfl, hBr⟩ := hrel
        · have k0 : wr.cell? ⟨B, 0, none⟩ = some (.slice A 0 c1) := (Below.cell hBr (p := ⟨B, 0, none⟩) lB).trans c0
          have HA := Lib.hid (fun ty => append_nothing ty none A 0 0 c1 (Nat.le_refl _) wr)
          go_wp2_with (at_builtin; refine Lib.wpList_append_run _ rfl _ _ _ _ rfl _ _ rfl rfl _ _ (HA.out _) ?_)
          go_roundw
          case rel => exact ⟨.inr (.inl rfl), by simp, hBr⟩
          case measure => simp [intOf]
        · have k0 : wr.cell? ⟨B, 1, none⟩ = some (.slice none 0 0) := (Below.cell hBr (p := ⟨B, 1, none⟩) lB).trans c1'
          have HA := Lib.hid (fun ty => append_nothing ty none none 0 0 0 (Nat.le_refl _) wr)
          go_wp2_with (at_builtin; refine Lib.wpList_append_run _ rfl _ _ _ _ rfl _ _ rfl rfl _ _ (HA.out _) ?_)
          go_roundw
          case rel => exact ⟨.inr (.inr rfl), by simp, hBr⟩
          case measure => simp [intOf]
        · go_wp2
          go_ret
          exact ⟨rfl, hBr⟩

set_option maxRecDepth 100000 in
set_option maxHeartbeats 4000000 in
theorem ext_zero (A : Option Addr) (c1 : Nat) (w : World) :
    Calls Try.prog 87 #[.agg #[.slice A 0 c1], .slice none 0 0] w fun e w' => e = .returned (.agg #[.slice none 0 0]) ∧ Below w.heap.size w w' := by
  have hB0 : Below w.heap.size w (((w.alloc (.cells #[.slice A 0 c1] 24)).alloc (.cells #[.slice none 0 0] 24)).alloc (.cells #[.slice A 0 c1, .slice none 0 0] 22)) := (((Below.refl _ w).alloc (Nat.le_refl _) _).alloc (by simp) _).alloc (by simp; omega) _
  have hR := (BoxAt.new (w.alloc (.cells #[.slice A 0 c1] 24)) 24 #[.slice none 0 0]).alloc (.cells #[.slice A 0 c1, .slice none 0 0] 22)
  have hS := BoxAt.new ((w.alloc (.cells #[.slice A 0 c1] 24)).alloc (.cells #[.slice none 0 0] 24)) 22 #[.slice A 0 c1, .slice none 0 0]
  simp only [World.size_alloc] at hR hS
  have HC := Lib.hid (concat_zero (w.heap.size + 1 + 1) c1 A _ hS)
  have HR := Lib.hid hR
  clear hR hS
  go_enter Try.func87, Try.ntmps87
  go_wp2_with (go_at_call 98; (with_reducible refine HC.out.mono ?_); rintro e w1 ⟨rfl, hb1⟩; have HR1 := Lib.hid (box_step HR.out hb1); have r0 : w1.cell? ⟨w.heap.size + 1, 0, none⟩ = some (.slice none 0 0) := BoxAt.cell HR1.out 0; have r1 : w1.frozen? ⟨w.heap.size + 1, 0, none⟩ = false := BoxAt.frozen HR1.out 0)
  have hz := (BoxAt.set HR1.out 0 (.slice none 0 0)).cell 0
  have e5 : ((#[Value.slice none 0 0] : Array Value).setIfInBounds 0 (.slice none 0 0)) = #[.slice none 0 0] := rfl
  rw [e5] at hz
  exact bodyPost_ret (v := .agg #[.slice none 0 0]) (by simp [results, Try.results87, go_sem, hz]) rfl ⟨rfl, (below_step hB0 hb1).setCell (p := ⟨w.heap.size + 1, 0, none⟩) (by show w.heap.size ≤ w.heap.size + 1; omega) _⟩

def CopyPost (c : Crv) (w : World) (e : Ending) (w' : World) : Prop := ∃ R cap, e = .returned (.agg #[.slice R c.n cap]) ∧ New w w' R c ∧ Below w.heap.size w w'
set_option maxRecDepth 100000 in
set_option maxHeartbeats 4000000 in
/-- **Copy of any curve.** -/
theorem copy_any (A : Option Addr) (c1 : Nat) (c : Crv) (hn : c.n ≤ 100) (w : World) (h : Spots w A c.n c.X c.Y) : Calls Try.prog 53 #[.agg #[.slice A c.n c1]] w (CopyPost c w) := by
  have hB0 : Below w.heap.size w ((w.alloc (.cells #[.slice A c.n c1] 24)).alloc (.cells #[.slice none 0 0] 24)) := ((Below.refl _ w).alloc (Nat.le_refl _) _).alloc (by simp) _
  have hR := BoxAt.new (w.alloc (.cells #[.slice A c.n c1] 24)) 24 #[.slice none 0 0]
  rw [World.size_alloc] at hR
  have HR := Lib.hid hR
  clear hR
  have HE : Hid (Calls Try.prog 87 #[.agg #[.slice A c.n c1], .slice none 0 0] ((w.alloc (.cells #[.slice A c.n c1] 24)).alloc (.cells #[.slice none 0 0] 24)) fun e w' => ∃ R cap, e = .returned (.agg #[.slice R c.n cap]) ∧ (0 < c.n → ∃ g, R = some ⟨g, 0, none⟩ ∧ w.heap.size + 1 + 1 ≤ g ∧ RowAt w' g c.n c.X c.Y) ∧ Below ((w.alloc (.cells #[.slice A c.n c1] 24)).alloc (.cells #[.slice none 0 0] 24)).heap.size ((w.alloc (.cells #[.slice A c.n c1] 24)).alloc (.cells #[.slice none 0 0] 24)) w') := by
    rcases Nat.eq_zero_or_pos c.n with h0 | h0
    · rw [h0]
      refine (ext_zero A c1 _).mono ?_
      rintro e w' ⟨rfl, hb⟩
      exact ⟨none, 0, rfl, fun h => absurd h (Nat.lt_irrefl 0), hb⟩
    · obtain ⟨b, o, rfl, hp⟩ := h h0
      refine (ext_one b o c1 c.n c.X c.Y _ (hp.below hB0 (hp.lt h0)) h0 hn).mono ?_
      rintro e w' ⟨g, cap, rfl, hg, hP, hb⟩
      exact ⟨_, cap, rfl, fun _ => ⟨g, rfl, by simpa using hg, hP⟩, hb⟩
  obtain ⟨X, hX⟩ : ∃ z, z = c.X := ⟨_, rfl⟩
  clear hX h
  go_enter Try.func53, Try.ntmps53
  go_wp2_with (go_at_call 87; (with_reducible refine HE.out.mono ?_); rintro e w1 ⟨R, cap, rfl, hP, hb1⟩; have HP := Lib.hid hP; clear hP; have HR1 := Lib.hid (box_step HR.out hb1); have r0 : w1.cell? ⟨w.heap.size + 1, 0, none⟩ = some (.slice none 0 0) := BoxAt.cell HR1.out 0; have r1 : w1.frozen? ⟨w.heap.size + 1, 0, none⟩ = false := BoxAt.frozen HR1.out 0)
  have hz := (BoxAt.set HR1.out 0 (.slice R c.n cap)).cell 0
  have e5 : ((#[Value.slice none 0 0] : Array Value).setIfInBounds 0 (.slice R c.n cap)) = #[.slice R c.n cap] := rfl
  rw [e5] at hz
  refine bodyPost_ret (v := .agg #[.slice R c.n cap]) (by simp [results, Try.results53, go_sem, hz]) rfl ⟨R, cap, rfl, fun h0 => ?_, (below_step hB0 hb1).setCell (p := ⟨w.heap.size + 1, 0, none⟩) (by show w.heap.size ≤ w.heap.size + 1; omega) _⟩
  obtain ⟨g, rfl, hg, hP⟩ := HP.out h0
  exact ⟨g, rfl, by omega, hP.other (by omega) 0 _⟩
end Go.Proofs.Ytglkpabcflecmaa
namespace Go.Proofs.Ytglkpabcflecmaa
open Go.RowKit Go.Shelf

theorem row_alloc1 {W : World} {g n : Nat} {X Y : Nat → Int} {o : Obj} (h : RowAt W g n X Y) : RowAt (W.alloc o) g n X Y := h.below ((Below.refl _ W).alloc (Nat.le_refl _) o)
theorem row_drew1 {W : World} {g n : Nat} {X Y : Nat → Int} (h : RowAt W g n X Y) : RowAt W.drew g n X Y := h
theorem RowAt.ne_box {W : World} {g n h : Nat} {X Y : Nat → Int} {t : TypeId} {cs : Array Value} (hr : RowAt W g n X Y) (hb : BoxAt W h t cs) (hne : 43 ≠ t) : g ≠ h := by
  obtain ⟨_, cur, hc⟩ := hr
  exact hc.ne_of hb hne
theorem RowAt.frozen {w : World} {g n : Nat} {X Y : Nat → Int} (h : RowAt w g n X Y) (i : Nat) : w.frozen? ⟨g, i, none⟩ = false := by
  obtain ⟨_, cur, hc⟩ := h
  exact hc.frozen i
theorem spots_alloc1 {W : World} {A : Option Addr} {n : Nat} {X Y : Nat → Int} {o : Obj} (h : Spots W A n X Y) : Spots (W.alloc o) A n X Y := h.below ((Below.refl _ W).alloc (Nat.le_refl _) o)
theorem spots_drew1 {W : World} {A : Option Addr} {n : Nat} {X Y : Nat → Int} (h : Spots W A n X Y) : Spots W.drew A n X Y := h
theorem spots_set1 {W : World} {A : Option Addr} {n h : Nat} {X Y : Nat → Int} {v : Value} (hs : Spots W A n X Y) (hb : BoxAt W h 24 #[.slice none 0 0]) : Spots (W.setCell ⟨h, 0, none⟩ v) A n X Y := fun hn => by
  obtain ⟨b, off, e, hp⟩ := hs hn
  refine ⟨b, off, e, pts_set1 hp ?_⟩
  rintro rfl
  have h0 := (hp 0 hn).1
  rw [BoxAt.cell hb] at h0
  cases off <;> simp at h0
theorem spots_of_new {w W : World} {R : Option Addr} {c : Crv} (h : New w W R c) : Spots W R c.n c.X c.Y := fun hn => by
  obtain ⟨g, e, _, hr⟩ := h hn
  exact ⟨g, 0, e, hr.1⟩
/-- What a join answers, its curve and its error given. -/
def JPost (J : Crv) (E : Int) (w : World) (e : Ending) (w' : World) : Prop :=
  ∃ R cap, e = .returned (.tuple #[.agg #[.slice R J.n cap], .int .i64 E]) ∧ New w w' R J ∧ Below w.heap.size w w'
/-- A row of curve c from block lo on, its first numbers turned. -/
def Turned (lo : Nat) (W : World) (R : Option Addr) (c : Crv) : Prop := 0 < c.n → ∃ g X', R = some ⟨g, 0, none⟩ ∧ lo ≤ g ∧ RowAt W g c.n X' c.Y
theorem turned_of_new {w W : World} {R : Option Addr} {c : Crv} (h : New w W R c) {lo : Nat} (hl : lo ≤ w.heap.size) : Turned lo W R c := fun hn => by
  obtain ⟨g, e, h1, hr⟩ := h hn
  exact ⟨g, c.X, e, by omega, hr⟩
theorem Turned.step {lo : Nat} {W W' : World} {R : Option Addr} {c : Crv} (h : Turned lo W R c) (hb : Below W.heap.size W W') : Turned lo W' R c := fun hn => by
  obtain ⟨g, X', e, h1, hr⟩ := h hn
  exact ⟨g, X', e, h1, hr.below hb⟩
theorem Turned.allc {lo : Nat} {W : World} {R : Option Addr} {c : Crv} {o : Obj} (h : Turned lo W R c) : Turned lo (W.alloc o) R c := h.step ((Below.refl _ W).alloc (Nat.le_refl _) o)

/-- The list of five curves. -/
theorem list5 {w9 : World} {LB : Nat} {A1 A2 A3 A4 : Option Addr} {c1 c2 c3 c4 : Nat} {a b c d : Crv} (h : BoxAt w9 LB 24 #[.slice A1 a.n c1, .slice A2 b.n c2, .slice A3 c.n c3, .slice A4 d.n c4, .slice A1 a.n c1])
    (s1 : Spots w9 A1 a.n a.X a.Y) (s2 : Spots w9 A2 b.n b.X b.Y) (s3 : Spots w9 A3 c.n c.X c.Y) (s4 : Spots w9 A4 d.n d.X d.Y) (n1 : a.n ≤ 20 ∧ a.n ≤ c1) (n2 : b.n ≤ 20 ∧ b.n ≤ c2) (n3 : c.n ≤ 20 ∧ c.n ≤ c3) (n4 : d.n ≤ 20 ∧ d.n ≤ c4) :
    ∃ (LA : Nat → Option Addr) (LC : Nat → Crv) (LK : Nat → Nat), (∀ W, Below w9.heap.size w9 W → ∀ j, j < 5 → W.cell? ⟨LB, j, none⟩ = some (.slice (LA j) (LC j).n (LK j)) ∧ Spots W (LA j) (LC j).n (LC j).X (LC j).Y) ∧ (∀ j, j < 5 → (LC j).n ≤ 20 ∧ (LC j).n ≤ LK j) := by
  refine ⟨fun | 0 => A1 | 1 => A2 | 2 => A3 | 3 => A4 | _ => A1, fun | 0 => a | 1 => b | 2 => c | 3 => d | _ => a, fun | 0 => c1 | 1 => c2 | 2 => c3 | 3 => c4 | _ => c1, fun W hW j hj => ?_, fun j hj => ?_⟩
  · have hb := box_step h hW
    match j, hj with
    | 0, _ => exact ⟨hb.cell 0, s1.below hW⟩
    | 1, _ => exact ⟨hb.cell 1, s2.below hW⟩
    | 2, _ => exact ⟨hb.cell 2, s3.below hW⟩
    | 3, _ => exact ⟨hb.cell 3, s4.below hW⟩
    | 4, _ => exact ⟨hb.cell 4, s1.below hW⟩
    | j + 5, h => omega
  · match j, hj with
    | 0, _ => exact n1
    | 1, _ => exact n2
    | 2, _ => exact n3
    | 3, _ => exact n4
    | 4, _ => exact n1
    | j + 5, h => omega

set_option maxRecDepth 100000 in
set_option maxHeartbeats 8000000 in
theorem joins_long1 (A1 A2 : Option Addr) (c1 c2 n1 n2 : Nat) (x1 y1 : Int) (B1 : Option Addr) (m1 bc1 : Nat) (x2 y2 : Int) (B2 : Option Addr) (m2 bc2 : Nat) (w : World) (h : 20 < n1) :
    Calls Try.prog 8 #[.agg #[.slice A1 n1 c1], .agg #[.slice A2 n2 c2], chv x1 y1 B1 m1 bc1, chv x2 y2 B2 m2 bc2] w fun e w' => e = .returned (.bool true) ∧ Below w.heap.size w w' := by
  have hB : Below w.heap.size w ((((w.alloc (.cells #[.slice A1 n1 c1] 24)).alloc (.cells #[.slice A2 n2 c2] 24)).alloc (.cells #[.int .i64 x1, .int .i64 y1, .slice B1 m1 bc1] 37)).alloc (.cells #[.int .i64 x2, .int .i64 y2, .slice B2 m2 bc2] 37)) := ((((Below.refl _ w).alloc (Nat.le_refl _) _).alloc (by simp) _).alloc (by simp; omega) _).alloc (by simp; omega) _
  have hl := long_any A1 n1 c1
  rw [decide_eq_true h] at hl
  have HL := Lib.hid hl
  clear hl h
  go_enter Try.func8, Try.ntmps8
  go_wp2_with (first
    | (go_at_call 17; (with_reducible refine (HL.out _).mono ?_); rintro e w1 ⟨rfl, hb1⟩; replace hB := below_step hB hb1)
    | (go_at_call 18; (with_reducible refine (awake_any _).mono ?_); rintro e w2 ⟨rfl, hb2⟩; replace hB := below_step hB hb2))
  go_ret
  exact ⟨rfl, hB⟩

set_option maxRecDepth 100000 in
set_option maxHeartbeats 8000000 in
theorem joins_long2 (A1 A2 : Option Addr) (c1 c2 n1 n2 : Nat) (x1 y1 : Int) (B1 : Option Addr) (m1 bc1 : Nat) (x2 y2 : Int) (B2 : Option Addr) (m2 bc2 : Nat) (w : World) (h1 : n1 ≤ 20) (h : 20 < n2) :
    Calls Try.prog 8 #[.agg #[.slice A1 n1 c1], .agg #[.slice A2 n2 c2], chv x1 y1 B1 m1 bc1, chv x2 y2 B2 m2 bc2] w fun e w' => e = .returned (.bool true) ∧ Below w.heap.size w w' := by
  have hB : Below w.heap.size w ((((w.alloc (.cells #[.slice A1 n1 c1] 24)).alloc (.cells #[.slice A2 n2 c2] 24)).alloc (.cells #[.int .i64 x1, .int .i64 y1, .slice B1 m1 bc1] 37)).alloc (.cells #[.int .i64 x2, .int .i64 y2, .slice B2 m2 bc2] 37)) := ((((Below.refl _ w).alloc (Nat.le_refl _) _).alloc (by simp) _).alloc (by simp; omega) _).alloc (by simp; omega) _
  have hbox := (((BoxAt.new (w.alloc (.cells #[.slice A1 n1 c1] 24)) 24 #[.slice A2 n2 c2]).alloc (.cells #[.int .i64 x1, .int .i64 y1, .slice B1 m1 bc1] 37)).alloc (.cells #[.int .i64 x2, .int .i64 y2, .slice B2 m2 bc2] 37))
  rw [World.size_alloc] at hbox
  have hl := long_any A1 n1 c1
  rw [decide_eq_false (by omega : ¬ 20 < n1)] at hl
  have HL := Lib.hid hl
  have hl2 := long_any A2 n2 c2
  rw [decide_eq_true h] at hl2
  have HL2 := Lib.hid hl2
  clear hl hl2 h h1
  go_enter Try.func8, Try.ntmps8
  go_wp2_with (first
    | (go_at_call 17; (with_reducible refine (HL.out _).mono ?_); rintro e w1 ⟨rfl, hb1⟩; replace hB := below_step hB hb1; have k1 := (box_step hbox hb1).cell 0)
    | (go_at_call 17; (with_reducible refine (HL2.out _).mono ?_); rintro e w3 ⟨rfl, hb3⟩; replace hB := below_step hB hb3)
    | (go_at_call 18; (with_reducible refine (awake_any _).mono ?_); rintro e w2 ⟨rfl, hb2⟩; replace hB := below_step hB hb2))
  go_ret
  exact ⟨rfl, hB⟩
end Go.Proofs.Ytglkpabcflecmaa
