/- Same, by the program (slices.Equal) and by the reference, for any two curves. -/
import Derived.Test.YtglkpabcflecmaaCks
import Derived.BigQuiet
namespace Go.Proofs.Ytglkpabcflecmaa
open Go.RowKit Go.Shelf

/-- Are the first k points equal? -/
def eqK (a b : Crv) : Nat → Bool
  | 0 => true
  | k + 1 => eqK a b k && (decide (a.X k = b.X k) && decide (a.Y k = b.Y k))
def sameB (a b : Crv) : Bool := decide (a.n = b.n) && eqK a b a.n
theorem eqK_no {a b : Crv} {i k : Nat} (hi : i < k) (h : ¬ (a.X i = b.X i ∧ a.Y i = b.Y i)) : eqK a b k = false := by
  induction k with
  | zero => omega
  | succ k ih =>
    unfold eqK
    rcases Nat.lt_or_ge i k with h1 | h1
    · rw [ih h1]; rfl
    · obtain rfl : i = k := by omega
      have : (decide (a.X i = b.X i) && decide (a.Y i = b.Y i)) = false := by
        cases hx : (decide (a.X i = b.X i) && decide (a.Y i = b.Y i)) with
        | false => rfl
        | true => simp at hx; exact absurd hx h
      rw [this]; simp
theorem eqK_self (a : Crv) (k : Nat) : eqK a a k = true := by
  induction k with
  | zero => rfl
  | succ k ih => unfold eqK; rw [ih]; simp
theorem sameB_self (a : Crv) : sameB a a = true := by unfold sameB; rw [eqK_self]; simp

set_option maxRecDepth 100000 in
set_option maxHeartbeats 4000000 in
theorem rsame_any (A1 A2 : Option Addr) (c1 c2 : Nat) (a b : Crv) (ha : a.n ≤ 1000) (w : World) (h1 : Spots w A1 a.n a.X a.Y) (h2 : Spots w A2 b.n b.X b.Y) :
    Calls Try.prog 51 #[.agg #[.slice A1 a.n c1], .agg #[.slice A2 b.n c2]] w fun e w' => e = .returned (.bool (sameB a b)) ∧ Below w.heap.size w w' := by
  have hB : Below w.heap.size w ((w.alloc (.cells #[.slice A1 a.n c1] 24)).alloc (.cells #[.slice A2 b.n c2] 24)) := ((Below.refl _ w).alloc (Nat.le_refl _) _).alloc (by simp) _
  have f1 := (BoxAt.new w 24 #[.slice A1 a.n c1]).alloc (.cells #[.slice A2 b.n c2] 24)
  have f2 := BoxAt.new (w.alloc (.cells #[.slice A1 a.n c1] 24)) 24 #[.slice A2 b.n c2]
  rw [World.size_alloc] at f2
  have HS1 := Lib.hid h1
  have HS2 := Lib.hid h2
  by_cases hn : a.n = b.n
  · have HE : Hid (sameB a b = eqK a b a.n) := by show _ = _; unfold sameB; rw [hn]; simp
    obtain ⟨N, hN⟩ : ∃ N, N = a.n := ⟨_, rfl⟩
    rw [← hN] at HE ha HS1 f1 f2 hB ⊢
    rw [← hn, ← hN] at HS2 f2 f1 hB ⊢
    clear h1 h2 hn hN
    go_enter Try.func51, Try.ntmps51
    go_wp2
    go_loopw [5] (fun i wr => ∃ k : Nat, k ≤ N ∧ i = .int .i64 k ∧ Hid (eqK a b k = true) ∧ BoxAt wr w.heap.size 24 #[.slice A1 N c1] ∧ BoxAt wr (w.heap.size + 1) 24 #[.slice A2 N c2] ∧ Below w.heap.size w wr) (fun i _ => N - (intOf i).toNat)
    case atStart => exact ⟨0, Nat.zero_le _, rfl, rfl, f1, f2, hB⟩
    case round =>
      clear f1 f2 hB
      obtain ⟨k, hk, rfl, HK, f1, f2, hB⟩ := hrel
      have k0 : wr.cell? ⟨w.heap.size, 0, none⟩ = some (.slice A1 N c1) := f1.cell 0
      have k1 : wr.cell? ⟨w.heap.size + 1, 0, none⟩ = some (.slice A2 N c2) := f2.cell 0
      have z1 := f1.lt
      have z2 := f2.lt
      by_cases hlt : k < N
      · obtain ⟨b1, o1, rfl, p1⟩ := HS1.out (by omega)
        obtain ⟨b2, o2, rfl, p2⟩ := HS2.out (by omega)
        obtain ⟨x1, y1⟩ := p1.below hB (p1.lt (by omega)) k hlt
        obtain ⟨x2, y2⟩ := p2.below hB (p2.lt (by omega)) k hlt
        have z3 := World.block_lt_of_cell? wr _ x1
        have z4 := World.block_lt_of_cell? wr _ x2
        have i0 : (0 : Int) ≤ (k : Int) := Int.natCast_nonneg _
        have i1 : (k : Int) < (N : Int) := by omega
        have HSU : Hid (eqK a b (k + 1) = (eqK a b k && (decide (a.X k = b.X k) && decide (a.Y k = b.Y k)))) := rfl
        have HNO : Hid (¬ (a.X k = b.X k ∧ a.Y k = b.Y k) → eqK a b N = false) := fun h => eqK_no hlt h
        clear p1 p2
        generalize a.X k = X1 at *
        generalize a.Y k = Y1 at *
        generalize b.X k = X2 at *
        generalize b.Y k = Y2 at *
        by_cases e : X1 = X2 ∧ Y1 = Y2
        · obtain ⟨rfl, rfl⟩ := e
          have HK2 : Hid (eqK a b (k + 1) = true) := by show _ = _; rw [HSU.out, HK.out]; simp
          go_upto_region 6 with fail
          go_cut [30] from 13 to 30 (fun v w' => v = .bool false ∧ Below wr.heap.size wr w')
          case first =>
            go_quiet (fail)
            go_wp2
            go_meet
            exact ⟨rfl, below_drewN (Below.refl _ _) _⟩
          case rest =>
            obtain ⟨wd, rfl⟩ : ∃ x : World, x = wc := ⟨_, rfl⟩
            obtain ⟨rfl, hbd⟩ := hcut
            have g1 := box_step f1 hbd
            have g2 := box_step f2 hbd
            go_wp2
            go_roundw
            case rel => exact ⟨k + 1, by omega, by go_num, HK2, g1, g2, below_step hB hbd⟩
            case measure => simp [intOf]; omega
        · have HF : Hid (sameB a b = false) := HE.out.trans (HNO.out e)
          by_cases ex : X1 = X2
          · subst ex
            have ey : ¬ Y1 = Y2 := fun h => e ⟨rfl, h⟩
            have ey2 : (Y1 == Y2) = false := by simp [ey]
            clear e
            go_upto_region 6 with fail
            go_cut [30] from 13 to 30 (fun v w' => v = .bool true ∧ Below wr.heap.size wr w')
            case first =>
              go_quiet (fail)
              go_wp2
              go_meet
              exact ⟨by simp [*], below_drewN (Below.refl _ _) _⟩
            case rest =>
              obtain ⟨wd, rfl⟩ : ∃ x : World, x = wc := ⟨_, rfl⟩
              obtain ⟨rfl, hbd⟩ := hcut
              go_wp2
              go_ret
              exact ⟨congrArg (fun z => Ending.returned (.bool z)) HF.out.symm, below_step hB hbd⟩
          · have ex2 : (X1 == X2) = false := by simp [ex]
            clear e
            go_upto_region 6 with fail
            go_cut [30] from 13 to 30 (fun v w' => v = .bool true ∧ Below wr.heap.size wr w')
            case first =>
              go_quiet (fail)
              go_wp2
              go_meet
              exact ⟨by simp [*], below_drewN (Below.refl _ _) _⟩
            case rest =>
              obtain ⟨wd, rfl⟩ : ∃ x : World, x = wc := ⟨_, rfl⟩
              obtain ⟨rfl, hbd⟩ := hcut
              go_wp2
              go_ret
              exact ⟨congrArg (fun z => Ending.returned (.bool z)) HF.out.symm, below_step hB hbd⟩
      · obtain rfl : k = N := by omega
        have i1 : ¬ ((k : Nat) : Int) < (k : Int) := by omega
        have HT : Hid (sameB a b = true) := HE.out.trans HK.out
        go_wp2
        go_ret
        exact ⟨congrArg (fun z => Ending.returned (.bool z)) HT.out.symm, hB⟩
  · have HF : Hid (sameB a b = false) := by show _ = _; unfold sameB; simp [hn]
    have hni : ¬ ((a.n : Int) = (b.n : Int)) := by omega
    have k0 : ((w.alloc (.cells #[.slice A1 a.n c1] 24)).alloc (.cells #[.slice A2 b.n c2] 24)).cell? ⟨w.heap.size, 0, none⟩ = some (.slice A1 a.n c1) := f1.cell 0
    clear h1 h2
    go_enter Try.func51, Try.ntmps51
    go_wp2
    go_ret
    exact ⟨congrArg (fun z => Ending.returned (.bool z)) HF.out.symm, hB⟩
set_option maxRecDepth 100000 in
set_option maxHeartbeats 4000000 in
theorem equal_any (A1 A2 : Option Addr) (c1 c2 : Nat) (a b : Crv) (ha : a.n ≤ 1000) (w : World) (h1 : Spots w A1 a.n a.X a.Y) (h2 : Spots w A2 b.n b.X b.Y) :
    Calls Try.prog 88 #[.slice A1 a.n c1, .slice A2 b.n c2] w fun e w' => e = .returned (.bool (sameB a b)) ∧ Below w.heap.size w w' := by
  have hB : Below w.heap.size w w := Below.refl _ _
  have HS1 := Lib.hid h1
  have HS2 := Lib.hid h2
  by_cases hn : a.n = b.n
  · have HE : Hid (sameB a b = eqK a b a.n) := by show _ = _; unfold sameB; rw [hn]; simp
    obtain ⟨N, hN⟩ : ∃ N, N = a.n := ⟨_, rfl⟩
    rw [← hN] at HE ha HS1 ⊢
    rw [← hn, ← hN] at HS2 ⊢
    clear h1 h2 hn hN
    go_enter Try.func88, Try.ntmps88
    go_wp2
    go_loopw [13] (fun i wr => ∃ k : Nat, k ≤ N ∧ i = .int .i64 k ∧ Hid (eqK a b k = true) ∧ Below w.heap.size w wr) (fun i _ => N - (intOf i).toNat)
    case atStart => exact ⟨0, Nat.zero_le _, rfl, rfl, hB⟩
    case round =>
      clear hB
      obtain ⟨k, hk, rfl, HK, hB⟩ := hrel
      by_cases hlt : k < N
      · obtain ⟨b1, o1, rfl, p1⟩ := HS1.out (by omega)
        obtain ⟨b2, o2, rfl, p2⟩ := HS2.out (by omega)
        obtain ⟨x1, y1⟩ := p1.below hB (p1.lt (by omega)) k hlt
        obtain ⟨x2, y2⟩ := p2.below hB (p2.lt (by omega)) k hlt
        have z3 := World.block_lt_of_cell? wr _ x1
        have z4 := World.block_lt_of_cell? wr _ x2
        have i0 : (0 : Int) ≤ (k : Int) := Int.natCast_nonneg _
        have i1 : (k : Int) < (N : Int) := by omega
        have HSU : Hid (eqK a b (k + 1) = (eqK a b k && (decide (a.X k = b.X k) && decide (a.Y k = b.Y k)))) := rfl
        have HNO : Hid (¬ (a.X k = b.X k ∧ a.Y k = b.Y k) → eqK a b N = false) := fun h => eqK_no hlt h
        clear p1 p2
        generalize a.X k = X1 at *
        generalize a.Y k = Y1 at *
        generalize b.X k = X2 at *
        generalize b.Y k = Y2 at *
        by_cases e : X1 = X2 ∧ Y1 = Y2
        · obtain ⟨rfl, rfl⟩ := e
          have HK2 : Hid (eqK a b (k + 1) = true) := by show _ = _; rw [HSU.out, HK.out]; simp
          go_upto_region 6 with fail
          go_cut [24] from 16 to 24 (fun v w' => v = .bool false ∧ Below wr.heap.size wr w')
          case first =>
            go_quiet (fail)
            go_wp2
            go_meet
            exact ⟨rfl, below_drewN (Below.refl _ _) _⟩
          case rest =>
            obtain ⟨wd, rfl⟩ : ∃ x : World, x = wc := ⟨_, rfl⟩
            obtain ⟨rfl, hbd⟩ := hcut
            go_wp2
            go_roundw
            case rel => exact ⟨k + 1, by omega, by go_num, HK2, below_step hB hbd⟩
            case measure => simp [intOf]; omega
        · have HF : Hid (sameB a b = false) := HE.out.trans (HNO.out e)
          by_cases ex : X1 = X2
          · subst ex
            have ey : ¬ Y1 = Y2 := fun h => e ⟨rfl, h⟩
            have ey2 : (Y1 == Y2) = false := by simp [ey]
            clear e
            go_upto_region 6 with fail
            go_cut [24] from 16 to 24 (fun v w' => v = .bool true ∧ Below wr.heap.size wr w')
            case first =>
              go_quiet (fail)
              go_wp2
              go_meet
              exact ⟨by simp [*], below_drewN (Below.refl _ _) _⟩
            case rest =>
              obtain ⟨wd, rfl⟩ : ∃ x : World, x = wc := ⟨_, rfl⟩
              obtain ⟨rfl, hbd⟩ := hcut
              go_wp2
              go_ret
              exact ⟨congrArg (fun z => Ending.returned (.bool z)) HF.out.symm, below_step hB hbd⟩
          · have ex2 : (X1 == X2) = false := by simp [ex]
            clear e
            go_upto_region 6 with fail
            go_cut [24] from 16 to 24 (fun v w' => v = .bool true ∧ Below wr.heap.size wr w')
            case first =>
              go_quiet (fail)
              go_wp2
              go_meet
              exact ⟨by simp [*], below_drewN (Below.refl _ _) _⟩
            case rest =>
              obtain ⟨wd, rfl⟩ : ∃ x : World, x = wc := ⟨_, rfl⟩
              obtain ⟨rfl, hbd⟩ := hcut
              go_wp2
              go_ret
              exact ⟨congrArg (fun z => Ending.returned (.bool z)) HF.out.symm, below_step hB hbd⟩
      · obtain rfl : k = N := by omega
        have i1 : ¬ ((k : Nat) : Int) < (k : Int) := by omega
        have HT : Hid (sameB a b = true) := HE.out.trans HK.out
        go_wp2
        go_ret
        exact ⟨congrArg (fun z => Ending.returned (.bool z)) HT.out.symm, hB⟩
  · have HF : Hid (sameB a b = false) := by show _ = _; unfold sameB; simp [hn]
    have hni : ¬ ((a.n : Int) = (b.n : Int)) := by omega
    clear h1 h2
    go_enter Try.func88, Try.ntmps88
    go_wp2
    go_ret
    exact ⟨congrArg (fun z => Ending.returned (.bool z)) HF.out.symm, hB⟩

set_option maxHeartbeats 2000000 in
theorem same_any (A1 A2 : Option Addr) (c1 c2 : Nat) (a b : Crv) (ha : a.n ≤ 1000) (w : World) (h1 : Spots w A1 a.n a.X a.Y) (h2 : Spots w A2 b.n b.X b.Y) :
    Calls Try.prog 52 #[.agg #[.slice A1 a.n c1], .agg #[.slice A2 b.n c2]] w fun e w' => e = .returned (.bool (sameB a b)) ∧ Below w.heap.size w w' := by
  have hB : Below w.heap.size w ((w.alloc (.cells #[.slice A1 a.n c1] 24)).alloc (.cells #[.slice A2 b.n c2] 24)) := ((Below.refl _ w).alloc (Nat.le_refl _) _).alloc (by simp) _
  have HE := Lib.hid (equal_any A1 A2 c1 c2 a b ha _ (h1.below hB) (h2.below hB))
  generalize sameB a b = r at *
  clear h1 h2
  go_enter Try.func52, Try.ntmps52
  go_wp2_with (go_at_call 88; (with_reducible refine HE.out.mono ?_); rintro e w1 ⟨rfl, hb1⟩)
  go_ret
  exact ⟨rfl, below_step hB hb1⟩
end Go.Proofs.Ytglkpabcflecmaa
