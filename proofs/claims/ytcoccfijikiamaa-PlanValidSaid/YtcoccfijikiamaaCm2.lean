/- The reference's Same. -/
import Derived.Test.YtcoccfijikiamaaCmp
namespace Go.Proofs.Ytcoccfijikiamaa
open Go.RowKit Go.Shelf

set_option maxRecDepth 100000 in
set_option maxHeartbeats 4000000 in
/-- The reference's Same. -/
theorem rsame_any (A : Option Addr) (c : Nat) (l : List Int) (B : Option Addr) (d : Nat) (m : List Int) (w : World) (hl : l.length ≤ 1000000) (hm : m.length ≤ 1000000) (hA : NumL w A l) (hB : NumL w B m) :
    Calls Try.prog 15 #[pv A l.length c, pv B m.length d] w fun e w' => e = .returned (.bool (decide (l = m))) ∧ Below w.heap.size w w' := by
  have hb : Below w.heap.size w ((w.alloc (.cells #[.slice A l.length c] 26)).alloc (.cells #[.slice B m.length d] 26)) := ((Below.refl _ w).alloc (Nat.le_refl _) _).alloc (by simp) _
  have HX := Lib.hid ((BoxAt.new w 26 #[.slice A l.length c]).alloc (.cells #[.slice B m.length d] 26))
  have HY : Hid (BoxAt ((w.alloc (.cells #[.slice A l.length c] 26)).alloc (.cells #[.slice B m.length d] 26)) (w.heap.size + 1) 26 #[.slice B m.length d]) := Lib.hid (by
    have h := BoxAt.new (w.alloc (.cells #[.slice A l.length c] 26)) 26 #[.slice B m.length d]
    rw [World.size_alloc] at h
    exact h)
  have HB0 := Lib.hid hb
  have HA := Lib.hid (hA.below hb)
  have HB := Lib.hid (hB.below hb)
  have HAg := Lib.hid (fun k => agree_end (l := l) (m := m) (k := k))
  obtain ⟨N, hN⟩ : ∃ N, N = l.length := ⟨_, rfl⟩
  obtain ⟨M, hM⟩ : ∃ M, M = m.length := ⟨_, rfl⟩
  rw [← hN] at hl ⊢
  rw [← hM] at hm ⊢
  rw [← hN, ← hM] at HAg HX HY HA HB HB0
  have HN := Lib.hid hN
  have HM := Lib.hid hM
  clear hA hB hN hM hb
  go_enter Try.func15, Try.ntmps15
  go_upto_region 1 with fail
  generalize (w.alloc (.cells #[.slice A N c] 26)).alloc (.cells #[.slice B M d] 26) = w0 at *
  go_wp2
  go_loopw [5] (fun kv wr => ∃ k : Nat, kv = iv k ∧ k ≤ N ∧ k ≤ M ∧ Hid (∀ j, j < k → l[j]? = m[j]?) ∧ Hid (Below w0.heap.size w0 wr)) (fun kv _ => N - (intOf kv).toNat)
  case atStart => exact ⟨0, rfl, Nat.zero_le _, Nat.zero_le _, Lib.hid (fun j h => by omega), Lib.hid (Below.refl _ _)⟩
  case round =>
    obtain ⟨k, rfl, hk, hkm, HE, HBr⟩ := hrel
    have k0 : (0 : Int) ≤ (k : Int) := Int.natCast_nonneg _
    have x0 : wr.cell? ⟨w.heap.size, 0, none⟩ = some (.slice A N c) := (HX.out.below HBr.out HX.out.lt).cell 0
    have y0 : wr.cell? ⟨w.heap.size + 1, 0, none⟩ = some (.slice B M d) := (HY.out.below HBr.out HY.out.lt).cell 0
    have lx := (HX.out.below HBr.out HX.out.lt).lt
    have ly := (HY.out.below HBr.out HY.out.lt).lt
    have HBe : Hid (Below w.heap.size w wr) := Lib.hid (HB0.out.trans (HBr.out.mono (HB0.out.size)))
    by_cases hlt : k < N
    · have k1 : (k : Int) < (N : Int) := by omega
      by_cases hlm : k < M
      · have k2 : (k : Int) < (M : Int) := by omega
        obtain ⟨x, hx, _⟩ := drop_at (L := l) (k := k) (by rw [← HN.out]; exact hlt)
        obtain ⟨y, hy, _⟩ := drop_at (L := m) (k := k) (by rw [← HM.out]; exact hlm)
        obtain ⟨b1, o1, rfl, c1⟩ := (HA.out.below HBr.out).at hx
        obtain ⟨b2, o2, rfl, c2⟩ := (HB.out.below HBr.out).at hy
        have l1 := World.block_lt_of_cell? wr _ c1
        have l2 := World.block_lt_of_cell? wr _ c2
        have HX2 := Lib.hid hx
        have HY2 := Lib.hid hy
        clear hx hy
        by_cases hxy : x = y
        · subst hxy
          go_wp2
          go_quiet (fail)
          go_wp2
          refine ⟨⟨k + 1, by go_num, by omega, by omega, Lib.hid (fun j hj => ?_), Lib.hid (below_drewN HBr.out)⟩, by simp [intOf]; omega⟩
          by_cases h : j = k
          · subst h; rw [HX2.out, HY2.out]
          · exact HE.out j (by omega)
        · have HF : Hid (decide (l = m) = false) := Lib.hid (decide_eq_false (fun h => hxy (by have h1 := HX2.out; rw [h, HY2.out] at h1; exact (Option.some.inj h1).symm)))
          go_wp2
          go_quiet (fail)
          go_wp2
          go_ret
          exact ⟨by rw [HF.out]; rfl, below_drewN HBe.out⟩
      · have k2 : ¬ (k : Int) < (M : Int) := by omega
        have HF := Lib.hid (HAg.out k HE.out hk hkm (.inr (by omega)))
        go_wp2
        go_ret
        exact ⟨by rw [← HF.out]; rfl, HBe.out⟩
    · have k1 : ¬ (k : Int) < (N : Int) := by omega
      have HF := Lib.hid (HAg.out k HE.out hk hkm (.inl (by omega)))
      go_wp2
      go_ret
      exact ⟨by rw [← HF.out]; rfl, HBe.out⟩
end Go.Proofs.Ytcoccfijikiamaa
