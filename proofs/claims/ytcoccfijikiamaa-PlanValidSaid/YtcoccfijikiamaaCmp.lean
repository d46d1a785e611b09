/- Comparisons of rows of numbers: slices.Equal, Same, the reference's and the kit's. -/
import Derived.Test.YtcoccfijikiamaaAct
namespace Go.Proofs.Ytcoccfijikiamaa
open Go.RowKit Go.Shelf

set_option maxRecDepth 100000 in
set_option maxHeartbeats 4000000 in
/-- slices.Equal. -/
theorem equal_any (A : Option Addr) (c : Nat) (l : List Int) (B : Option Addr) (d : Nat) (m : List Int) (w : World) (hl : l.length ≤ 1000000) (hm : m.length ≤ 1000000) (hA : NumL w A l) (hB : NumL w B m) :
    Calls Try.prog 33 #[.slice A l.length c, .slice B m.length d] w fun e w' => e = .returned (.bool (decide (l = m))) ∧ Below w.heap.size w w' := by
  have HA := Lib.hid hA
  have HB := Lib.hid hB
  obtain ⟨N, hN⟩ : ∃ N, N = l.length := ⟨_, rfl⟩
  obtain ⟨M, hM⟩ : ∃ M, M = m.length := ⟨_, rfl⟩
  rw [← hN] at hl ⊢
  rw [← hM] at hm ⊢
  have HN := Lib.hid hN
  have HM := Lib.hid hM
  clear hA hB hN hM
  by_cases hNM : N = M
  · subst hNM
    go_enter Try.func33, Try.ntmps33
    go_wp2
    go_loopw [13] (fun kv wr => ∃ k : Nat, kv = iv k ∧ k ≤ N ∧ Hid (∀ j, j < k → l[j]? = m[j]?) ∧ Hid (Below w.heap.size w wr)) (fun kv _ => N - (intOf kv).toNat)
    case atStart => exact ⟨0, rfl, Nat.zero_le _, Lib.hid (fun j h => by omega), Lib.hid (Below.refl _ _)⟩
    case round =>
      obtain ⟨k, rfl, hk, HE, HBr⟩ := hrel
      have k0 : (0 : Int) ≤ (k : Int) := Int.natCast_nonneg _
      by_cases hlt : k < N
      · have k1 : (k : Int) < (N : Int) := by omega
        obtain ⟨x, hx, _⟩ := drop_at (L := l) (k := k) (by rw [← HN.out]; exact hlt)
        obtain ⟨y, hy, _⟩ := drop_at (L := m) (k := k) (by rw [← HM.out]; exact hlt)
        obtain ⟨b1, o1, rfl, c1⟩ := (HA.out.below HBr.out).at hx
        obtain ⟨b2, o2, rfl, c2⟩ := (HB.out.below HBr.out).at hy
        have l1 := World.block_lt_of_cell? wr _ c1
        have l2 := World.block_lt_of_cell? wr _ c2
        have HX := Lib.hid hx
        have HY := Lib.hid hy
        clear hx hy
        by_cases hxy : x = y
        · subst hxy
          go_wp2
          go_quiet (fail)
          go_wp2
          refine ⟨⟨k + 1, by go_num, by omega, Lib.hid (fun j hj => ?_), Lib.hid (below_drewN HBr.out)⟩, by simp [intOf]; omega⟩
          by_cases h : j = k
          · subst h; rw [HX.out, HY.out]
          · exact HE.out j (by omega)
        · have HF : Hid (decide (l = m) = false) := Lib.hid (decide_eq_false (fun h => hxy (by have h1 := HX.out; rw [h, HY.out] at h1; exact (Option.some.inj h1).symm)))
          go_wp2
          go_quiet (fail)
          go_wp2
          go_ret
          exact ⟨by rw [HF.out]; rfl, below_drewN HBr.out⟩
      · obtain rfl : k = N := by omega
        have k1 : ¬ (k : Int) < (k : Int) := by omega
        have HF : Hid (decide (l = m) = true) := Lib.hid (decide_eq_true (List.ext_getElem? fun j => by
          by_cases h : j < k
          · exact HE.out j h
          · rw [List.getElem?_eq_none (by rw [← HN.out]; omega), List.getElem?_eq_none (by rw [← HM.out]; omega)]))
        go_wp2
        go_ret
        exact ⟨by rw [HF.out]; rfl, HBr.out⟩
  · have HF : Hid (decide (l = m) = false) := Lib.hid (decide_eq_false (fun h => hNM (by rw [HN.out, HM.out, h])))
    have hne : ¬ (N : Int) = (M : Int) := by omega
    go_enter Try.func33, Try.ntmps33
    go_wp2
    go_ret
    exact ⟨by rw [HF.out]; rfl, Below.refl _ _⟩

theorem agree_end {l m : List Int} {k : Nat} (h : ∀ j, j < k → l[j]? = m[j]?) (h1 : k ≤ l.length) (h2 : k ≤ m.length) (h3 : k = l.length ∨ k = m.length) : ((l.length : Int) == (m.length : Int)) = decide (l = m) := by
  by_cases e : l.length = m.length
  · have : l = m := List.ext_getElem? fun j => by
      by_cases hj : j < k
      · exact h j hj
      · rw [List.getElem?_eq_none (by omega), List.getElem?_eq_none (by omega)]
    rw [this]; simp
  · have hne : ¬ l = m := fun h => e (by rw [h])
    rw [decide_eq_false hne]
    simp; omega
set_option maxRecDepth 100000 in
set_option maxHeartbeats 4000000 in
/-- Same. -/
theorem same_any (A : Option Addr) (c : Nat) (l : List Int) (B : Option Addr) (d : Nat) (m : List Int) (w : World) (hl : l.length ≤ 1000000) (hm : m.length ≤ 1000000) (hA : NumL w A l) (hB : NumL w B m) :
    Calls Try.prog 17 #[pv A l.length c, pv B m.length d] w fun e w' => e = .returned (.bool (decide (l = m))) ∧ Below w.heap.size w w' := by
  have hb : Below w.heap.size w ((w.alloc (.cells #[.slice A l.length c] 26)).alloc (.cells #[.slice B m.length d] 26)) := ((Below.refl _ w).alloc (Nat.le_refl _) _).alloc (by simp) _
  have HE := Lib.hid (equal_any A c l B d m _ hl hm (hA.below hb) (hB.below hb))
  generalize decide (l = m) = r at *
  generalize l.length = N at *
  generalize m.length = M at *
  clear hA hB
  go_enter Try.func17, Try.ntmps17
  go_wp2_with (go_at_call 33; (with_reducible refine HE.out.mono ?_); rintro e w1 ⟨rfl, hb1⟩)
  go_ret
  exact ⟨rfl, below_step hb hb1⟩
set_option maxRecDepth 100000 in
set_option maxHeartbeats 4000000 in
/-- The kit's SameLongs. -/
theorem longs_any (A : Option Addr) (c : Nat) (l : List Int) (B : Option Addr) (d : Nat) (m : List Int) (w : World) (hl : l.length ≤ 1000000) (hm : m.length ≤ 1000000) (hA : NumL w A l) (hB : NumL w B m) :
    Calls Try.prog 21 #[.slice A l.length c, .slice B m.length d] w fun e w' => e = .returned (.bool (decide (l = m))) ∧ Below w.heap.size w w' := by
  have HA := Lib.hid hA
  have HB := Lib.hid hB
  have HAg := Lib.hid (fun k => agree_end (l := l) (m := m) (k := k))
  obtain ⟨N, hN⟩ : ∃ N, N = l.length := ⟨_, rfl⟩
  obtain ⟨M, hM⟩ : ∃ M, M = m.length := ⟨_, rfl⟩
  rw [← hN] at hl ⊢
  rw [← hM] at hm ⊢
  rw [← hN, ← hM] at HAg
  have HN := Lib.hid hN
  have HM := Lib.hid hM
  clear hA hB hN hM
  go_enter Try.func21, Try.ntmps21
  go_wp2
  go_loopw [5] (fun kv wr => ∃ k : Nat, kv = iv k ∧ k ≤ N ∧ k ≤ M ∧ Hid (∀ j, j < k → l[j]? = m[j]?) ∧ Hid (Below w.heap.size w wr)) (fun kv _ => N - (intOf kv).toNat)
  case atStart => exact ⟨0, rfl, Nat.zero_le _, Nat.zero_le _, Lib.hid (fun j h => by omega), Lib.hid (Below.refl _ _)⟩
  case round =>
    obtain ⟨k, rfl, hk, hkm, HE, HBr⟩ := hrel
    have k0 : (0 : Int) ≤ (k : Int) := Int.natCast_nonneg _
    by_cases hlt : k < N
    · have k1 : (k : Int) < (N : Int) := by omega
      by_cases hlm : k < M
      · have k2 : (k : Int) < (M : Int) := by omega
        obtain ⟨x, hx, _⟩ := drop_at (L := l) (k := k) (by rw [← HN.out]; exact hlt)
        obtain ⟨y, hy, _⟩ := drop_at (L := m) (k := k) (by rw [← HM.out]; exact hlm)
        obtain ⟨b1, o1, rfl, c1⟩ := (HA.out.below HBr.out).at hx
        obtain ⟨b2, o2, rfl, c2⟩ := (HB.out.below HBr.out).at hy
        have l1 := World.block_lt_of_cell? wr _ c1
        have l2 := World.block_lt_of_cell? wr _ c2
        have HX := Lib.hid hx
        have HY := Lib.hid hy
        clear hx hy
        by_cases hxy : x = y
        · subst hxy
          go_wp2
          go_quiet (fail)
          go_wp2
          refine ⟨⟨k + 1, by go_num, by omega, by omega, Lib.hid (fun j hj => ?_), Lib.hid (below_drewN HBr.out)⟩, by simp [intOf]; omega⟩
          by_cases h : j = k
          · subst h; rw [HX.out, HY.out]
          · exact HE.out j (by omega)
        · have HF : Hid (decide (l = m) = false) := Lib.hid (decide_eq_false (fun h => hxy (by have h1 := HX.out; rw [h, HY.out] at h1; exact (Option.some.inj h1).symm)))
          go_wp2
          go_quiet (fail)
          go_wp2
          go_ret
          exact ⟨by rw [HF.out]; rfl, below_drewN HBr.out⟩
      · have k2 : ¬ (k : Int) < (M : Int) := by omega
        have HF := Lib.hid (HAg.out k HE.out hk hkm (.inr (by omega)))
        go_wp2
        go_ret
        exact ⟨by rw [← HF.out]; rfl, HBr.out⟩
    · have k1 : ¬ (k : Int) < (N : Int) := by omega
      have HF := Lib.hid (HAg.out k HE.out hk hkm (.inl (by omega)))
      go_wp2
      go_ret
      exact ⟨by rw [← HF.out]; rfl, HBr.out⟩
end Go.Proofs.Ytcoccfijikiamaa
