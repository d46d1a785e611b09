/- Costs, Better, the order of numbers. -/
import Derived.Test.YtnpnfdnaglcnfaaDoorCst
namespace Go.Proofs.YtnpnfdnaglcnfaaDoor
open Go.RowKit Go.Shelf

theorem agree_end {l m : List Int} {k : Nat} (h : ∀ j, j < k → l[j]? = m[j]?) (h1 : k ≤ l.length) (h2 : k ≤ m.length) (h3 : k = l.length ∨ k = m.length) : ((l.length : Int) == (m.length : Int)) = decide (l = m) := by
  by_cases e : l.length = m.length
  · have : l = m := List.ext_getElem? fun j => by
      by_cases hj : j < k
      · exact h j hj
      · rw [List.getElem?_eq_none (by omega), List.getElem?_eq_none (by omega)]
    rw [this]; simp
  · have hne : ¬ l = m := fun h => e (by rw [h])
    rw [decide_eq_false hne]
    simp; omega
set_option maxRecDepth 100000 in
set_option maxHeartbeats 4000000 in
/-- The kit's SameLongs. -/
theorem longs_any (A : Option Addr) (c : Nat) (l : List Int) (B : Option Addr) (d : Nat) (m : List Int) (w : World) (hl : l.length ≤ 1000000) (hm : m.length ≤ 1000000) (hA : NumL w A l) (hB : NumL w B m) :
    Calls Tryd.prog 26 #[.slice A l.length c, .slice B m.length d] w fun e w' => e = .returned (.bool (decide (l = m))) ∧ Below w.heap.size w w' := by
  have HA := Lib.hid hA
  have HB := Lib.hid hB
  have HAg := Lib.hid (fun k => agree_end (l := l) (m := m) (k := k))
  obtain ⟨N, hN⟩ : ∃ N, N = l.length := ⟨_, rfl⟩
  obtain ⟨M, hM⟩ : ∃ M, M = m.length := ⟨_, rfl⟩
  rw [← hN] at hl ⊢
  rw [← hM] at hm ⊢
  rw [← hN, ← hM] at HAg
  have HN := Lib.hid hN
  have HM := Lib.hid hM
  clear hA hB hN hM
  go_enter Tryd.func26, Tryd.ntmps26
  go_wp2
  go_loopw [5] (fun kv wr => ∃ k : Nat, kv = iv k ∧ k ≤ N ∧ k ≤ M ∧ Hid (∀ j, j < k → l[j]? = m[j]?) ∧ Hid (Below w.heap.size w wr)) (fun kv _ => N - (intOf kv).toNat)
  case atStart => exact ⟨0, rfl, Nat.zero_le _, Nat.zero_le _, Lib.hid (fun j h => by omega), Lib.hid (Below.refl _ _)⟩
  case round =>
    obtain ⟨k, rfl, hk, hkm, HE, HBr⟩ := hrel
    have k0 : (0 : Int) ≤ (k : Int) := Int.natCast_nonneg _
    by_cases hlt : k < N
    · have k1 : (k : Int) < (N : Int) := by omega
      by_cases hlm : k < M
      · have k2 : (k : Int) < (M : Int) := by omega
        obtain ⟨x, hx, _⟩ := drop_at (L := l) (k := k) (by rw [← HN.out]; exact hlt)
        obtain ⟨y, hy, _⟩ := drop_at (L := m) (k := k) (by rw [← HM.out]; exact hlm)
        obtain ⟨b1, o1, rfl, c1⟩ := (HA.out.below HBr.out).at hx
        obtain ⟨b2, o2, rfl, c2⟩ := (HB.out.below HBr.out).at hy
        have l1 := World.block_lt_of_cell? wr _ c1
        have l2 := World.block_lt_of_cell? wr _ c2
        have HX := Lib.hid hx
        have HY := Lib.hid hy
        clear hx hy
        by_cases hxy : x = y
        · subst hxy
          go_wp2
          go_quiet (fail)
          go_wp2
          refine ⟨⟨k + 1, by go_num, by omega, by omega, Lib.hid (fun j hj => ?_), Lib.hid (below_drewN HBr.out)⟩, by simp [intOf]; omega⟩
          by_cases h : j = k
          · subst h; rw [HX.out, HY.out]
          · exact HE.out j (by omega)
        · have HF : Hid (decide (l = m) = false) := Lib.hid (decide_eq_false (fun h => hxy (by have h1 := HX.out; rw [h, HY.out] at h1; exact (Option.some.inj h1).symm)))
          go_wp2
          go_quiet (fail)
          go_wp2
          go_ret
          exact ⟨by rw [HF.out]; rfl, below_drewN HBr.out⟩
      · have k2 : ¬ (k : Int) < (M : Int) := by omega
        have HF := Lib.hid (HAg.out k HE.out hk hkm (.inr (by omega)))
        go_wp2
        go_ret
        exact ⟨by rw [← HF.out]; rfl, HBr.out⟩
    · have k1 : ¬ (k : Int) < (N : Int) := by omega
      have HF := Lib.hid (HAg.out k HE.out hk hkm (.inl (by omega)))
      go_wp2
      go_ret
      exact ⟨by rw [← HF.out]; rfl, HBr.out⟩

theorem nan_any (x : Int) (w : World) : Calls Tryd.prog 89 #[iv x] w fun e w' => e = .returned (.bool false) ∧ w' = w := by
  go_enter Tryd.func89, Tryd.ntmps89
  go_wp2
  go_ret
  exact ⟨by simp, rfl⟩
set_option maxHeartbeats 4000000 in
theorem compare_any (x y : Int) (hne : x ≠ y) (w : World) : Calls Tryd.prog 62 #[iv x, iv y] w fun e w' => e = .returned (iv (if x < y then -1 else 1)) ∧ w' = w := by
  by_cases h : x < y
  · rw [if_pos h]
    go_enter Tryd.func62, Tryd.ntmps62
    go_wp2_with (first
      | (go_at_call 89; (with_reducible refine (nan_any x _).mono ?_); rintro e w1 ⟨rfl, hw⟩; obtain rfl := hw.symm)
      | (go_at_call 89; (with_reducible refine (nan_any y _).mono ?_); rintro e w1 ⟨rfl, hw⟩; obtain rfl := hw.symm))
    go_ret
    exact ⟨rfl, rfl⟩
  · rw [if_neg h]
    have h2 : y < x := by omega
    clear hne
    go_enter Tryd.func62, Tryd.ntmps62
    go_wp2_with (first
      | (go_at_call 89; (with_reducible refine (nan_any x _).mono ?_); rintro e w1 ⟨rfl, hw⟩; obtain rfl := hw.symm)
      | (go_at_call 89; (with_reducible refine (nan_any y _).mono ?_); rintro e w1 ⟨rfl, hw⟩; obtain rfl := hw.symm))
    go_ret
    exact ⟨rfl, rfl⟩
theorem ten_num {w : World} {g : Nat} {l : List Int} (h : TenAt w g l) : NumL w (some ⟨g, 0, none⟩) l := fun _ => ⟨g, 0, rfl, fun i x hi => by
  rw [Nat.zero_add, BoxAt.cell h i, List.getElem?_toArray, List.getElem?_map, hi]; rfl⟩
set_option maxRecDepth 100000 in
set_option maxHeartbeats 4000000 in
theorem Costs_ok (A : Option Addr) (cap : Nat) (bs : List (Nat × List Nd)) (B : Option Addr) (cb : Nat) (t : List (List Int)) (w : World) (hA : LawsL w A bs) (hb : BkOk bs) (hB : RowsL w B t) (ht : trE t 2 = 0) (hsh : Short t) :
    Calls Tryd.prog 34 #[.slice A bs.length cap, iv 2, .slice B t.length cb] w fun e w' => ∃ g, e = .returned (.tuple #[.slice (some ⟨g, 0, none⟩) 10 10, iv 0]) ∧ NumL w' (some ⟨g, 0, none⟩) (cstL t bs) ∧ Below w.heap.size w w' := by
  have HC := Lib.hid (costs_ok A cap bs B cb t w hA hb hB ht hsh)
  have hlk := cstL_len t bs
  generalize cstL t bs = l at *
  obtain ⟨x0, x1, x2, x3, x4, x5, x6, x7, x8, x9, rfl⟩ := arr10 l hlk
  simp only [List.map_cons, List.map_nil] at HC
  generalize bs.length = M at *
  generalize t.length = T at *
  clear hA hb hB ht hsh hlk
  go_enter Tryd.func34, Tryd.ntmps34
  go_wp2_with (go_at_call 61; (with_reducible refine HC.out.mono ?_); rintro e w1 ⟨rfl, hb1⟩)
  have hx : TenAt (w1.alloc (.cells #[iv x0, iv x1, iv x2, iv x3, iv x4, iv x5, iv x6, iv x7, iv x8, iv x9] 102)) w1.heap.size [x0, x1, x2, x3, x4, x5, x6, x7, x8, x9] := BoxAt.new w1 102 #[iv x0, iv x1, iv x2, iv x3, iv x4, iv x5, iv x6, iv x7, iv x8, iv x9]
  have hb2 := hb1.alloc hb1.size (.cells #[iv x0, iv x1, iv x2, iv x3, iv x4, iv x5, iv x6, iv x7, iv x8, iv x9] 102)
  exact bodyPost_ret (v := .tuple #[.slice (some ⟨w1.heap.size, 0, none⟩) 10 10, iv 0]) (by simp [results, Tryd.results34, go_sem]) rfl ⟨w1.heap.size, rfl, ten_num hx, hb2⟩
end Go.Proofs.YtnpnfdnaglcnfaaDoor
