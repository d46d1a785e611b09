/- Parts of a watch: opened, slices.Equal, slices.Index and slices.Contains at int64. -/
import Derived.Test.YtnpnfdnaglcnfaaDoorVa
import Derived.Test.YtnpnfdnaglcnfaaDoorTcm
import Derived.BigQuiet
namespace Go.Proofs.YtnpnfdnaglcnfaaDoor
open Go.RowKit Go.Shelf

/-- The numbers of the rows, from this one on, at which a line is open. -/
def opnL (fr : Int) (T : Nat) (F : Nat → Int) : List Int := ((List.range T).filter fun i => F i == 2).map fun i : Nat => fr + (i : Int)
theorem opnL_succ (fr : Int) (k : Nat) (F : Nat → Int) : opnL fr (k + 1) F = opnL fr k F ++ (if F k = 2 then [fr + (k : Int)] else []) := by
  unfold opnL
  rw [List.range_succ, List.filter_append, List.map_append]
  by_cases h : F k = 2 <;> simp [h]
theorem opnL_len (fr : Int) (k : Nat) (F : Nat → Int) : (opnL fr k F).length ≤ k := by
  unfold opnL
  rw [List.length_map]
  exact Nat.le_trans (List.length_filter_le _ _) (by simp)
theorem num_row {W : World} {base c : Nat} {C : Option Addr} {r : List Int} (h : W.ownsRow base 2 1 (.slice C r.length c) r.length (r.map fun x => iv x)) : NumL W C r := (row_b h).num
set_option maxRecDepth 100000 in
set_option maxHeartbeats 4000000 in
theorem opened_any (fr : Int) (v : Value) (T : Nat) (F : Nat → Int) (w : World) (hT : T ≤ 1000) (hf : 0 ≤ fr) (hf2 : fr ≤ 4000000000000000000) (hv : LineAt w v T F) :
    Calls Tryd.prog 59 #[iv fr, v] w fun e w' => ∃ (C : Option Addr) (c N : Nat), e = .returned (.slice C N c) ∧ N = (opnL fr T F).length ∧ NumL w' C (opnL fr T F) ∧ Below w.heap.size w w' := by
  obtain ⟨i1_, hj0, hy0, hy1, hy2⟩ := info_parts inf2
  have HJ0 := Lib.hid hj0
  have HY0 := Lib.hid hy0
  have HY1 := Lib.hid hy1
  have HY2 := Lib.hid hy2
  have HV := Lib.hid hv
  obtain ⟨g, c, rfl, hc, hg, _⟩ := hv.form
  clear hj0 hy0 hy1 hy2 hv
  have t0 : (0 : Int) ≤ (T : Int) := Int.natCast_nonneg _
  go_enter Tryd.func59, Tryd.ntmps59
  go_wp2
  go_loopw [5, 10] (fun ov kv wr => ∃ k : Nat, kv = iv k ∧ k ≤ T ∧ Hid (wr.ownsRow w.heap.size 2 1 ov (opnL fr k F).length ((opnL fr k F).map fun x => iv x)) ∧ Hid (Below w.heap.size w wr)) (fun _ kv _ => T - (intOf kv).toNat)
  case atStart => exact ⟨0, rfl, Nat.zero_le _, Lib.hid (World.ownsRow_nil _ _ _ _), Lib.hid (Below.refl _ _)⟩
  case round =>
    obtain ⟨k, rfl, hk, HO, HB⟩ := hrel
    have k0 : (0 : Int) ≤ (k : Int) := Int.natCast_nonneg _
    obtain ⟨Ao, co, hov⟩ := own_form HO.out
    subst hov
    by_cases hlt : k < T
    · have k1 : (k : Int) < (T : Int) := by omega
      obtain ⟨g', c', e1, _, hg2, hcell⟩ := (HV.out.below HB.out).form
      obtain ⟨rfl, rfl⟩ : g = g' ∧ c = c' := by simpa using e1
      have c0 := hcell k (by omega)
      have hl := opnL_len fr k F
      have HS := Lib.hid (opnL_succ fr k F)
      have hsz := HB.out.size
      clear hcell e1
      obtain ⟨N, hN⟩ : ∃ N, N = (opnL fr k F).length := ⟨_, rfl⟩
      rw [← hN] at HO hl ⊢
      have HN := Lib.hid hN
      clear hN
      by_cases h2 : F k = 2
      · rw [h2] at c0
        have HRA := Lib.hid (HO.out.alloc (.cells #[iv (fr + (k : Int))] 2))
        go_wp2_with (at_builtin; refine wpList_append_lies _ rfl _ _ 36 rfl w.heap.size 2 i1_ _ 1 8 Tryd.underlying36 HJ0.out HY0.out HY1.out HY2.out rfl (by decide) (.slice Ao N co) N ((opnL fr k F).map fun x => iv x) rfl HRA.out ⟨wr.heap.size, 0, none⟩ 1 1 [iv (fr + (k : Int))] rfl rfl (World.news_of_block (cs := #[iv (fr + (k : Int))]) (t := 2) (fr := (0, 0)) (World.alloc_heap_new wr (.cells #[iv (fr + (k : Int))] 2))) (by simp [Value.oneCell']) (by decide) (by unfold maxLen; omega) (by omega) (by simp; omega) _ rfl ?_; intro gg cap1 w8 hown8 hgrow hat hlt8)
        have HB8 : Hid (Below w.heap.size w w8) := Lib.hid ((HB.out.alloc HB.out.size _).grown hgrow (by have := HB.out.size; simp; omega) (fun j e => (HRA.out.lt j e).1))
        refine ⟨⟨k + 1, by go_num, by omega, Lib.hid ?_, HB8⟩, by simp [intOf]; omega⟩
        rw [HS.out, if_pos h2, List.length_append, ← HN.out, List.map_append]
        exact hown8
      · go_wp2
        refine ⟨⟨k + 1, by go_num, by omega, Lib.hid ?_, HB⟩, by simp [intOf]; omega⟩
        rw [HS.out, if_neg h2, List.append_nil, ← HN.out]
        exact HO.out
    · obtain rfl : k = T := by omega
      have k1 : ¬ (k : Int) < (k : Int) := by omega
      obtain ⟨N, hN⟩ : ∃ N, N = (opnL fr k F).length := ⟨_, rfl⟩
      have HO2 := HO
      rw [← hN] at HO ⊢
      have HN := Lib.hid hN
      clear hN
      go_wp2
      go_ret
      exact ⟨Ao, co, N, rfl, HN.out, num_row HO2.out, HB.out⟩
theorem below_drewN {B n : Nat} {w wr : World} (h : Below B w wr) : Below B w (wr.drewN n) := ⟨h.1, h.2, h.3, h.4, h.5⟩
set_option maxRecDepth 100000 in
set_option maxHeartbeats 4000000 in
/-- slices.Equal. -/
theorem equal_any (A : Option Addr) (c : Nat) (l : List Int) (B : Option Addr) (d : Nat) (m : List Int) (w : World) (hl : l.length ≤ 1000000) (hm : m.length ≤ 1000000) (hA : NumL w A l) (hB : NumL w B m) :
    Calls Tryd.prog 84 #[.slice A l.length c, .slice B m.length d] w fun e w' => e = .returned (.bool (decide (l = m))) ∧ Below w.heap.size w w' := by
  have HA := Lib.hid hA
  have HB := Lib.hid hB
  obtain ⟨N, hN⟩ : ∃ N, N = l.length := ⟨_, rfl⟩
  obtain ⟨M, hM⟩ : ∃ M, M = m.length := ⟨_, rfl⟩
  rw [← hN] at hl ⊢
  rw [← hM] at hm ⊢
  have HN := Lib.hid hN
  have HM := Lib.hid hM
  clear hA hB hN hM
  by_cases hNM : N = M
  · subst hNM
    go_enter Tryd.func84, Tryd.ntmps84
    go_wp2
    go_loopw [13] (fun kv wr => ∃ k : Nat, kv = iv k ∧ k ≤ N ∧ Hid (∀ j, j < k → l[j]? = m[j]?) ∧ Hid (Below w.heap.size w wr)) (fun kv _ => N - (intOf kv).toNat)
    case atStart => exact ⟨0, rfl, Nat.zero_le _, Lib.hid (fun j h => by omega), Lib.hid (Below.refl _ _)⟩
    case round =>
      obtain ⟨k, rfl, hk, HE, HBr⟩ := hrel
      have k0 : (0 : Int) ≤ (k : Int) := Int.natCast_nonneg _
      by_cases hlt : k < N
      · have k1 : (k : Int) < (N : Int) := by omega
        obtain ⟨x, hx, _⟩ := drop_at (L := l) (k := k) (by rw [← HN.out]; exact hlt)
        obtain ⟨y, hy, _⟩ := drop_at (L := m) (k := k) (by rw [← HM.out]; exact hlt)
        obtain ⟨b1, o1, rfl, c1⟩ := (HA.out.below HBr.out).at hx
        obtain ⟨b2, o2, rfl, c2⟩ := (HB.out.below HBr.out).at hy
        have l1 := World.block_lt_of_cell? wr _ c1
        have l2 := World.block_lt_of_cell? wr _ c2
        have HX := Lib.hid hx
        have HY := Lib.hid hy
        clear hx hy
        by_cases hxy : x = y
        · subst hxy
          go_wp2
          go_quiet (fail)
          go_wp2
          refine ⟨⟨k + 1, by go_num, by omega, Lib.hid (fun j hj => ?_), Lib.hid (below_drewN HBr.out)⟩, by simp [intOf]; omega⟩
          by_cases h : j = k
          · subst h; rw [HX.out, HY.out]
          · exact HE.out j (by omega)
        · have HF : Hid (decide (l = m) = false) := Lib.hid (decide_eq_false (fun h => hxy (by have h1 := HX.out; rw [h, HY.out] at h1; exact (Option.some.inj h1).symm)))
          go_wp2
          go_quiet (fail)
          go_wp2
          go_ret
          exact ⟨by rw [HF.out]; rfl, below_drewN HBr.out⟩
      · obtain rfl : k = N := by omega
        have k1 : ¬ (k : Int) < (k : Int) := by omega
        have HF : Hid (decide (l = m) = true) := Lib.hid (decide_eq_true (List.ext_getElem? fun j => by
          by_cases h : j < k
          · exact HE.out j h
          · rw [List.getElem?_eq_none (by rw [← HN.out]; omega), List.getElem?_eq_none (by rw [← HM.out]; omega)]))
        go_wp2
        go_ret
        exact ⟨by rw [HF.out]; rfl, HBr.out⟩
  · have HF : Hid (decide (l = m) = false) := Lib.hid (decide_eq_false (fun h => hNM (by rw [HN.out, HM.out, h])))
    have hne : ¬ (N : Int) = (M : Int) := by omega
    go_enter Tryd.func84, Tryd.ntmps84
    go_wp2
    go_ret
    exact ⟨by rw [HF.out]; rfl, Below.refl _ _⟩
set_option maxRecDepth 100000 in
set_option maxHeartbeats 4000000 in
/-- slices.Index is not negative where the value is there. -/
theorem index_any (A : Option Addr) (c : Nat) (l : List Int) (v : Int) (w : World) (hl : l.length ≤ 1000000) (hA : NumL w A l) :
    Calls Tryd.prog 106 #[.slice A l.length c, iv v] w fun e w' => ∃ r, e = .returned (iv r) ∧ (0 ≤ r ↔ v ∈ l) ∧ -1 ≤ r ∧ r ≤ 1000000 ∧ Below w.heap.size w w' := by
  have HA := Lib.hid hA
  obtain ⟨N, hN⟩ : ∃ N, N = l.length := ⟨_, rfl⟩
  rw [← hN] at hl ⊢
  have HN := Lib.hid hN
  clear hA hN
  go_enter Tryd.func106, Tryd.ntmps106
  go_wp2
  go_loopw [8] (fun kv wr => ∃ k : Nat, kv = iv k ∧ k ≤ N ∧ Hid (v ∉ l.take k) ∧ Hid (Below w.heap.size w wr)) (fun kv _ => N - (intOf kv).toNat)
  case atStart => exact ⟨0, rfl, Nat.zero_le _, Lib.hid (by simp), Lib.hid (Below.refl _ _)⟩
  case round =>
    obtain ⟨k, rfl, hk, HE, HBr⟩ := hrel
    have k0 : (0 : Int) ≤ (k : Int) := Int.natCast_nonneg _
    by_cases hlt : k < N
    · have k1 : (k : Int) < (N : Int) := by omega
      obtain ⟨x, hx, _⟩ := drop_at (L := l) (k := k) (by rw [← HN.out]; exact hlt)
      obtain ⟨b1, o1, rfl, c1⟩ := (HA.out.below HBr.out).at hx
      have l1 := World.block_lt_of_cell? wr _ c1
      have HX := Lib.hid hx
      clear hx
      by_cases hxy : v = x
      · subst hxy
        go_wp2
        go_ret
        exact ⟨(k : Int), rfl, ⟨fun _ => List.mem_of_getElem? HX.out, fun _ => k0⟩, by omega, by omega, HBr.out⟩
      · go_wp2
        refine ⟨⟨k + 1, by go_num, by omega, Lib.hid ?_, HBr⟩, by simp [intOf]; omega⟩
        rw [List.take_add_one, HX.out]
        intro h
        rcases List.mem_append.1 h with h | h
        · exact HE.out h
        · exact hxy (by simpa using h)
    · obtain rfl : k = N := by omega
      have k1 : ¬ (k : Int) < (k : Int) := by omega
      have HF : Hid (v ∉ l) := Lib.hid (by have h := HE.out; rwa [List.take_of_length_le (by rw [← HN.out]; exact Nat.le_refl _)] at h)
      go_wp2
      go_ret
      exact ⟨-1, rfl, ⟨fun h => absurd h (by decide), fun h => absurd h HF.out⟩, by decide, by decide, HBr.out⟩
set_option maxHeartbeats 1000000 in
/-- slices.Contains. -/
theorem contains_any (A : Option Addr) (c : Nat) (l : List Int) (v : Int) (w : World) (hl : l.length ≤ 1000000) (hA : NumL w A l) :
    Calls Tryd.prog 85 #[.slice A l.length c, iv v] w fun e w' => e = .returned (.bool (decide (v ∈ l))) ∧ Below w.heap.size w w' := by
  have HI := Lib.hid (index_any A c l v w hl hA)
  generalize l.length = N at *
  clear hA
  go_enter Tryd.func85, Tryd.ntmps85
  by_cases hv : v ∈ l
  · have HF : Hid (decide (v ∈ l) = true) := Lib.hid (decide_eq_true hv)
    go_wp2_with (go_at_call 106; (with_reducible refine HI.out.mono ?_); rintro e w1 ⟨r, rfl, hr, r1, r2, hb⟩; have r0 := hr.2 hv)
    go_ret
    exact ⟨by rw [HF.out]; rfl, hb⟩
  · have HF : Hid (decide (v ∈ l) = false) := Lib.hid (decide_eq_false hv)
    go_wp2_with (go_at_call 106; (with_reducible refine HI.out.mono ?_); rintro e w1 ⟨r, rfl, hr, r1, r2, hb⟩; have r0 : ¬ 0 ≤ r := fun h => hv (hr.1 h))
    go_ret
    exact ⟨by rw [HF.out]; rfl, hb⟩
end Go.Proofs.YtnpnfdnaglcnfaaDoor
