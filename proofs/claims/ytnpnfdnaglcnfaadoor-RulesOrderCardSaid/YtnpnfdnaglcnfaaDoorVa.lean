/- Verdicts: negated, decisive, at, worst and its closure. -/
import Derived.Test.YtnpnfdnaglcnfaaDoorFld
namespace Go.Proofs.YtnpnfdnaglcnfaaDoor
open Go.RowKit Go.Shelf

/-- A line in memory: its own block of ints. -/
def LineAt (W : World) (v : Value) (T : Nat) (a : Nat → Int) : Prop := ∃ g c cs, v = .slice (some ⟨g, 0, none⟩) (T + 1) c ∧ T + 1 ≤ c ∧ W.heap[g]? = some (.cells cs 3 (0, 0)) ∧ ∀ i, i ≤ T → cs[i]? = some (iv (a i))
theorem LineAt.kt {W W' : World} {v : Value} {T : Nat} {a : Nat → Int} (h : LineAt W v T a) (hk : Kt W W') : LineAt W' v T a := by
  obtain ⟨g, c, cs, h1, h0, h2, h3⟩ := h
  exact ⟨g, c, cs, h1, h0, hk _ _ h2, h3⟩
theorem LineAt.below {W W' : World} {v : Value} {T : Nat} {a : Nat → Int} (h : LineAt W v T a) (hb : Below W.heap.size W W') : LineAt W' v T a := h.kt (Kt.of_below hb)
theorem LineAt.form {W : World} {v : Value} {T : Nat} {a : Nat → Int} (h : LineAt W v T a) : ∃ g c, v = .slice (some ⟨g, 0, none⟩) (T + 1) c ∧ T + 1 ≤ c ∧ g < W.heap.size ∧ ∀ i, i ≤ T → W.cell? ⟨g, i, none⟩ = some (iv (a i)) := by
  obtain ⟨g, c, cs, h1, h0, h2, h3⟩ := h
  refine ⟨g, c, h1, h0, (Array.getElem?_eq_some_iff.1 h2).1, fun i hi => ?_⟩
  have : BoxAt W g 3 cs := h2
  rw [this.cell i, h3 i hi]
/-- One block alone is changed. -/
def Off1 (L : Nat) (W W' : World) : Prop := W'.os = W.os ∧ W'.tape = W.tape ∧ W'.output = W.output ∧ W.heap.size ≤ W'.heap.size ∧ ∀ k, k < W.heap.size → k ≠ L → W'.heap[k]? = W.heap[k]?
theorem Off1.refl (L : Nat) (W : World) : Off1 L W W := ⟨rfl, rfl, rfl, Nat.le_refl _, fun _ _ _ => rfl⟩
theorem Off1.set {L i : Nat} {W W' : World} {v : Value} (h : Off1 L W W') : Off1 L W (W'.setCell ⟨L, i, none⟩ v) := by
  obtain ⟨h1, h2, h3, h4, h5⟩ := h
  exact ⟨h1, h2, h3, by simpa using h4, fun k hk hn => (Below.heap_setCell _ _ _ _ hn).trans (h5 k hk hn)⟩
theorem Off1.below {L B : Nat} {A W W' : World} (h : Off1 L W W') (hb : Below B A W) (hL : B ≤ L) (hB : B ≤ W.heap.size) : Below B A W' := by
  obtain ⟨h1, h2, h3, h4, h5⟩ := h
  exact hb.trans ⟨h1, h2, h3, h4, fun k hk => h5 k (by omega) (by omega)⟩
theorem Off1.box {L g t : Nat} {cs : Array Value} {W W' : World} (h : Off1 L W W') (hb : BoxAt W g t cs) (hn : g ≠ L) : BoxAt W' g t cs := (h.2.2.2.2 g hb.lt hn).trans hb

theorem neg_any (v : Int) (w : World) : Calls Tryd.prog 101 #[iv v] w fun e w' => e = .returned (iv (negV v)) ∧ w' = w := by
  go_enter Tryd.func101, Tryd.ntmps101
  go_wp2
  all_goals go_ret
  all_goals (refine ⟨?_, rfl⟩)
  all_goals simp_all [negV]
theorem des_any (v : Int) (w : World) : Calls Tryd.prog 103 #[iv v] w fun e w' => e = .returned (iv (desV v)) ∧ w' = w := by
  go_enter Tryd.func103, Tryd.ntmps103
  go_wp2
  all_goals go_ret
  all_goals (refine ⟨?_, rfl⟩)
  all_goals simp_all [desV]
set_option maxRecDepth 100000 in
set_option maxHeartbeats 2000000 in
theorem at_any (v : Value) (T i : Nat) (a : Nat → Int) (w : World) (hT : T ≤ 1000000) (hi : i ≤ 9223372036854775807) (h : LineAt w v T a) :
    Calls Tryd.prog 54 #[v, iv i] w fun e w' => e = .returned (iv (atL T a i)) ∧ w' = w := by
  obtain ⟨g, c, rfl, _, hg, hc⟩ := h.form
  have c0 := hc (min i T) (by omega)
  have HA : Hid (atL T a i = a (min i T)) := Lib.hid rfl
  rw [HA.out]
  have i0 : (0 : Int) ≤ (i : Int) := Int.natCast_nonneg _
  have t0 : (0 : Int) ≤ (T : Int) := Int.natCast_nonneg _
  clear hc h
  by_cases hlt : i ≤ T
  · have e : min i T = i := by omega
    rw [e] at c0 ⊢
    have m1 : (i : Int) < (T : Int) ∨ (i : Int) = (T : Int) := by omega
    have m2 : (i : Int) ≤ (T : Int) := by omega
    have m3 : (i : Int) < (T : Int) + 1 := by omega
    clear e
    rcases m1 with m1 | m1
    · have m4 : ¬ (T : Int) < (i : Int) := by omega
      have m5 : ¬ (T : Int) ≤ (i : Int) := by omega
      go_enter Tryd.func54, Tryd.ntmps54
      go_wp2
      go_ret
      exact ⟨rfl, rfl⟩
    · obtain rfl : i = T := by omega
      go_enter Tryd.func54, Tryd.ntmps54
      go_wp2
      go_ret
      exact ⟨rfl, rfl⟩
  · have e : min i T = T := by omega
    rw [e] at c0 ⊢
    have m1 : (T : Int) < (i : Int) := by omega
    have m2 : (T : Int) ≤ (i : Int) := by omega
    have m4 : ¬ (i : Int) < (T : Int) := by omega
    have m5 : ¬ (i : Int) ≤ (T : Int) := by omega
    have m3 : (T : Int) < (T : Int) + 1 := by omega
    clear e
    go_enter Tryd.func54, Tryd.ntmps54
    go_wp2
    go_ret
    exact ⟨rfl, rfl⟩
theorem worst_any (d : Int) (w : World) : Calls Tryd.prog 102 #[iv d] w fun e w' => ∃ Ld Ls, e = .returned (.func (.func 116) #[] #[.pointer (some ⟨Ld, 0, none⟩), .pointer (some ⟨Ls, 0, none⟩)]) ∧ BoxAt w' Ld 3 #[iv d] ∧ BoxAt w' Ls 3 #[iv (negV d)] ∧ Ld ≠ Ls ∧ w.heap.size ≤ Ld ∧ w.heap.size ≤ Ls ∧ Below w.heap.size w w' := by
  go_enter Tryd.func102, Tryd.ntmps102
  go_wp2_with (go_at_call 101; (with_reducible refine (neg_any _ _).mono ?_); rintro e w1 ⟨rfl, rfl⟩)
  go_ret
  have h1 := BoxAt.new w 3 #[iv d]
  have h2 := BoxAt.new (w.alloc (.cells #[iv d] 3)) 3 #[iv (negV d)]
  rw [World.size_alloc] at h2
  exact ⟨_, _, rfl, h1.alloc _, h2, by omega, Nat.le_refl _, by omega, ((Below.refl _ w).alloc (Nat.le_refl _) _).alloc (by simp) _⟩
set_option maxRecDepth 100000 in
set_option maxHeartbeats 4000000 in
theorem wst_fn (A : Option Addr) (cap : Nat) (l : List Int) (d so : Int) (Ld Ls : Nat) (w : World) (hl : l.length ≤ 1000000) (hA : NumL w A l) (hn : ∀ a, A = some a → a.block ≠ Ls) (hne : Ld ≠ Ls) (hd : BoxAt w Ld 3 #[iv d]) (hs : BoxAt w Ls 3 #[iv so]) :
    Calls Tryd.prog 116 #[.slice A l.length cap, .pointer (some ⟨Ld, 0, none⟩), .pointer (some ⟨Ls, 0, none⟩)] w fun e w' => e = .returned (iv (wst d so l)) ∧ Off1 Ls w w' ∧ BoxAt w' Ls 3 #[iv (wst d so l)] := by
  have HA := Lib.hid hA
  have HNe := Lib.hid hn
  have HD := Lib.hid hd
  have HS := Lib.hid hs
  obtain ⟨r, hr⟩ : ∃ r, r = wst d so l := ⟨_, rfl⟩
  rw [← hr]
  have HR := Lib.hid hr
  clear hA hr hn hd hs
  obtain ⟨N, hN⟩ : ∃ N, N = l.length := ⟨_, rfl⟩
  rw [← hN] at hl ⊢
  have HN := Lib.hid hN
  clear hN
  go_enter Tryd.func116, Tryd.ntmps116
  go_wp2
  go_loopw [9] (fun i wr => ∃ (k : Nat) (s : Int), k ≤ N ∧ i = iv k ∧ Hid (wst d s (l.drop k) = r) ∧ Hid (BoxAt wr Ls 3 #[iv s]) ∧ Hid (Off1 Ls w wr)) (fun i _ => N - (intOf i).toNat)
  case atStart => exact ⟨0, so, Nat.zero_le _, rfl, Lib.hid HR.out.symm, HS, Lib.hid (Off1.refl _ _)⟩
  case round =>
    obtain ⟨k, s, hk, rfl, HO, HB, HF⟩ := hrel
    have s0 : wr.cell? ⟨Ls, 0, none⟩ = some (iv s) := HB.out.cell 0
    have s1 : wr.frozen? ⟨Ls, 0, none⟩ = false := HB.out.frozen 0
    have s2 := HB.out.lt
    by_cases hlt : k < N
    · have i0 : (0 : Int) ≤ (k : Int) := Int.natCast_nonneg _
      have i1 : (k : Int) < (N : Int) := by omega
      obtain ⟨v, hv, hdr⟩ := drop_at (L := l) (k := k) (by rw [← HN.out]; exact hlt)
      obtain ⟨b, off, rfl, c00⟩ := HA.out.at hv
      have c0 : wr.cell? ⟨b, off + k, none⟩ = some (iv v) := by
        have hbl := World.block_lt_of_cell? w _ c00
        have e := HF.out.2.2.2.2 b hbl (HNe.out _ rfl)
        unfold World.cell? at c00 ⊢
        rw [e]
        exact c00
      have l0 : b < wr.heap.size := World.block_lt_of_cell? wr _ c0
      have hdb := HF.out.box HD.out hne
      have d0 : wr.cell? ⟨Ld, 0, none⟩ = some (iv d) := hdb.cell 0
      have d1 := hdb.lt
      have HO2 : Hid (wst d (wst1 d s v) (l.drop (k + 1)) = r) := Lib.hid (by rw [← HO.out, hdr]; rfl)
      clear hv hdr c00 HO hdb
      by_cases h1 : v = d
      · have HO3 : Hid (wst d v (l.drop (k + 1)) = r) := Lib.hid (by have h := HO2.out; rwa [wst1, if_pos (Or.inl h1)] at h)
        have HB3 := Lib.hid (HB.out.set 0 (iv v))
        have HF3 := Lib.hid (HF.out.set (i := 0) (v := iv v))
        have e1 : (v == d) = true := by simp [h1]
        clear h1
        go_wp2
        go_roundw
        case rel => exact ⟨k + 1, v, by omega, by go_num, HO3, HB3, HF3⟩
        case measure => simp [intOf]; omega
      · have e1 : (v == d) = false := by simp [h1]
        by_cases h2 : v = 2
        · subst h2
          by_cases h3 : s = d
          · subst h3
            have HO3 : Hid (wst s s (l.drop (k + 1)) = r) := Lib.hid (by have h := HO2.out; rwa [wst1, if_neg (by simp [h1])] at h)
            go_wp2
            go_roundw
            case rel => exact ⟨k + 1, s, by omega, by go_num, HO3, HB, HF⟩
            case measure => simp [intOf]; omega
          · have HO3 : Hid (wst d 2 (l.drop (k + 1)) = r) := Lib.hid (by have h := HO2.out; rwa [wst1, if_pos (Or.inr ⟨rfl, h3⟩)] at h)
            have HB3 := Lib.hid (HB.out.set 0 (iv 2))
            have HF3 := Lib.hid (HF.out.set (i := 0) (v := iv 2))
            have e3 : (s == d) = false := by simp [h3]
            go_wp2
            go_roundw
            case rel => exact ⟨k + 1, 2, by omega, by go_num, HO3, HB3, HF3⟩
            case measure => simp [intOf]; omega
        · have HO3 : Hid (wst d s (l.drop (k + 1)) = r) := Lib.hid (by have h := HO2.out; rwa [wst1, if_neg (by simp [h1, h2])] at h)
          have e2 : (v == 2) = false := by simp [h2]
          go_wp2
          go_roundw
          case rel => exact ⟨k + 1, s, by omega, by go_num, HO3, HB, HF⟩
          case measure => simp [intOf]; omega
    · obtain rfl : k = N := by omega
      have HO2 : Hid (s = r) := Lib.hid (by have h := HO.out; rw [HN.out, drop_end l] at h; exact h)
      go_wp2
      go_ret
      exact ⟨by rw [← HO2.out]; rfl, HF.out, by rw [← HO2.out]; exact HB.out⟩
end Go.Proofs.YtnpnfdnaglcnfaaDoor
