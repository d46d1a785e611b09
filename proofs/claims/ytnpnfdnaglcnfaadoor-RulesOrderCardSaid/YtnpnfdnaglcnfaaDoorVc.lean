/- Verdicts: the worst of a window. -/
import Derived.Test.YtnpnfdnaglcnfaaDoorVb
namespace Go.Proofs.YtnpnfdnaglcnfaaDoor
open Go.RowKit Go.Shelf

theorem wst_n (A : Option Addr) (n cap : Nat) (l : List Int) (d so : Int) (Ld Ls : Nat) (w : World) (hn' : n = l.length) (hl : l.length ≤ 1000000) (hA : NumL w A l) (hn : ∀ a, A = some a → a.block ≠ Ls) (hne : Ld ≠ Ls) (hd : BoxAt w Ld 3 #[iv d]) (hs : BoxAt w Ls 3 #[iv so]) :
    Calls Tryd.prog 116 #[.slice A n cap, .pointer (some ⟨Ld, 0, none⟩), .pointer (some ⟨Ls, 0, none⟩)] w fun e w' => e = .returned (iv (wst d so l)) ∧ Off1 Ls w w' ∧ BoxAt w' Ls 3 #[iv (wst d so l)] := by
  subst hn'
  exact wst_fn A cap l d so Ld Ls w hl hA hn hne hd hs
set_option maxRecDepth 100000 in
set_option maxHeartbeats 4000000 in
theorem bet_any (v : Value) (T lo hi : Nat) (a : Nat → Int) (d : Int) (w : World) (hT : T ≤ 100000) (hi2 : hi ≤ 1000000) (hlh : lo ≤ hi) (h : LineAt w v T a) :
    Calls Tryd.prog 104 #[v, iv lo, iv hi, iv d] w fun e w' => e = .returned (iv (wst d (negV d) (betL T a lo hi))) ∧ Below w.heap.size w w' := by
  have HL := Lib.hid h
  obtain ⟨g, c, rfl, hcap, hg, hc⟩ := h.form
  have q0 : (T : Int) + 1 ≤ (c : Int) := by omega
  have HC := Lib.hid hc
  have HW := Lib.hid (fun W => worst_any d W)
  obtain ⟨r, hr⟩ : ∃ r, r = wst d (negV d) (betL T a lo hi) := ⟨_, rfl⟩
  have H116 : Hid (∀ (p q : Nat), p = min lo T → q = min hi T → ∀ (Ld Ls : Nat) (W : World), Below w.heap.size w W → BoxAt W Ld 3 #[iv d] → BoxAt W Ls 3 #[iv (negV d)] → Ld ≠ Ls → w.heap.size ≤ Ls →
      Calls Tryd.prog 116 #[.slice (some ⟨g, p, none⟩) (q + 1 - p) (c - p), .pointer (some ⟨Ld, 0, none⟩), .pointer (some ⟨Ls, 0, none⟩)] W fun e w' => e = .returned (iv r) ∧ Below w.heap.size w w') := Lib.hid (fun p q hp hq Ld Ls W hb hd hs hne hls =>
    (wst_n (some ⟨g, p, none⟩) (q + 1 - p) (c - p) (betL T a lo hi) d (negV d) Ld Ls W (by unfold betL; rw [List.length_map, List.length_range, hp, hq]) (by unfold betL; rw [List.length_map, List.length_range]; exact Nat.le_trans (Nat.sub_le _ _) (by have := Nat.min_le_right hi T; omega))
      (fun _ => ⟨g, p, rfl, fun i x hix => by
        unfold betL at hix
        rw [List.getElem?_map] at hix
        obtain ⟨j, hj, rfl⟩ := Option.map_eq_some_iff.1 hix
        obtain ⟨hjl, hje⟩ := List.getElem?_eq_some_iff.1 hj
        rw [List.length_range] at hjl
        rw [List.getElem_range] at hje
        subst hje
        have h1 := HC.out (min lo T + i) (by omega)
        rw [hp]
        exact (hb.cell (p := ⟨g, min lo T + i, none⟩) hg).trans h1⟩)
      (fun a' ha' => by cases ha'; show g ≠ Ls; omega) hne hd hs).mono fun e w' h => ⟨by rw [hr]; exact h.1, h.2.1.below hb hls hb.size⟩)
  rw [← hr]
  have i0 : (0 : Int) ≤ (lo : Int) := Int.natCast_nonneg _
  have j0 : (0 : Int) ≤ (hi : Int) := Int.natCast_nonneg _
  have t0 : (0 : Int) ≤ (T : Int) := Int.natCast_nonneg _
  clear hc h hr
  by_cases m1 : T < lo
  · have k1 : ¬ c < T + 1 := by omega
    have k2 : ¬ T + 1 < T := by omega
    have k3 : ¬ c = T := by omega
    have k4 : ¬ T = c := by omega
    have k5 : T ≤ T + 1 := by omega
    have k6 : T + 1 ≤ c := by omega
    have k7 : (T : Int) + 1 ≤ (c : Int) := by omega
    have wr1 : IntKind.i64.wrap ((T : Int) + 1) = (T : Int) + 1 := IntWalk.i64_in _ (by omega)
    have mx1 : max ((T : Int) + 1) 0 = (T : Int) + 1 := by omega
    have k8 : (0 : Int) ≤ (T : Int) + 1 := by omega
    have k9 : (T : Int) ≤ (T : Int) + 1 := by omega
    have l1 : ¬ (T : Int) = (c : Int) := by omega
    have l2 : ¬ (T : Int) + 1 < (T : Int) := by omega
    have l3 : ¬ (c : Int) < (T : Int) + 1 := by omega
    have m3 : (T : Int) < (lo : Int) := by omega
    have m4 : (T : Int) < (hi : Int) := by omega
    have m5 : T < lo := by omega
    have m6 : T < hi := by omega
    have HX := Lib.hid (H116.out T T (by omega) (by omega))
    simp only [show T + 1 - T = 1 from by omega] at HX
    go_enter Tryd.func104, Tryd.ntmps104
    go_wp2
    refine wp_region_noPanic ?_
    refine wp_region_held_drew (S := fun _ => True) (by kernel_rfl) trivial (fun hHeld => ?_)
    refine wpAnyH_take (i := 0) (oi := { dst := some 13, op := Op.move (Operand.tmp 3), type := 3, pos := "verdict.go:113", after := #[], guard := none }) (v := iv d) rfl (by kernel_rfl) (by kernel_rfl) (by kernel_rfl) (fun _ _ _ h => h) (Or.inl ⟨by rfl, (by intro w0 hSw; (try dsimp only at hSw); go_simp)⟩) (by assumption) ?_
    (try simp only [Act.put, List.setIfInBounds_toArray, List.set_cons_zero, List.set_cons_succ])
    refine wpAnyH_take (i := 2) (oi := { dst := some 15, op := Op.move (Operand.tmp 0), type := 95, pos := "verdict.go:113", after := #[], guard := none }) (v := .slice (some ⟨g, 0, none⟩) (T + 1) c) rfl (by kernel_rfl) (by kernel_rfl) (by kernel_rfl) (fun _ _ _ h => h) (Or.inl ⟨by rfl, (by intro w0 hSw; (try dsimp only at hSw); go_simp)⟩) (by assumption) ?_
    (try simp only [Act.put, List.setIfInBounds_toArray, List.set_cons_zero, List.set_cons_succ])
    refine wpAnyH_take (i := 3) (oi := { dst := some 16, op := Op.move (Operand.tmp 1), type := 3, pos := "verdict.go:113", after := #[], guard := none }) (v := iv lo) rfl (by kernel_rfl) (by kernel_rfl) (by kernel_rfl) (fun _ _ _ h => h) (Or.inl ⟨by rfl, (by intro w0 hSw; (try dsimp only at hSw); go_simp)⟩) (by assumption) ?_
    (try simp only [Act.put, List.setIfInBounds_toArray, List.set_cons_zero, List.set_cons_succ])
    refine wpAnyH_take (i := 4) (oi := { dst := some 17, op := Op.move (Operand.tmp 9), type := 3, pos := "verdict.go:113", after := #[], guard := none }) (v := iv T) rfl (by kernel_rfl) (by kernel_rfl) (by kernel_rfl) (fun _ _ _ h => h) (Or.inl ⟨by rfl, (by intro w0 hSw; (try dsimp only at hSw); go_simp)⟩) (by assumption) ?_
    (try simp only [Act.put, List.setIfInBounds_toArray, List.set_cons_zero, List.set_cons_succ])
    refine wpAnyH_take (i := 6) (oi := { dst := some 19, op := Op.move (Operand.tmp 2), type := 3, pos := "verdict.go:113", after := #[], guard := none }) (v := iv hi) rfl (by kernel_rfl) (by kernel_rfl) (by kernel_rfl) (fun _ _ _ h => h) (Or.inl ⟨by rfl, (by intro w0 hSw; (try dsimp only at hSw); go_simp)⟩) (by assumption) ?_
    (try simp only [Act.put, List.setIfInBounds_toArray, List.set_cons_zero, List.set_cons_succ])
    refine wpAnyH_take (i := 7) (oi := { dst := some 20, op := Op.move (Operand.tmp 9), type := 3, pos := "verdict.go:113", after := #[], guard := none }) (v := iv T) rfl (by kernel_rfl) (by kernel_rfl) (by kernel_rfl) (fun _ _ _ h => h) (Or.inl ⟨by rfl, (by intro w0 hSw; (try dsimp only at hSw); go_simp)⟩) (by assumption) ?_
    (try simp only [Act.put, List.setIfInBounds_toArray, List.set_cons_zero, List.set_cons_succ])
    refine wpAnyH_take (i := 5) (oi := { dst := some 18, op := Op.call { callee := Callee.builtin Builtin.min, args := #[Operand.tmp 16, Operand.tmp 17], argTypes := #[3, 3] }, type := 3, pos := "verdict.go:113", after := #[{ on := 3, ground := Ground.data }, { on := 4, ground := Ground.data }], guard := none }) (v := iv T) rfl (by kernel_rfl) (by kernel_rfl) (by kernel_rfl) (fun _ _ _ h => h) (Or.inl ⟨by rfl, (by intro w0 hSw; (try dsimp only at hSw); go_simp)⟩) (by assumption) ?_
    (try simp only [Act.put, List.setIfInBounds_toArray, List.set_cons_zero, List.set_cons_succ])
    refine wpAnyH_take (i := 8) (oi := { dst := some 21, op := Op.call { callee := Callee.builtin Builtin.min, args := #[Operand.tmp 19, Operand.tmp 20], argTypes := #[3, 3] }, type := 3, pos := "verdict.go:113", after := #[{ on := 6, ground := Ground.data }, { on := 7, ground := Ground.data }], guard := none }) (v := iv T) rfl (by kernel_rfl) (by kernel_rfl) (by kernel_rfl) (fun _ _ _ h => h) (Or.inl ⟨by rfl, (by intro w0 hSw; (try dsimp only at hSw); go_simp)⟩) (by assumption) ?_
    (try simp only [Act.put, List.setIfInBounds_toArray, List.set_cons_zero, List.set_cons_succ])
    refine wpAnyH_take (i := 9) (oi := { dst := some 22, op := Op.binOp BinOp.add 3 (Operand.tmp 21) (Operand.const (Value.int IntKind.i64 1)) 3, type := 3, pos := "verdict.go:113", after := #[{ on := 8, ground := Ground.data }], guard := none }) (v := iv ((T : Int) + 1)) rfl (by kernel_rfl) (by kernel_rfl) (by kernel_rfl) (fun _ _ _ h => h) (Or.inl ⟨by rfl, (by intro w0 hSw; (try dsimp only at hSw); go_simp)⟩) (by assumption) ?_
    (try simp only [Act.put, List.setIfInBounds_toArray, List.set_cons_zero, List.set_cons_succ])
    refine wpAnyH_take (i := 10) (oi := { dst := some 23, op := Op.slice 95 (Operand.tmp 15) (some (Operand.tmp 18)) (some (Operand.tmp 22)) none, type := 95, pos := "verdict.go:113", after := #[{ on := 2, ground := Ground.data }, { on := 5, ground := Ground.data }, { on := 9, ground := Ground.data }], guard := none }) (v := .slice (some ⟨g, T, none⟩) 1 (c - T)) rfl (by kernel_rfl) (by kernel_rfl) (by kernel_rfl) (fun _ _ _ h => h) (Or.inl ⟨by rfl, (by intro w0 hSw; (try dsimp only at hSw); go_simp)⟩) (by assumption) ?_
    (try simp only [Act.put, List.setIfInBounds_toArray, List.set_cons_zero, List.set_cons_succ])
    refine wpAnyH_ready (rs := [1]) (by kernel_rfl) (by simp) ?_
    refine AllReadyH.cons (o := { dst := some 14, op := Op.call { callee := Callee.value (Operand.func 102), args := #[Operand.tmp 13], argTypes := #[3] }, type := 153, pos := "verdict.go:113", after := #[{ on := 0, ground := Ground.data }], guard := none }) rfl (fun K hK => ?_) AllReadyH.nil
    go_simp
    go_at_call 102
    (with_reducible refine (HW.out _).mono ?_)
    rintro e w1 ⟨Ld, Ls, rfl, hd, hs, hne, hgd, hgs, hb⟩
    have HD1 := Lib.hid hd
    have HS1 := Lib.hid hs
    have HB1 : Hid (Below w.heap.size w w1) := Lib.hid ⟨hb.os, hb.tape, hb.output, hb.size, hb.block⟩
    have hgs1 : w.heap.size ≤ Ls := hgs
    clear hd hs hb hgs hgd
    refine hK.out _ _ trivial (fun hHeld => ?_)
    clear hK K
    (try simp only [Act.put, List.setIfInBounds_toArray, List.set_cons_zero, List.set_cons_succ])
    refine wpAnyH_ready (rs := [11]) (by kernel_rfl) (by simp) ?_
    refine AllReadyH.cons (o := { dst := some 24, op := Op.call { callee := Callee.value (Operand.tmp 14), args := #[Operand.tmp 23], argTypes := #[44] }, type := 3, pos := "verdict.go:113", after := #[{ on := 1, ground := Ground.data }, { on := 10, ground := Ground.data }, { on := 1, ground := Ground.chain }], guard := none }) rfl (fun K hK => ?_) AllReadyH.nil
    go_simp
    go_at_call 116
    (with_reducible refine (HX.out Ld Ls _ HB1.out HD1.out HS1.out hne hgs1).mono ?_)
    rintro e w2 ⟨rfl, hb2⟩
    have HB2 := Lib.hid hb2
    clear hb2
    refine hK.out _ _ trivial (fun hHeld => ?_)
    clear hK K
    (try simp only [Act.put, List.setIfInBounds_toArray, List.set_cons_zero, List.set_cons_succ])
    refine wpAnyH_take (i := 12) (oi := { dst := some 8, op := Op.assign (Operand.tmp 24), type := 3, pos := "verdict.go:113", after := #[{ on := 11, ground := Ground.data }, { on := 11, ground := Ground.chain }, { on := 0, ground := Ground.phase }, { on := 1, ground := Ground.phase }, { on := 2, ground := Ground.phase }, { on := 3, ground := Ground.phase }, { on := 4, ground := Ground.phase }, { on := 5, ground := Ground.phase }, { on := 6, ground := Ground.phase }, { on := 7, ground := Ground.phase }, { on := 8, ground := Ground.phase }, { on := 9, ground := Ground.phase }, { on := 10, ground := Ground.phase }, { on := 11, ground := Ground.phase }], guard := none }) (v := iv r) rfl (by kernel_rfl) (by kernel_rfl) (by kernel_rfl) (fun _ _ _ h => h) (Or.inl ⟨by rfl, (by intro w0 hSw; (try dsimp only at hSw); go_simp)⟩) (by assumption) ?_
    (try simp only [Act.put, List.setIfInBounds_toArray, List.set_cons_zero, List.set_cons_succ])
    refine wpAnyH_done (by kernel_rfl) ?_ _
    refine NoPanic.normal ?_
    go_wp2
    go_ret
    exact ⟨rfl, HB2.out⟩
  · by_cases m2 : T < hi
    · have k1 : ¬ c < T + 1 := by omega
      have k2 : ¬ T + 1 < lo := by omega
      have k3 : ¬ c = lo := by omega
      have k4 : ¬ lo = c := by omega
      have k5 : lo ≤ T + 1 := by omega
      have k6 : T + 1 ≤ c := by omega
      have k7 : (T : Int) + 1 ≤ (c : Int) := by omega
      have wr1 : IntKind.i64.wrap ((T : Int) + 1) = (T : Int) + 1 := IntWalk.i64_in _ (by omega)
      have mx1 : max ((T : Int) + 1) 0 = (T : Int) + 1 := by omega
      have k8 : (0 : Int) ≤ (T : Int) + 1 := by omega
      have k9 : (lo : Int) ≤ (T : Int) + 1 := by omega
      have l1 : ¬ (lo : Int) = (c : Int) := by omega
      have l2 : ¬ (T : Int) + 1 < (lo : Int) := by omega
      have l3 : ¬ (c : Int) < (T : Int) + 1 := by omega
      have m3 : ¬ (T : Int) < (lo : Int) := by omega
      have m4 : (T : Int) < (hi : Int) := by omega
      have m5 : ¬ T < lo := by omega
      have m6 : T < hi := by omega
      have HX := Lib.hid (H116.out lo T (by omega) (by omega))
      go_enter Tryd.func104, Tryd.ntmps104
      go_wp2
      refine wp_region_noPanic ?_
      refine wp_region_held_drew (S := fun _ => True) (by kernel_rfl) trivial (fun hHeld => ?_)
      refine wpAnyH_take (i := 0) (oi := { dst := some 13, op := Op.move (Operand.tmp 3), type := 3, pos := "verdict.go:113", after := #[], guard := none }) (v := iv d) rfl (by kernel_rfl) (by kernel_rfl) (by kernel_rfl) (fun _ _ _ h => h) (Or.inl ⟨by rfl, (by intro w0 hSw; (try dsimp only at hSw); go_simp)⟩) (by assumption) ?_
      (try simp only [Act.put, List.setIfInBounds_toArray, List.set_cons_zero, List.set_cons_succ])
      refine wpAnyH_take (i := 2) (oi := { dst := some 15, op := Op.move (Operand.tmp 0), type := 95, pos := "verdict.go:113", after := #[], guard := none }) (v := .slice (some ⟨g, 0, none⟩) (T + 1) c) rfl (by kernel_rfl) (by kernel_rfl) (by kernel_rfl) (fun _ _ _ h => h) (Or.inl ⟨by rfl, (by intro w0 hSw; (try dsimp only at hSw); go_simp)⟩) (by assumption) ?_
      (try simp only [Act.put, List.setIfInBounds_toArray, List.set_cons_zero, List.set_cons_succ])
      refine wpAnyH_take (i := 3) (oi := { dst := some 16, op := Op.move (Operand.tmp 1), type := 3, pos := "verdict.go:113", after := #[], guard := none }) (v := iv lo) rfl (by kernel_rfl) (by kernel_rfl) (by kernel_rfl) (fun _ _ _ h => h) (Or.inl ⟨by rfl, (by intro w0 hSw; (try dsimp only at hSw); go_simp)⟩) (by assumption) ?_
      (try simp only [Act.put, List.setIfInBounds_toArray, List.set_cons_zero, List.set_cons_succ])
      refine wpAnyH_take (i := 4) (oi := { dst := some 17, op := Op.move (Operand.tmp 9), type := 3, pos := "verdict.go:113", after := #[], guard := none }) (v := iv T) rfl (by kernel_rfl) (by kernel_rfl) (by kernel_rfl) (fun _ _ _ h => h) (Or.inl ⟨by rfl, (by intro w0 hSw; (try dsimp only at hSw); go_simp)⟩) (by assumption) ?_
      (try simp only [Act.put, List.setIfInBounds_toArray, List.set_cons_zero, List.set_cons_succ])
      refine wpAnyH_take (i := 6) (oi := { dst := some 19, op := Op.move (Operand.tmp 2), type := 3, pos := "verdict.go:113", after := #[], guard := none }) (v := iv hi) rfl (by kernel_rfl) (by kernel_rfl) (by kernel_rfl) (fun _ _ _ h => h) (Or.inl ⟨by rfl, (by intro w0 hSw; (try dsimp only at hSw); go_simp)⟩) (by assumption) ?_
      (try simp only [Act.put, List.setIfInBounds_toArray, List.set_cons_zero, List.set_cons_succ])
      refine wpAnyH_take (i := 7) (oi := { dst := some 20, op := Op.move (Operand.tmp 9), type := 3, pos := "verdict.go:113", after := #[], guard := none }) (v := iv T) rfl (by kernel_rfl) (by kernel_rfl) (by kernel_rfl) (fun _ _ _ h => h) (Or.inl ⟨by rfl, (by intro w0 hSw; (try dsimp only at hSw); go_simp)⟩) (by assumption) ?_
      (try simp only [Act.put, List.setIfInBounds_toArray, List.set_cons_zero, List.set_cons_succ])
      refine wpAnyH_take (i := 5) (oi := { dst := some 18, op := Op.call { callee := Callee.builtin Builtin.min, args := #[Operand.tmp 16, Operand.tmp 17], argTypes := #[3, 3] }, type := 3, pos := "verdict.go:113", after := #[{ on := 3, ground := Ground.data }, { on := 4, ground := Ground.data }], guard := none }) (v := iv lo) rfl (by kernel_rfl) (by kernel_rfl) (by kernel_rfl) (fun _ _ _ h => h) (Or.inl ⟨by rfl, (by intro w0 hSw; (try dsimp only at hSw); go_simp)⟩) (by assumption) ?_
      (try simp only [Act.put, List.setIfInBounds_toArray, List.set_cons_zero, List.set_cons_succ])
      refine wpAnyH_take (i := 8) (oi := { dst := some 21, op := Op.call { callee := Callee.builtin Builtin.min, args := #[Operand.tmp 19, Operand.tmp 20], argTypes := #[3, 3] }, type := 3, pos := "verdict.go:113", after := #[{ on := 6, ground := Ground.data }, { on := 7, ground := Ground.data }], guard := none }) (v := iv T) rfl (by kernel_rfl) (by kernel_rfl) (by kernel_rfl) (fun _ _ _ h => h) (Or.inl ⟨by rfl, (by intro w0 hSw; (try dsimp only at hSw); go_simp)⟩) (by assumption) ?_
      (try simp only [Act.put, List.setIfInBounds_toArray, List.set_cons_zero, List.set_cons_succ])
      refine wpAnyH_take (i := 9) (oi := { dst := some 22, op := Op.binOp BinOp.add 3 (Operand.tmp 21) (Operand.const (Value.int IntKind.i64 1)) 3, type := 3, pos := "verdict.go:113", after := #[{ on := 8, ground := Ground.data }], guard := none }) (v := iv ((T : Int) + 1)) rfl (by kernel_rfl) (by kernel_rfl) (by kernel_rfl) (fun _ _ _ h => h) (Or.inl ⟨by rfl, (by intro w0 hSw; (try dsimp only at hSw); go_simp)⟩) (by assumption) ?_
      (try simp only [Act.put, List.setIfInBounds_toArray, List.set_cons_zero, List.set_cons_succ])
      refine wpAnyH_take (i := 10) (oi := { dst := some 23, op := Op.slice 95 (Operand.tmp 15) (some (Operand.tmp 18)) (some (Operand.tmp 22)) none, type := 95, pos := "verdict.go:113", after := #[{ on := 2, ground := Ground.data }, { on := 5, ground := Ground.data }, { on := 9, ground := Ground.data }], guard := none }) (v := .slice (some ⟨g, lo, none⟩) (T + 1 - lo) (c - lo)) rfl (by kernel_rfl) (by kernel_rfl) (by kernel_rfl) (fun _ _ _ h => h) (Or.inl ⟨by rfl, (by intro w0 hSw; (try dsimp only at hSw); go_simp)⟩) (by assumption) ?_
      (try simp only [Act.put, List.setIfInBounds_toArray, List.set_cons_zero, List.set_cons_succ])
      refine wpAnyH_ready (rs := [1]) (by kernel_rfl) (by simp) ?_
      refine AllReadyH.cons (o := { dst := some 14, op := Op.call { callee := Callee.value (Operand.func 102), args := #[Operand.tmp 13], argTypes := #[3] }, type := 153, pos := "verdict.go:113", after := #[{ on := 0, ground := Ground.data }], guard := none }) rfl (fun K hK => ?_) AllReadyH.nil
      go_simp
      go_at_call 102
      (with_reducible refine (HW.out _).mono ?_)
      rintro e w1 ⟨Ld, Ls, rfl, hd, hs, hne, hgd, hgs, hb⟩
      have HD1 := Lib.hid hd
      have HS1 := Lib.hid hs
      have HB1 : Hid (Below w.heap.size w w1) := Lib.hid ⟨hb.os, hb.tape, hb.output, hb.size, hb.block⟩
      have hgs1 : w.heap.size ≤ Ls := hgs
      clear hd hs hb hgs hgd
      refine hK.out _ _ trivial (fun hHeld => ?_)
      clear hK K
      (try simp only [Act.put, List.setIfInBounds_toArray, List.set_cons_zero, List.set_cons_succ])
      refine wpAnyH_ready (rs := [11]) (by kernel_rfl) (by simp) ?_
      refine AllReadyH.cons (o := { dst := some 24, op := Op.call { callee := Callee.value (Operand.tmp 14), args := #[Operand.tmp 23], argTypes := #[44] }, type := 3, pos := "verdict.go:113", after := #[{ on := 1, ground := Ground.data }, { on := 10, ground := Ground.data }, { on := 1, ground := Ground.chain }], guard := none }) rfl (fun K hK => ?_) AllReadyH.nil
      go_simp
      go_at_call 116
      (with_reducible refine (HX.out Ld Ls _ HB1.out HD1.out HS1.out hne hgs1).mono ?_)
      rintro e w2 ⟨rfl, hb2⟩
      have HB2 := Lib.hid hb2
      clear hb2
      refine hK.out _ _ trivial (fun hHeld => ?_)
      clear hK K
      (try simp only [Act.put, List.setIfInBounds_toArray, List.set_cons_zero, List.set_cons_succ])
      refine wpAnyH_take (i := 12) (oi := { dst := some 8, op := Op.assign (Operand.tmp 24), type := 3, pos := "verdict.go:113", after := #[{ on := 11, ground := Ground.data }, { on := 11, ground := Ground.chain }, { on := 0, ground := Ground.phase }, { on := 1, ground := Ground.phase }, { on := 2, ground := Ground.phase }, { on := 3, ground := Ground.phase }, { on := 4, ground := Ground.phase }, { on := 5, ground := Ground.phase }, { on := 6, ground := Ground.phase }, { on := 7, ground := Ground.phase }, { on := 8, ground := Ground.phase }, { on := 9, ground := Ground.phase }, { on := 10, ground := Ground.phase }, { on := 11, ground := Ground.phase }], guard := none }) (v := iv r) rfl (by kernel_rfl) (by kernel_rfl) (by kernel_rfl) (fun _ _ _ h => h) (Or.inl ⟨by rfl, (by intro w0 hSw; (try dsimp only at hSw); go_simp)⟩) (by assumption) ?_
      (try simp only [Act.put, List.setIfInBounds_toArray, List.set_cons_zero, List.set_cons_succ])
      refine wpAnyH_done (by kernel_rfl) ?_ _
      refine NoPanic.normal ?_
      go_wp2
      go_ret
      exact ⟨rfl, HB2.out⟩
    · have k1 : ¬ c < hi + 1 := by omega
      have k2 : ¬ hi + 1 < lo := by omega
      have k3 : ¬ c = lo := by omega
      have k4 : ¬ lo = c := by omega
      have k5 : lo ≤ hi + 1 := by omega
      have k6 : hi + 1 ≤ c := by omega
      have k7 : (hi : Int) + 1 ≤ (c : Int) := by omega
      have wr1 : IntKind.i64.wrap ((hi : Int) + 1) = (hi : Int) + 1 := IntWalk.i64_in _ (by omega)
      have mx1 : max ((hi : Int) + 1) 0 = (hi : Int) + 1 := by omega
      have k8 : (0 : Int) ≤ (hi : Int) + 1 := by omega
      have k9 : (lo : Int) ≤ (hi : Int) + 1 := by omega
      have l1 : ¬ (lo : Int) = (c : Int) := by omega
      have l2 : ¬ (hi : Int) + 1 < (lo : Int) := by omega
      have l3 : ¬ (c : Int) < (hi : Int) + 1 := by omega
      have m3 : ¬ (T : Int) < (lo : Int) := by omega
      have m4 : ¬ (T : Int) < (hi : Int) := by omega
      have m5 : ¬ T < lo := by omega
      have m6 : ¬ T < hi := by omega
      have HX := Lib.hid (H116.out lo hi (by omega) (by omega))
      go_enter Tryd.func104, Tryd.ntmps104
      go_wp2
      refine wp_region_noPanic ?_
      refine wp_region_held_drew (S := fun _ => True) (by kernel_rfl) trivial (fun hHeld => ?_)
      refine wpAnyH_take (i := 0) (oi := { dst := some 13, op := Op.move (Operand.tmp 3), type := 3, pos := "verdict.go:113", after := #[], guard := none }) (v := iv d) rfl (by kernel_rfl) (by kernel_rfl) (by kernel_rfl) (fun _ _ _ h => h) (Or.inl ⟨by rfl, (by intro w0 hSw; (try dsimp only at hSw); go_simp)⟩) (by assumption) ?_
      (try simp only [Act.put, List.setIfInBounds_toArray, List.set_cons_zero, List.set_cons_succ])
      refine wpAnyH_take (i := 2) (oi := { dst := some 15, op := Op.move (Operand.tmp 0), type := 95, pos := "verdict.go:113", after := #[], guard := none }) (v := .slice (some ⟨g, 0, none⟩) (T + 1) c) rfl (by kernel_rfl) (by kernel_rfl) (by kernel_rfl) (fun _ _ _ h => h) (Or.inl ⟨by rfl, (by intro w0 hSw; (try dsimp only at hSw); go_simp)⟩) (by assumption) ?_
      (try simp only [Act.put, List.setIfInBounds_toArray, List.set_cons_zero, List.set_cons_succ])
      refine wpAnyH_take (i := 3) (oi := { dst := some 16, op := Op.move (Operand.tmp 1), type := 3, pos := "verdict.go:113", after := #[], guard := none }) (v := iv lo) rfl (by kernel_rfl) (by kernel_rfl) (by kernel_rfl) (fun _ _ _ h => h) (Or.inl ⟨by rfl, (by intro w0 hSw; (try dsimp only at hSw); go_simp)⟩) (by assumption) ?_
      (try simp only [Act.put, List.setIfInBounds_toArray, List.set_cons_zero, List.set_cons_succ])
      refine wpAnyH_take (i := 4) (oi := { dst := some 17, op := Op.move (Operand.tmp 9), type := 3, pos := "verdict.go:113", after := #[], guard := none }) (v := iv T) rfl (by kernel_rfl) (by kernel_rfl) (by kernel_rfl) (fun _ _ _ h => h) (Or.inl ⟨by rfl, (by intro w0 hSw; (try dsimp only at hSw); go_simp)⟩) (by assumption) ?_
      (try simp only [Act.put, List.setIfInBounds_toArray, List.set_cons_zero, List.set_cons_succ])
      refine wpAnyH_take (i := 6) (oi := { dst := some 19, op := Op.move (Operand.tmp 2), type := 3, pos := "verdict.go:113", after := #[], guard := none }) (v := iv hi) rfl (by kernel_rfl) (by kernel_rfl) (by kernel_rfl) (fun _ _ _ h => h) (Or.inl ⟨by rfl, (by intro w0 hSw; (try dsimp only at hSw); go_simp)⟩) (by assumption) ?_
      (try simp only [Act.put, List.setIfInBounds_toArray, List.set_cons_zero, List.set_cons_succ])
      refine wpAnyH_take (i := 7) (oi := { dst := some 20, op := Op.move (Operand.tmp 9), type := 3, pos := "verdict.go:113", after := #[], guard := none }) (v := iv T) rfl (by kernel_rfl) (by kernel_rfl) (by kernel_rfl) (fun _ _ _ h => h) (Or.inl ⟨by rfl, (by intro w0 hSw; (try dsimp only at hSw); go_simp)⟩) (by assumption) ?_
      (try simp only [Act.put, List.setIfInBounds_toArray, List.set_cons_zero, List.set_cons_succ])
      refine wpAnyH_take (i := 5) (oi := { dst := some 18, op := Op.call { callee := Callee.builtin Builtin.min, args := #[Operand.tmp 16, Operand.tmp 17], argTypes := #[3, 3] }, type := 3, pos := "verdict.go:113", after := #[{ on := 3, ground := Ground.data }, { on := 4, ground := Ground.data }], guard := none }) (v := iv lo) rfl (by kernel_rfl) (by kernel_rfl) (by kernel_rfl) (fun _ _ _ h => h) (Or.inl ⟨by rfl, (by intro w0 hSw; (try dsimp only at hSw); go_simp)⟩) (by assumption) ?_
      (try simp only [Act.put, List.setIfInBounds_toArray, List.set_cons_zero, List.set_cons_succ])
      refine wpAnyH_take (i := 8) (oi := { dst := some 21, op := Op.call { callee := Callee.builtin Builtin.min, args := #[Operand.tmp 19, Operand.tmp 20], argTypes := #[3, 3] }, type := 3, pos := "verdict.go:113", after := #[{ on := 6, ground := Ground.data }, { on := 7, ground := Ground.data }], guard := none }) (v := iv hi) rfl (by kernel_rfl) (by kernel_rfl) (by kernel_rfl) (fun _ _ _ h => h) (Or.inl ⟨by rfl, (by intro w0 hSw; (try dsimp only at hSw); go_simp)⟩) (by assumption) ?_
      (try simp only [Act.put, List.setIfInBounds_toArray, List.set_cons_zero, List.set_cons_succ])
      refine wpAnyH_take (i := 9) (oi := { dst := some 22, op := Op.binOp BinOp.add 3 (Operand.tmp 21) (Operand.const (Value.int IntKind.i64 1)) 3, type := 3, pos := "verdict.go:113", after := #[{ on := 8, ground := Ground.data }], guard := none }) (v := iv ((hi : Int) + 1)) rfl (by kernel_rfl) (by kernel_rfl) (by kernel_rfl) (fun _ _ _ h => h) (Or.inl ⟨by rfl, (by intro w0 hSw; (try dsimp only at hSw); go_simp)⟩) (by assumption) ?_
      (try simp only [Act.put, List.setIfInBounds_toArray, List.set_cons_zero, List.set_cons_succ])
      refine wpAnyH_take (i := 10) (oi := { dst := some 23, op := Op.slice 95 (Operand.tmp 15) (some (Operand.tmp 18)) (some (Operand.tmp 22)) none, type := 95, pos := "verdict.go:113", after := #[{ on := 2, ground := Ground.data }, { on := 5, ground := Ground.data }, { on := 9, ground := Ground.data }], guard := none }) (v := .slice (some ⟨g, lo, none⟩) (hi + 1 - lo) (c - lo)) rfl (by kernel_rfl) (by kernel_rfl) (by kernel_rfl) (fun _ _ _ h => h) (Or.inl ⟨by rfl, (by intro w0 hSw; (try dsimp only at hSw); go_simp)⟩) (by assumption) ?_
      (try simp only [Act.put, List.setIfInBounds_toArray, List.set_cons_zero, List.set_cons_succ])
      refine wpAnyH_ready (rs := [1]) (by kernel_rfl) (by simp) ?_
      refine AllReadyH.cons (o := { dst := some 14, op := Op.call { callee := Callee.value (Operand.func 102), args := #[Operand.tmp 13], argTypes := #[3] }, type := 153, pos := "verdict.go:113", after := #[{ on := 0, ground := Ground.data }], guard := none }) rfl (fun K hK => ?_) AllReadyH.nil
      go_simp
      go_at_call 102
      (with_reducible refine (HW.out _).mono ?_)
      rintro e w1 ⟨Ld, Ls, rfl, hd, hs, hne, hgd, hgs, hb⟩
      have HD1 := Lib.hid hd
      have HS1 := Lib.hid hs
      have HB1 : Hid (Below w.heap.size w w1) := Lib.hid ⟨hb.os, hb.tape, hb.output, hb.size, hb.block⟩
      have hgs1 : w.heap.size ≤ Ls := hgs
      clear hd hs hb hgs hgd
      refine hK.out _ _ trivial (fun hHeld => ?_)
      clear hK K
      (try simp only [Act.put, List.setIfInBounds_toArray, List.set_cons_zero, List.set_cons_succ])
      refine wpAnyH_ready (rs := [11]) (by kernel_rfl) (by simp) ?_
      refine AllReadyH.cons (o := { dst := some 24, op := Op.call { callee := Callee.value (Operand.tmp 14), args := #[Operand.tmp 23], argTypes := #[44] }, type := 3, pos := "verdict.go:113", after := #[{ on := 1, ground := Ground.data }, { on := 10, ground := Ground.data }, { on := 1, ground := Ground.chain }], guard := none }) rfl (fun K hK => ?_) AllReadyH.nil
      go_simp
      go_at_call 116
      (with_reducible refine (HX.out Ld Ls _ HB1.out HD1.out HS1.out hne hgs1).mono ?_)
      rintro e w2 ⟨rfl, hb2⟩
      have HB2 := Lib.hid hb2
      clear hb2
      refine hK.out _ _ trivial (fun hHeld => ?_)
      clear hK K
      (try simp only [Act.put, List.setIfInBounds_toArray, List.set_cons_zero, List.set_cons_succ])
      refine wpAnyH_take (i := 12) (oi := { dst := some 8, op := Op.assign (Operand.tmp 24), type := 3, pos := "verdict.go:113", after := #[{ on := 11, ground := Ground.data }, { on := 11, ground := Ground.chain }, { on := 0, ground := Ground.phase }, { on := 1, ground := Ground.phase }, { on := 2, ground := Ground.phase }, { on := 3, ground := Ground.phase }, { on := 4, ground := Ground.phase }, { on := 5, ground := Ground.phase }, { on := 6, ground := Ground.phase }, { on := 7, ground := Ground.phase }, { on := 8, ground := Ground.phase }, { on := 9, ground := Ground.phase }, { on := 10, ground := Ground.phase }, { on := 11, ground := Ground.phase }], guard := none }) (v := iv r) rfl (by kernel_rfl) (by kernel_rfl) (by kernel_rfl) (fun _ _ _ h => h) (Or.inl ⟨by rfl, (by intro w0 hSw; (try dsimp only at hSw); go_simp)⟩) (by assumption) ?_
      (try simp only [Act.put, List.setIfInBounds_toArray, List.set_cons_zero, List.set_cons_succ])
      refine wpAnyH_done (by kernel_rfl) ?_ _
      refine NoPanic.normal ?_
      go_wp2
      go_ret
      exact ⟨rfl, HB2.out⟩
end Go.Proofs.YtnpnfdnaglcnfaaDoor

