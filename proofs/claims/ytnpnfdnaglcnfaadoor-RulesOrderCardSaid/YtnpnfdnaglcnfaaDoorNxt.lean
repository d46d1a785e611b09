/- Mod, and the numbers that are handed out. -/
import Derived.Test.YtnpnfdnaglcnfaaDoorRd
import Derived.Test.YtnpnfdnaglcnfaaDoorVa
import Derived.BigQuiet
namespace Go.Proofs.YtnpnfdnaglcnfaaDoor
open Go.RowKit Go.Shelf

set_option maxHeartbeats 1000000 in
theorem mod_any (n m : Int) (hm : 0 < m) (hm2 : m ≤ 4000000000000000000) (w : World) : Calls Tryd.prog 32 #[iv n, iv m] w fun e w' => ∃ r, e = .returned (iv r) ∧ 0 ≤ r ∧ r < m ∧ w' = w := by
  have h1 := Int.tmod_lt_of_pos n hm
  have h2 : -m < n.tmod m := by
    rcases Int.le_total 0 n with h | h
    · have := Int.tmod_nonneg m h
      omega
    · have h5 := Int.tmod_lt_of_pos (-n) hm
      rw [Int.neg_tmod] at h5
      omega
  have h3 : ¬ m = 0 := by omega
  have h4 : ¬ m = -1 := by omega
  go_enter Tryd.func32, Tryd.ntmps32
  go_wp2
  all_goals go_ret
  all_goals exact ⟨_, rfl, by omega, by omega, rfl⟩
theorem num_at2 {W : World} {A : Option Addr} {l : List Int} (h : NumL W A l) {i : Nat} (hi : i < l.length) : ∃ b off, A = some ⟨b, off, none⟩ ∧ W.cell? ⟨b, off + i, none⟩ = some (iv l[i]) := by
  obtain ⟨b, off, e, hc⟩ := h.at (i := i) (x := l[i]) (List.getElem?_eq_getElem hi)
  exact ⟨b, off, e, hc⟩
theorem Off1.grown {L : Nat} {W W' : World} (h : Off1 L W W') : W.grownBy W' (some L) := ⟨h.1, h.2.1, h.2.2.1, h.2.2.2.1, fun k hk hn => h.2.2.2.2 k hk (fun e => hn (by rw [e]))⟩
set_option maxRecDepth 100000 in
set_option maxHeartbeats 4000000 in
/-- The next number: some number below m; the place moves on. -/
theorem next_any (Bx : Nat) (A : Option Addr) (cap : Nat) (l : List Int) (at' : Nat) (m : Int) (w : World) (hl : l.length ≤ 9223372036854775807) (hm : 0 < m) (hm2 : m ≤ 1000) (hat : at' ≤ l.length) (hb : BoxAt w Bx 93 #[.slice A l.length cap, iv at']) (hA : NumL w A l) (hne : 0 < l.length → ∀ a, A = some a → a.block ≠ Bx) :
    Calls Tryd.prog 80 #[.pointer (some ⟨Bx, 0, none⟩), iv m] w fun e w' => ∃ (r : Int) (at2 : Nat), e = .returned (iv r) ∧ 0 ≤ r ∧ r < m ∧ at2 ≤ l.length ∧ BoxAt w' Bx 93 #[.slice A l.length cap, iv at2] ∧ Off1 Bx w w' := by
  have HA := Lib.hid hA
  have HB := Lib.hid hb
  have HM := Lib.hid (fun n W => mod_any n m hm (by omega) W)
  have a0 : (0 : Int) ≤ (at' : Int) := Int.natCast_nonneg _
  have c0 : w.drew.cell? ⟨Bx, 0, none⟩ = some (.slice A l.length cap) := hb.cell 0
  have c1 : w.drew.cell? ⟨Bx, 1, none⟩ = some (iv at') := hb.cell 1
  have d0 : w.cell? ⟨Bx, 0, none⟩ = some (.slice A l.length cap) := hb.cell 0
  have d1 : w.cell? ⟨Bx, 1, none⟩ = some (iv at') := hb.cell 1
  have f1 : w.frozen? ⟨Bx, 1, none⟩ = false := hb.frozen 1
  have lB := hb.lt
  by_cases hlt : at' < l.length
  · obtain ⟨b, off, rfl, e0⟩ := num_at2 hA hlt
    have hbb := World.block_lt_of_cell? w _ e0
    have hbx := hne (by omega) _ rfl
    simp only at hbx
    obtain ⟨N, hN⟩ : ∃ N, N = l.length := ⟨_, rfl⟩
    rw [← hN] at hlt hl c0 d0 HB ⊢
    clear hN hA hb hne hat
    have g1 : (at' : Int) < (N : Int) := by omega
    have g2 : ¬ (N : Int) ≤ (at' : Int) := by omega
    have HB2 := Lib.hid (HB.out.set 1 (iv ((at' : Int) + 1)))
    have HO2 := Lib.hid ((Off1.refl Bx w).set (i := 1) (v := iv ((at' : Int) + 1)))
    go_enter Tryd.func80, Tryd.ntmps80
    go_wp2
    go_quiet (fail)
    go_wp2
    have hb9 : BoxAt ((w.drewN nq).setCell ⟨Bx, 1, none⟩ (iv ((at' : Int) + 1))) Bx 93 #[.slice (some ⟨b, off, none⟩) N cap, iv ((at' + 1 : Nat) : Int)] := HB2.out
    have HO9 : Hid (Off1 Bx w ((w.drewN nq).setCell ⟨Bx, 1, none⟩ (iv ((at' : Int) + 1)))) := HO2
    have e9 : ((w.drewN nq).setCell ⟨Bx, 1, none⟩ (iv ((at' : Int) + 1))).cell? ⟨b, off + at', none⟩ = some (iv l[at']) := (World.cell?_setCell_far _ _ _ _ (by show Bx ≠ b; omega)).trans e0
    have HB9 := Lib.hid hb9
    clear hb9 HB2 HO2 c0 c1 d0 d1 f1 HB HA e0
    obtain ⟨y, hy⟩ : ∃ y, y = l[at'] := ⟨_, rfl⟩
    rw [← hy] at e9
    clear hy
    generalize (w.drewN nq).setCell ⟨Bx, 1, none⟩ (iv ((at' : Int) + 1)) = wz at *
    have k0 : wz.cell? ⟨Bx, 0, none⟩ = some (.slice (some ⟨b, off, none⟩) N cap) := HB9.out.cell 0
    have k1 : wz.cell? ⟨Bx, 1, none⟩ = some (iv ((at' : Int) + 1)) := HB9.out.cell 1
    have kl := HB9.out.lt
    have kb := World.block_lt_of_cell? wz _ e9
    have k2 : (at' : Int) ≤ 9223372036854775806 := by omega
    have k3 : IntKind.i64.wrap (at' : Int) = (at' : Int) := IntWalk.i64_in _ (by omega)
    have k4 : IntKind.i64.wrap ((at' : Int) + 1 - 1) = (at' : Int) := (congrArg IntKind.i64.wrap (by omega)).trans k3
    have k5 : ¬ (N : Int) ≤ (at' : Int) := by omega
    have k6 : at' < N := hlt
    have k7 : ¬ N ≤ at' := by omega
    go_region_held3 (fun W => W.cell? ⟨Bx, 0, none⟩ = some (.slice (some ⟨b, off, none⟩) N cap) ∧ W.cell? ⟨Bx, 1, none⟩ = some (iv ((at' : Int) + 1)) ∧ W.cell? ⟨b, off + at', none⟩ = some (iv y))
      (first | exact ⟨k0, k1, e9⟩ | exact hHeld | go_keep)
      ((go_at_call 32; (with_reducible refine (HM.out _ _).mono ?_); rintro e w1 ⟨r, rfl, hr0, hr1, hw⟩; obtain rfl := hw.symm))
    go_wp2
    go_ret
    exact ⟨r, at' + 1, rfl, hr0, hr1, by omega, HB9.out, HO9.out.1, HO9.out.2.1, HO9.out.2.2.1, HO9.out.2.2.2.1, HO9.out.2.2.2.2⟩
  · have hN : l.length = at' := by omega
    obtain ⟨N, hN2⟩ : ∃ N, N = at' := ⟨_, rfl⟩
    rw [hN] at c0 d0 HB hl ⊢
    clear hA hb hne hlt hat HA hN
    subst hN2
    have HO2 := Lib.hid (Off1.refl Bx w)
    have g1 : (N : Int) ≤ (N : Int) := Int.le_refl _
    go_enter Tryd.func80, Tryd.ntmps80
    go_wp2
    go_quiet (fail)
    go_wp2
    go_ret
    exact ⟨0, _, rfl, Int.le_refl 0, hm, Nat.le_refl _, HB.out, HO2.out⟩
end Go.Proofs.YtnpnfdnaglcnfaaDoor
