/- Verdicts: a comparison; the worst of a window. -/
import Derived.Test.YtnpnfdnaglcnfaaDoorVa
import Derived.Test.YtnpnfdnaglcnfaaDoorTrc
import Derived.BigQuiet
namespace Go.Proofs.YtnpnfdnaglcnfaaDoor
open Go.RowKit Go.Shelf

theorem trE_rows {t : List (List Int)} {x : Int} (h : trE t x = 0) : (1 ≤ x ∧ x ≤ 12) ∧ t.length ≤ 400 ∧ ∀ r ∈ t, (r.length : Int) = x ∧ ∀ y ∈ r, -1099511627776 ≤ y ∧ y ≤ 1099511627776 := by
  unfold trE at h
  split at h
  · omega
  rename_i h1
  split at h
  · omega
  rename_i h2
  refine ⟨Classical.not_not.1 h1, by omega, fun r hr => ?_⟩
  have h3 := feL_zero h r hr
  unfold rwE at h3
  split at h3
  · omega
  rename_i h4
  refine ⟨Classical.not_not.1 h4, fun y hy => ?_⟩
  have h5 := feL_zero h3 y hy
  unfold vlE at h5
  split at h5
  · assumption
  · omega
theorem num_at {W : World} {A : Option Addr} {l : List Int} (h : NumL W A l) {i : Nat} (hi : i < l.length) : ∃ b off, A = some ⟨b, off, none⟩ ∧ W.cell? ⟨b, off + i, none⟩ = some (iv (l.getD i 0)) := by
  obtain ⟨b, off, e, hc⟩ := h.at (i := i) (x := l[i]) (List.getElem?_eq_getElem hi)
  refine ⟨b, off, e, ?_⟩
  rw [hc, List.getD_eq_getElem?_getD, List.getElem?_eq_getElem hi]
  rfl
theorem getD_mem {l : List Int} {i : Nat} (hi : i < l.length) : l.getD i 0 ∈ l := by
  rw [List.getD_eq_getElem?_getD, List.getElem?_eq_getElem hi]
  exact List.getElem_mem hi
set_option maxRecDepth 100000 in
set_option maxHeartbeats 4000000 in
theorem cmp_any (n : Nd) (A : Option Addr) (cap : Nat) (t : List (List Int)) (x : Int) (i : Nat) (w : World) (hi : i ≤ 1000000) (ht : trE t x = 0) (hA : RowsL w A t) (hl : 0 ≤ n.l ∧ n.l ≤ x - 1 ∧ -1 ≤ n.r ∧ n.r ≤ x - 1) :
    Calls Tryd.prog 100 #[ndV n, .slice A t.length cap, iv i] w fun e w' => e = .returned (iv (cmpV n t i)) ∧ Below w.heap.size w w' := by
  obtain ⟨op, l, r, k, lo, hi'⟩ := n
  simp only at hl
  obtain ⟨l1, l2, r1, r2⟩ := hl
  obtain ⟨_, ht2, ht3⟩ := trE_rows ht
  obtain ⟨ln, rfl⟩ : ∃ ln : Nat, l = ln := ⟨l.toNat, by omega⟩
  have i0 : (0 : Int) ≤ (i : Int) := Int.natCast_nonneg _
  have ln0 : (0 : Int) ≤ (ln : Int) := Int.natCast_nonneg _
  by_cases hlt : i < t.length
  · have hrow : t[i]? = some t[i] := List.getElem?_eq_getElem hlt
    have HT3 := ht3 _ (List.mem_of_getElem? hrow)
    obtain ⟨b, off, C, c, rfl, c0, hC⟩ := hA.at hrow
    obtain ⟨row, hro⟩ : ∃ row, row = t[i] := ⟨_, rfl⟩
    rw [← hro] at HT3 c0 hC hrow
    have b0 := World.block_lt_of_cell? w _ c0
    have hbox := hC
    obtain ⟨hx, hvals⟩ := HT3
    obtain ⟨g, o, rfl, d0⟩ := num_at hC (i := ln) (by omega)
    have g0 := World.block_lt_of_cell? w _ d0
    obtain ⟨a, ha⟩ : ∃ a, a = row.getD ln 0 := ⟨_, rfl⟩
    have hab := hvals _ (getD_mem (l := row) (i := ln) (by omega))
    rw [← ha] at d0 hab
    obtain ⟨ab1, ab2⟩ := hab
    have m1 : (ln : Int) < (row.length : Int) := by omega
    have m2 : (i : Int) < (t.length : Int) := by omega
    have HV : Hid (cmpV ⟨op, ln, r, k, lo, hi'⟩ t i = if a - (if 0 ≤ r then row.getD r.toNat 0 else 0) ≤ k then 1 else 0) := Lib.hid (by
      unfold cmpV
      rw [hrow, ha]
      rfl)
    generalize cmpV ⟨op, ln, r, k, lo, hi'⟩ t i = res at *
    by_cases hr : 0 ≤ r
    · obtain ⟨rn, rfl⟩ : ∃ rn : Nat, r = rn := ⟨r.toNat, by omega⟩
      obtain ⟨g2, o2, e2, d1⟩ := num_at hC (i := rn) (by omega)
      obtain ⟨rfl, rfl⟩ : g = g2 ∧ o = o2 := by simpa using e2
      obtain ⟨q, hq⟩ : ∃ q, q = row.getD rn 0 := ⟨_, rfl⟩
      have hqb := hvals _ (getD_mem (l := row) (i := rn) (by omega))
      rw [← hq] at d1 hqb
      obtain ⟨q1, q2⟩ := hqb
      have HV2 : Hid (res = if a - q ≤ k then 1 else 0) := Lib.hid (by rw [HV.out, if_pos hr, hq]; rfl)
      have rn0 : (0 : Int) ≤ (rn : Int) := Int.natCast_nonneg _
      have m3 : (rn : Int) < (row.length : Int) := by omega
      obtain ⟨N, hN⟩ : ∃ N, N = t.length := ⟨_, rfl⟩
      obtain ⟨M, hM⟩ : ∃ M, M = row.length := ⟨_, rfl⟩
      rw [← hN] at m2 ⊢
      rw [← hM] at c0 m1 m3
      clear HV hq hvals hC hbox ht ht2 ht3 hA hrow hro ha hlt hN hM hx e2
      by_cases hk : a - q ≤ k
      · have HV3 : Hid (res = 1) := Lib.hid (by rw [HV2.out, if_pos hk])
        go_enter Tryd.func100, Tryd.ntmps100
        go_wp2
        go_quiet (fail)
        go_wp2
        go_quiet (fail)
        go_wp2
        go_ret
        exact ⟨by rw [HV3.out]; rfl, by repeat (first | exact Below.refl _ _ | refine Below.drew ?_ | refine below_drewN ?_ _ | refine Below.alloc ?_ (by first | omega | (simp; omega) | simp) _)⟩
      · have HV3 : Hid (res = 0) := Lib.hid (by rw [HV2.out, if_neg hk])
        go_enter Tryd.func100, Tryd.ntmps100
        go_wp2
        go_quiet (fail)
        go_wp2
        go_quiet (fail)
        go_wp2
        go_ret
        exact ⟨by rw [HV3.out]; rfl, by repeat (first | exact Below.refl _ _ | refine Below.drew ?_ | refine below_drewN ?_ _ | refine Below.alloc ?_ (by first | omega | (simp; omega) | simp) _)⟩
    · have hr1 : r = -1 := by omega
      subst hr1
      have HV2 : Hid (res = if a ≤ k then 1 else 0) := Lib.hid (by rw [HV.out, if_neg hr]; simp)
      obtain ⟨N, hN⟩ : ∃ N, N = t.length := ⟨_, rfl⟩
      obtain ⟨M, hM⟩ : ∃ M, M = row.length := ⟨_, rfl⟩
      rw [← hN] at m2 ⊢
      rw [← hM] at c0 m1
      clear HV hvals hC hbox ht ht2 ht3 hA hrow hro ha hlt hN hM hx
      by_cases hk : a ≤ k
      · have HV3 : Hid (res = 1) := Lib.hid (by rw [HV2.out, if_pos hk])
        go_enter Tryd.func100, Tryd.ntmps100
        go_wp2
        go_quiet (fail)
        go_wp2
        go_ret
        exact ⟨by rw [HV3.out]; rfl, by repeat (first | exact Below.refl _ _ | refine Below.drew ?_ | refine below_drewN ?_ _ | refine Below.alloc ?_ (by first | omega | (simp; omega) | simp) _)⟩
      · have HV3 : Hid (res = 0) := Lib.hid (by rw [HV2.out, if_neg hk])
        go_enter Tryd.func100, Tryd.ntmps100
        go_wp2
        go_quiet (fail)
        go_wp2
        go_ret
        exact ⟨by rw [HV3.out]; rfl, by repeat (first | exact Below.refl _ _ | refine Below.drew ?_ | refine below_drewN ?_ _ | refine Below.alloc ?_ (by first | omega | (simp; omega) | simp) _)⟩
  · have HV : Hid (cmpV ⟨op, ln, r, k, lo, hi'⟩ t i = 2) := Lib.hid (by
      unfold cmpV
      rw [List.getElem?_eq_none (by omega)])
    generalize cmpV ⟨op, ln, r, k, lo, hi'⟩ t i = res at *
    have m2 : ¬ (i : Int) < (t.length : Int) := by omega
    have m3 : (t.length : Int) ≤ (i : Int) := by omega
    obtain ⟨N, hN⟩ : ∃ N, N = t.length := ⟨_, rfl⟩
    rw [← hN] at m2 m3 ⊢
    clear hN hlt ht ht2 ht3 hA
    go_enter Tryd.func100, Tryd.ntmps100
    go_wp2
    go_ret
    exact ⟨by rw [HV.out]; rfl, (Below.refl _ w).alloc (Nat.le_refl _) _⟩
end Go.Proofs.YtnpnfdnaglcnfaaDoor
