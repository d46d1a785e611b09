/- The verdict of a node. -/
import Derived.Test.YtnpnfdnaglcnfaaDoorVd2
namespace Go.Proofs.YtnpnfdnaglcnfaaDoor
open Go.RowKit Go.Shelf

theorem nd_op {x : Int} {n : Nd} (h : ndE x n = 0) : n.op = 1 ∨ n.op = 2 ∨ n.op = 3 ∨ n.op = 4 ∨ n.op = 5 ∨ n.op = 6 ∨ n.op = 7 ∨ n.op = 8 := by
  unfold ndE at h
  repeat' split at h
  all_goals omega
theorem nd_lr {x : Int} {n : Nd} (h : ndE x n = 0) (h2 : n.op = 2) : 0 ≤ n.l ∧ n.l ≤ x - 1 ∧ -1 ≤ n.r ∧ n.r ≤ x - 1 := by
  unfold ndE at h
  repeat' split at h
  all_goals omega
set_option maxRecDepth 100000 in
set_option maxHeartbeats 8000000 in
theorem vd_any (n : Nd) (va vb : Value) (A : Option Addr) (cap : Nat) (t : List (List Int)) (x : Int) (i : Nat) (a b : Nat → Int) (w : World) (hi : i ≤ 100000) (hn : ndE x n = 0) (ht : trE t x = 0) (hA : RowsL w A t)
    (ha : 1 ≤ prt n.op → LineAt w va t.length a) (hb : 2 ≤ prt n.op → LineAt w vb t.length b) :
    Calls Tryd.prog 83 #[ndV n, va, vb, .slice A t.length cap, iv i] w fun e w' => e = .returned (iv (vdV t n a b i)) ∧ Below w.heap.size w w' := by
  obtain ⟨_, ht2, _⟩ := trE_rows ht
  obtain ⟨hk1, hk2, hk3⟩ := ok_hi hn
  have hT : t.length ≤ 100000 := by omega
  obtain ⟨r, hr⟩ : ∃ r, r = vdV t n a b i := ⟨_, rfl⟩
  rw [← hr]
  have HR := Lib.hid hr
  clear hr
  have HA := Lib.hid hA
  have HB0 : Below w.heap.size w (w.alloc (.cells #[iv n.op, iv n.l, iv n.r, iv n.k, iv n.lo, iv n.hi] 61)) := (Below.refl _ w).alloc (Nat.le_refl _) _
  have HB := Lib.hid HB0
  clear HB0
  rcases nd_op hn with h | h | h | h | h | h | h | h
  · -- true
    have HV : Hid (r = 1) := Lib.hid (by rw [HR.out]; unfold vdV; repeat' split; all_goals omega)
    obtain ⟨op, l, r', k, lo, hi'⟩ := n
    simp only at h
    subst h
    generalize t.length = N at *
    clear ha hb
    go_enter Tryd.func83, Tryd.ntmps83
    go_wp2
    go_ret
    exact ⟨by rw [HV.out]; rfl, HB.out⟩
  · -- less
    have hl := nd_lr hn h
    have HV : Hid (cmpV n t i = r) := Lib.hid (by rw [HR.out]; unfold vdV; rw [if_pos h])
    have HC := Lib.hid (fun W (hW : Below w.heap.size w W) => cmp_any n A cap t x i W (by omega) ht (HA.out.below hW) hl)
    rw [HV.out] at HC
    obtain ⟨op, l, r', k, lo, hi'⟩ := n
    simp only at h
    subst h
    generalize t.length = N at *
    clear ha hb hl
    go_enter Tryd.func83, Tryd.ntmps83
    go_wp2_with (go_at_call 100; (with_reducible refine (HC.out _ HB.out).mono ?_); rintro e w1 ⟨rfl, hb1⟩)
    go_ret
    exact ⟨rfl, below_step HB.out hb1⟩
  · -- not
    have HLA := Lib.hid (ha (by rw [h]; decide))
    have HV : Hid (negV (atL t.length a i) = r) := Lib.hid (by rw [HR.out]; unfold vdV; rw [if_neg (by omega), if_pos h])
    have HC := Lib.hid (fun W (hW : Below w.heap.size w W) => at_any va t.length i a W (by omega) (by omega) (HLA.out.below hW))
    have HN := Lib.hid (fun W => neg_any (atL t.length a i) W)
    rw [HV.out] at HN
    obtain ⟨op, l, r', k, lo, hi'⟩ := n
    simp only at h
    subst h
    generalize atL t.length a i = y at *
    generalize t.length = N at *
    clear ha hb
    go_enter Tryd.func83, Tryd.ntmps83
    go_wp2_with (first
      | (go_at_call 54; (with_reducible refine (HC.out _ HB.out).mono ?_); rintro e w1 ⟨rfl, hw⟩; obtain rfl := hw.symm)
      | (go_at_call 101; (with_reducible refine (HN.out _).mono ?_); rintro e w1 ⟨rfl, hw⟩; obtain rfl := hw.symm))
    go_ret
    exact ⟨rfl, HB.out⟩
  · -- and
    have HLA := Lib.hid (ha (by rw [h]; decide))
    have HLB := Lib.hid (hb (by rw [h]; decide))
    have HV : Hid (wst (desV n.op) (negV (desV n.op)) [atL t.length a i, atL t.length b i] = r) := Lib.hid (by rw [HR.out]; unfold vdV; rw [if_neg (by omega), if_neg (by omega), if_pos (by omega)])
    have HCa := Lib.hid (fun W (hW : Below w.heap.size w W) => at_any va t.length i a W (by omega) (by omega) (HLA.out.below hW))
    have HCb := Lib.hid (fun W (hW : Below w.heap.size w W) => at_any vb t.length i b W (by omega) (by omega) (HLB.out.below hW))
    have HD := Lib.hid (fun W => des_any n.op W)
    obtain ⟨d, hd⟩ : ∃ d, d = desV n.op := ⟨_, rfl⟩
    rw [← hd] at HV HD
    have HW := Lib.hid (fun W => worst_any d W)
    have HQ := Lib.hid (fun Ld Ls W hne h1 h2 => wst_two (atL t.length a i) (atL t.length b i) d (negV d) Ld Ls W hne h1 h2)
    rw [HV.out] at HQ
    obtain ⟨op, l, r', k, lo, hi'⟩ := n
    simp only at h HD
    subst h
    generalize atL t.length a i = ya at *
    generalize atL t.length b i = yb at *
    generalize t.length = N at *
    clear ha hb hd
    go_enter Tryd.func83, Tryd.ntmps83
    go_wp2_with (first
      | (go_at_call 103; (with_reducible refine (HD.out _).mono ?_); rintro e w1 ⟨rfl, hw⟩; obtain rfl := hw.symm)
      | (go_at_call 102; (with_reducible refine (HW.out _).mono ?_); rintro e w1 ⟨Ld, Ls, rfl, hd, hs, hne, hgd, hgs, hb1⟩; have hB1 := below_step HB.out hb1; have hsz := HB.out.size)
      | (go_at_call 54; (with_reducible refine (HCa.out _ hB1).mono ?_); rintro e w2 ⟨rfl, hw⟩; obtain rfl := hw.symm)
      | (go_at_call 54; (with_reducible refine (HCb.out _ hB1).mono ?_); rintro e w2 ⟨rfl, hw⟩; obtain rfl := hw.symm)
      | (go_at_call 116; (with_reducible refine (HQ.out Ld Ls _ hne hd hs).mono ?_); rintro e w3 ⟨rfl, ho3, hs3⟩; have hB3 := ho3.below (hB1.alloc hB1.size _) (by omega) (by rw [World.size_alloc]; have := hB1.size; omega)))
    go_ret
    exact ⟨rfl, hB3⟩
  · -- or
    have HLA := Lib.hid (ha (by rw [h]; decide))
    have HLB := Lib.hid (hb (by rw [h]; decide))
    have HV : Hid (wst (desV n.op) (negV (desV n.op)) [atL t.length a i, atL t.length b i] = r) := Lib.hid (by rw [HR.out]; unfold vdV; rw [if_neg (by omega), if_neg (by omega), if_pos (by omega)])
    have HCa := Lib.hid (fun W (hW : Below w.heap.size w W) => at_any va t.length i a W (by omega) (by omega) (HLA.out.below hW))
    have HCb := Lib.hid (fun W (hW : Below w.heap.size w W) => at_any vb t.length i b W (by omega) (by omega) (HLB.out.below hW))
    have HD := Lib.hid (fun W => des_any n.op W)
    obtain ⟨d, hd⟩ : ∃ d, d = desV n.op := ⟨_, rfl⟩
    rw [← hd] at HV HD
    have HW := Lib.hid (fun W => worst_any d W)
    have HQ := Lib.hid (fun Ld Ls W hne h1 h2 => wst_two (atL t.length a i) (atL t.length b i) d (negV d) Ld Ls W hne h1 h2)
    rw [HV.out] at HQ
    obtain ⟨op, l, r', k, lo, hi'⟩ := n
    simp only at h HD
    subst h
    generalize atL t.length a i = ya at *
    generalize atL t.length b i = yb at *
    generalize t.length = N at *
    clear ha hb hd
    go_enter Tryd.func83, Tryd.ntmps83
    go_wp2_with (first
      | (go_at_call 103; (with_reducible refine (HD.out _).mono ?_); rintro e w1 ⟨rfl, hw⟩; obtain rfl := hw.symm)
      | (go_at_call 102; (with_reducible refine (HW.out _).mono ?_); rintro e w1 ⟨Ld, Ls, rfl, hd, hs, hne, hgd, hgs, hb1⟩; have hB1 := below_step HB.out hb1; have hsz := HB.out.size)
      | (go_at_call 54; (with_reducible refine (HCa.out _ hB1).mono ?_); rintro e w2 ⟨rfl, hw⟩; obtain rfl := hw.symm)
      | (go_at_call 54; (with_reducible refine (HCb.out _ hB1).mono ?_); rintro e w2 ⟨rfl, hw⟩; obtain rfl := hw.symm)
      | (go_at_call 116; (with_reducible refine (HQ.out Ld Ls _ hne hd hs).mono ?_); rintro e w3 ⟨rfl, ho3, hs3⟩; have hB3 := ho3.below (hB1.alloc hB1.size _) (by omega) (by rw [World.size_alloc]; have := hB1.size; omega)))
    go_ret
    exact ⟨rfl, hB3⟩
  · -- always
    have HLA := Lib.hid (ha (by rw [h]; decide))
    have HV : Hid (wst (desV n.op) (negV (desV n.op)) (betL t.length a (i + n.lo.toNat) (i + n.hi.toNat)) = r) := Lib.hid (by rw [HR.out]; unfold vdV; rw [if_neg (by omega), if_neg (by omega), if_neg (by omega), if_pos (by omega)])
    have HD := Lib.hid (fun W => des_any n.op W)
    obtain ⟨d, hd⟩ : ∃ d, d = desV n.op := ⟨_, rfl⟩
    rw [← hd] at HV HD
    have HC : Hid (∀ W, Below w.heap.size w W → Calls Tryd.prog 104 #[va, .int .i64 ((i : Int) + n.lo), .int .i64 ((i : Int) + n.hi), iv d] W fun e w' => e = .returned (iv r) ∧ Below W.heap.size W w') := Lib.hid (fun W hW => by
      have h' := bet_any va t.length (i + n.lo.toNat) (i + n.hi.toNat) a d W hT (by omega) (by omega) (HLA.out.below hW)
      rw [HV.out, Int.natCast_add, Int.natCast_add, Int.toNat_of_nonneg hk1, Int.toNat_of_nonneg (show 0 ≤ n.hi by omega)] at h'
      exact h')
    have hx := BoxAt.new w 61 #[iv n.op, iv n.l, iv n.r, iv n.k, iv n.lo, iv n.hi]
    obtain ⟨op, l, r', k, lo, hi'⟩ := n
    simp only at h HD HC hx hk1 hk2 hk3
    subst h
    have HX := Lib.hid hx
    generalize t.length = N at *
    clear ha hb hd hx
    have i0 : (0 : Int) ≤ (i : Int) := Int.natCast_nonneg _
    have i1 : (i : Int) ≤ 100000 := by omega
    go_enter Tryd.func83, Tryd.ntmps83
    go_wp2
    obtain ⟨Bn, hBn⟩ : ∃ q, q = w.heap.size := ⟨_, rfl⟩
    rw [← hBn] at HX ⊢
    clear hBn
    generalize w.alloc (.cells #[iv 6, iv l, iv r', iv k, iv lo, iv hi'] 61) = wx at *
    have c0 : wx.cell? ⟨Bn, 0, none⟩ = some (iv 6) := HX.out.cell 0
    have c4 : wx.cell? ⟨Bn, 4, none⟩ = some (iv lo) := HX.out.cell 4
    have c5 : wx.cell? ⟨Bn, 5, none⟩ = some (iv hi') := HX.out.cell 5
    have l0 := HX.out.lt
    have s1 : IntKind.i64.wrap ((i : Int) + lo) = (i : Int) + lo := IntWalk.i64_in _ (by omega)
    have s2 : IntKind.i64.wrap ((i : Int) + hi') = (i : Int) + hi' := IntWalk.i64_in _ (by omega)
    go_region_held3 (fun W => W.cell? ⟨Bn, 0, none⟩ = some (iv 6) ∧ W.cell? ⟨Bn, 4, none⟩ = some (iv lo) ∧ W.cell? ⟨Bn, 5, none⟩ = some (iv hi'))
      (first | exact HS2.out | exact ⟨c0, c4, c5⟩ | go_keep)
      (first
        | (go_at_call 103; (with_reducible refine (HD.out _).mono ?_); rintro e w1 ⟨rfl, hw⟩; obtain rfl := hw.symm)
        | (go_at_call 104; (with_reducible refine (HC.out _ HB.out.drew).mono ?_); rintro e w2 ⟨rfl, hb2⟩; have HB2 : Hid (Below wx.heap.size wx w2) := Lib.hid ⟨hb2.os, hb2.tape, hb2.output, hb2.size, hb2.block⟩; have HS2 : Hid (w2.cell? ⟨Bn, 0, none⟩ = some (iv 6) ∧ w2.cell? ⟨Bn, 4, none⟩ = some (iv lo) ∧ w2.cell? ⟨Bn, 5, none⟩ = some (iv hi')) := Lib.hid ⟨(box_step HX.out HB2.out).cell 0, (box_step HX.out HB2.out).cell 4, (box_step HX.out HB2.out).cell 5⟩))
    go_wp2
    go_ret
    exact ⟨rfl, below_step HB.out HB2.out⟩
  · -- some
    have HLA := Lib.hid (ha (by rw [h]; decide))
    have HV : Hid (wst (desV n.op) (negV (desV n.op)) (betL t.length a (i + n.lo.toNat) (i + n.hi.toNat)) = r) := Lib.hid (by rw [HR.out]; unfold vdV; rw [if_neg (by omega), if_neg (by omega), if_neg (by omega), if_pos (by omega)])
    have HD := Lib.hid (fun W => des_any n.op W)
    obtain ⟨d, hd⟩ : ∃ d, d = desV n.op := ⟨_, rfl⟩
    rw [← hd] at HV HD
    have HC : Hid (∀ W, Below w.heap.size w W → Calls Tryd.prog 104 #[va, .int .i64 ((i : Int) + n.lo), .int .i64 ((i : Int) + n.hi), iv d] W fun e w' => e = .returned (iv r) ∧ Below W.heap.size W w') := Lib.hid (fun W hW => by
      have h' := bet_any va t.length (i + n.lo.toNat) (i + n.hi.toNat) a d W hT (by omega) (by omega) (HLA.out.below hW)
      rw [HV.out, Int.natCast_add, Int.natCast_add, Int.toNat_of_nonneg hk1, Int.toNat_of_nonneg (show 0 ≤ n.hi by omega)] at h'
      exact h')
    have hx := BoxAt.new w 61 #[iv n.op, iv n.l, iv n.r, iv n.k, iv n.lo, iv n.hi]
    obtain ⟨op, l, r', k, lo, hi'⟩ := n
    simp only at h HD HC hx hk1 hk2 hk3
    subst h
    have HX := Lib.hid hx
    generalize t.length = N at *
    clear ha hb hd hx
    have i0 : (0 : Int) ≤ (i : Int) := Int.natCast_nonneg _
    have i1 : (i : Int) ≤ 100000 := by omega
    go_enter Tryd.func83, Tryd.ntmps83
    go_wp2
    obtain ⟨Bn, hBn⟩ : ∃ q, q = w.heap.size := ⟨_, rfl⟩
    rw [← hBn] at HX ⊢
    clear hBn
    generalize w.alloc (.cells #[iv 7, iv l, iv r', iv k, iv lo, iv hi'] 61) = wx at *
    have c0 : wx.cell? ⟨Bn, 0, none⟩ = some (iv 7) := HX.out.cell 0
    have c4 : wx.cell? ⟨Bn, 4, none⟩ = some (iv lo) := HX.out.cell 4
    have c5 : wx.cell? ⟨Bn, 5, none⟩ = some (iv hi') := HX.out.cell 5
    have l0 := HX.out.lt
    have s1 : IntKind.i64.wrap ((i : Int) + lo) = (i : Int) + lo := IntWalk.i64_in _ (by omega)
    have s2 : IntKind.i64.wrap ((i : Int) + hi') = (i : Int) + hi' := IntWalk.i64_in _ (by omega)
    go_region_held3 (fun W => W.cell? ⟨Bn, 0, none⟩ = some (iv 7) ∧ W.cell? ⟨Bn, 4, none⟩ = some (iv lo) ∧ W.cell? ⟨Bn, 5, none⟩ = some (iv hi'))
      (first | exact HS2.out | exact ⟨c0, c4, c5⟩ | go_keep)
      (first
        | (go_at_call 103; (with_reducible refine (HD.out _).mono ?_); rintro e w1 ⟨rfl, hw⟩; obtain rfl := hw.symm)
        | (go_at_call 104; (with_reducible refine (HC.out _ HB.out.drew).mono ?_); rintro e w2 ⟨rfl, hb2⟩; have HB2 : Hid (Below wx.heap.size wx w2) := Lib.hid ⟨hb2.os, hb2.tape, hb2.output, hb2.size, hb2.block⟩; have HS2 : Hid (w2.cell? ⟨Bn, 0, none⟩ = some (iv 7) ∧ w2.cell? ⟨Bn, 4, none⟩ = some (iv lo) ∧ w2.cell? ⟨Bn, 5, none⟩ = some (iv hi')) := Lib.hid ⟨(box_step HX.out HB2.out).cell 0, (box_step HX.out HB2.out).cell 4, (box_step HX.out HB2.out).cell 5⟩))
    go_wp2
    go_ret
    exact ⟨rfl, below_step HB.out HB2.out⟩
  · -- until
    have HLA := Lib.hid (ha (by rw [h]; decide))
    have HLB := Lib.hid (hb (by rw [h]; decide))
    have HV : Hid (untV n t.length a b i = r) := Lib.hid (by rw [HR.out]; unfold vdV; rw [if_neg (by omega), if_neg (by omega), if_neg (by omega), if_neg (by omega), if_pos h])
    have HC := Lib.hid (fun W (hW : Below w.heap.size w W) => unt_any n va vb t.length i a b W hT hi hk1 hk2 hk3 (HLA.out.below hW) (HLB.out.below hW))
    rw [HV.out] at HC
    obtain ⟨op, l, r', k, lo, hi'⟩ := n
    simp only at h
    subst h
    generalize t.length = N at *
    clear ha hb
    go_enter Tryd.func83, Tryd.ntmps83
    go_wp2_with (go_at_call 105; (with_reducible refine (HC.out _ HB.out).mono ?_); rintro e w1 ⟨rfl, hb1⟩)
    go_ret
    exact ⟨rfl, below_step HB.out hb1⟩
end Go.Proofs.YtnpnfdnaglcnfaaDoor
