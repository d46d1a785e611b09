/- Verdicts: until. -/
import Derived.Test.YtnpnfdnaglcnfaaDoorVc
namespace Go.Proofs.YtnpnfdnaglcnfaaDoor
open Go.RowKit Go.Shelf

/-- What until's loop holds: both closures' variables, the node, nothing else turned. -/
def US (w : World) (Bn : Nat) (n : Nd) (Ld1 Ls1 Ld0 Ls0 : Nat) (so al : Int) (W : World) : Prop :=
  BoxAt W Ld1 3 #[iv 1] ∧ BoxAt W Ls1 3 #[iv so] ∧ BoxAt W Ld0 3 #[iv 0] ∧ BoxAt W Ls0 3 #[iv al] ∧ BoxAt W Bn 61 #[iv n.op, iv n.l, iv n.r, iv n.k, iv n.lo, iv n.hi] ∧ Below w.heap.size w W
def UD (w : World) (Bn Ld1 Ls1 Ld0 Ls0 : Nat) : Prop := w.heap.size ≤ Bn ∧ Bn < Ld1 ∧ Bn < Ls1 ∧ Ld1 ≠ Ls1 ∧ Ld1 < Ld0 ∧ Ld1 < Ls0 ∧ Ls1 < Ld0 ∧ Ls1 < Ls0 ∧ Ld0 ≠ Ls0
section
variable {w : World} {Bn : Nat} {n : Nd} {Ld1 Ls1 Ld0 Ls0 : Nat} {so al : Int} {W W' : World}
theorem US.d1 (h : US w Bn n Ld1 Ls1 Ld0 Ls0 so al W) : BoxAt W Ld1 3 #[iv 1] := h.1
theorem US.s1 (h : US w Bn n Ld1 Ls1 Ld0 Ls0 so al W) : BoxAt W Ls1 3 #[iv so] := h.2.1
theorem US.d0 (h : US w Bn n Ld1 Ls1 Ld0 Ls0 so al W) : BoxAt W Ld0 3 #[iv 0] := h.2.2.1
theorem US.s0 (h : US w Bn n Ld1 Ls1 Ld0 Ls0 so al W) : BoxAt W Ls0 3 #[iv al] := h.2.2.2.1
theorem US.bl (h : US w Bn n Ld1 Ls1 Ld0 Ls0 so al W) : Below w.heap.size w W := h.2.2.2.2.2
theorem UD.n1 (d : UD w Bn Ld1 Ls1 Ld0 Ls0) : Ld1 ≠ Ls1 := d.2.2.2.1
theorem UD.n0 (d : UD w Bn Ld1 Ls1 Ld0 Ls0) : Ld0 ≠ Ls0 := d.2.2.2.2.2.2.2.2
theorem US.below (h : US w Bn n Ld1 Ls1 Ld0 Ls0 so al W) (hb : Below W.heap.size W W') : US w Bn n Ld1 Ls1 Ld0 Ls0 so al W' := by
  obtain ⟨h1, h2, h3, h4, h5, h6⟩ := h
  exact ⟨box_step h1 hb, box_step h2 hb, box_step h3 hb, box_step h4 hb, box_step h5 hb, below_step h6 hb⟩
theorem US.all (d : UD w Bn Ld1 Ls1 Ld0 Ls0) (h : US w Bn n Ld1 Ls1 Ld0 Ls0 so al W) (ho : Off1 Ls0 W W') {al' : Int} (hb : BoxAt W' Ls0 3 #[iv al']) : US w Bn n Ld1 Ls1 Ld0 Ls0 so al' W' := by
  obtain ⟨h1, h2, h3, h4, h5, h6⟩ := h
  obtain ⟨d1, d2, d3, d4, d5, d6, d7, d8, d9⟩ := d
  exact ⟨ho.box h1 (by omega), ho.box h2 (by omega), ho.box h3 (by omega), hb, ho.box h5 (by omega), ho.below h6 (by omega) h6.size⟩
theorem US.some (d : UD w Bn Ld1 Ls1 Ld0 Ls0) (h : US w Bn n Ld1 Ls1 Ld0 Ls0 so al W) (ho : Off1 Ls1 W W') {so' : Int} (hb : BoxAt W' Ls1 3 #[iv so']) : US w Bn n Ld1 Ls1 Ld0 Ls0 so' al W' := by
  obtain ⟨h1, h2, h3, h4, h5, h6⟩ := h
  obtain ⟨d1, d2, d3, d4, d5, d6, d7, d8, d9⟩ := d
  exact ⟨ho.box h1 (by omega), hb, ho.box h3 (by omega), ho.box h4 (by omega), ho.box h5 (by omega), ho.below h6 (by omega) h6.size⟩
theorem US.off (h : US w Bn n Ld1 Ls1 Ld0 Ls0 so al W) {L : Nat} (ho : Off1 L W W') (h1' : L ≠ Ld1) (h2' : L ≠ Ls1) (h3' : L ≠ Ld0) (h4' : L ≠ Ls0) (h5' : L ≠ Bn) (hL : w.heap.size ≤ L) : US w Bn n Ld1 Ls1 Ld0 Ls0 so al W' := by
  obtain ⟨h1, h2, h3, h4, h5, h6⟩ := h
  exact ⟨ho.box h1 h1'.symm, ho.box h2 h2'.symm, ho.box h3 h3'.symm, ho.box h4 h4'.symm, ho.box h5 h5'.symm, ho.below h6 hL h6.size⟩
end
theorem num1 (W : World) (x : Int) : NumL (W.alloc (.cells #[iv x] 3)) (some ⟨W.heap.size, 0, none⟩) [x] := fun _ => ⟨_, _, rfl, fun i y hi => by
  have hb := BoxAt.new W 3 #[iv x]
  have hl := (List.getElem?_eq_some_iff.1 hi).1
  simp only [List.length_cons, List.length_nil] at hl
  obtain rfl : i = 0 := by omega
  obtain rfl : x = y := by simpa using hi
  exact hb.cell 0⟩
theorem num2 (W : World) (x y : Int) : NumL (W.alloc (.cells #[iv x, iv y] 3)) (some ⟨W.heap.size, 0, none⟩) [x, y] := fun _ => ⟨_, _, rfl, fun i z hi => by
  have hb := BoxAt.new W 3 #[iv x, iv y]
  have hl := (List.getElem?_eq_some_iff.1 hi).1
  simp only [List.length_cons, List.length_nil] at hl
  rcases (show i = 0 ∨ i = 1 by omega) with rfl | rfl
  · obtain rfl : x = z := by simpa using hi
    exact hb.cell 0
  · obtain rfl : y = z := by simpa using hi
    exact hb.cell 1⟩
/-- A closure of 'worst' at one number that was just built. -/
theorem wst_one (x d so : Int) (Ld Ls : Nat) (W : World) (hne : Ld ≠ Ls) (hd : BoxAt W Ld 3 #[iv d]) (hs : BoxAt W Ls 3 #[iv so]) :
    Calls Tryd.prog 116 #[.slice (some ⟨W.heap.size, 0, none⟩) 1 1, .pointer (some ⟨Ld, 0, none⟩), .pointer (some ⟨Ls, 0, none⟩)] (W.alloc (.cells #[iv x] 3)) fun e w' => e = .returned (iv (wst1 d so x)) ∧ Off1 Ls (W.alloc (.cells #[iv x] 3)) w' ∧ BoxAt w' Ls 3 #[iv (wst1 d so x)] :=
  wst_n _ 1 1 [x] d so Ld Ls _ rfl (by simp) (num1 W x) (fun a ha => by cases ha; have := hs.lt; show W.heap.size ≠ Ls; omega) hne (hd.alloc _) (hs.alloc _)
theorem wst_two (x y d so : Int) (Ld Ls : Nat) (W : World) (hne : Ld ≠ Ls) (hd : BoxAt W Ld 3 #[iv d]) (hs : BoxAt W Ls 3 #[iv so]) :
    Calls Tryd.prog 116 #[.slice (some ⟨W.heap.size, 0, none⟩) 2 2, .pointer (some ⟨Ld, 0, none⟩), .pointer (some ⟨Ls, 0, none⟩)] (W.alloc (.cells #[iv x, iv y] 3)) fun e w' => e = .returned (iv (wst d so [x, y])) ∧ Off1 Ls (W.alloc (.cells #[iv x, iv y] 3)) w' ∧ BoxAt w' Ls 3 #[iv (wst d so [x, y])] :=
  wst_n _ 2 2 [x, y] d so Ld Ls _ rfl (by simp) (num2 W x y) (fun a ha => by cases ha; have := hs.lt; show W.heap.size ≠ Ls; omega) hne (hd.alloc _) (hs.alloc _)
theorem wst_nil (d so : Int) (Ld Ls : Nat) (W : World) (hne : Ld ≠ Ls) (hd : BoxAt W Ld 3 #[iv d]) (hs : BoxAt W Ls 3 #[iv so]) :
    Calls Tryd.prog 116 #[.slice none 0 0, .pointer (some ⟨Ld, 0, none⟩), .pointer (some ⟨Ls, 0, none⟩)] W fun e w' => e = .returned (iv so) ∧ Off1 Ls W w' ∧ BoxAt w' Ls 3 #[iv so] :=
  wst_n none 0 0 [] d so Ld Ls W rfl (by decide) (NumL.nil _ _) (fun a ha => by cases ha) hne hd hs
set_option maxRecDepth 100000 in
set_option maxHeartbeats 8000000 in
theorem unt_any (n : Nd) (va vb : Value) (T i : Nat) (a b : Nat → Int) (w : World) (hT : T ≤ 100000) (hi : i ≤ 100000) (h0 : 0 ≤ n.lo) (h1 : n.lo ≤ n.hi) (h2 : n.hi ≤ 20) (ha : LineAt w va T a) (hb : LineAt w vb T b) :
    Calls Tryd.prog 105 #[ndV n, va, vb, iv i] w fun e w' => e = .returned (iv (untV n T a b i)) ∧ Below w.heap.size w w' := by
  have HW1 := Lib.hid (fun W => worst_any 1 W)
  have HW0 := Lib.hid (fun W => worst_any 0 W)
  obtain ⟨h, hh⟩ : ∃ h : Nat, n.hi = h := ⟨n.hi.toNat, by omega⟩
  obtain ⟨lw, hlw⟩ : ∃ lw : Nat, n.lo = lw := ⟨n.lo.toNat, by omega⟩
  have HLA := Lib.hid ha
  have HLB := Lib.hid hb
  obtain ⟨r, hr⟩ : ∃ r, r = untV n T a b i := ⟨_, rfl⟩
  rw [← hr]
  have HR : Hid (r = (untS lw T a b i (h + 1)).1) := Lib.hid (by rw [hr, untV, hh, hlw]; rfl)
  clear hr ha hb
  have hx := BoxAt.new w 61 #[iv n.op, iv n.l, iv n.r, iv n.k, iv n.lo, iv n.hi]
  rw [hh, hlw] at hx
  obtain ⟨op, l, r', k', lo, hi'⟩ := n
  simp only at hh hlw h0 h1 h2 hx
  subst hh
  subst hlw
  have HX := Lib.hid hx
  have hh20 : h ≤ 20 := by omega
  have hlh : lw ≤ h := by omega
  clear hx h0 h1 h2
  go_enter Tryd.func105, Tryd.ntmps105
  go_upto_region 2 with (first
    | (go_at_call 102; (with_reducible refine (HW1.out _).mono ?_); rintro e w1 ⟨Ld1, Ls1, rfl, hd1, hs1, hne1, hg1, hg2, hb1⟩)
    | (go_at_call 102; (with_reducible refine (HW0.out _).mono ?_); rintro e w2 ⟨Ld0, Ls0, rfl, hd0, hs0, hne0, hg3, hg4, hb2⟩))
  obtain ⟨Bn, hBn⟩ : ∃ q, q = w.heap.size := ⟨_, rfl⟩
  rw [World.size_alloc] at hg1 hg2
  have hz1 := hb1.size
  rw [World.size_alloc] at hz1
  have hl1 := hd1.lt
  have hl2 := hs1.lt
  have HU0 : Hid (US w Bn ⟨op, l, r', k', lw, h⟩ Ld1 Ls1 Ld0 Ls0 0 1 w2) := Lib.hid (by
    rw [hBn]
    have hn1 := box_step HX.out hb1
    exact ⟨box_step hd1 hb2, box_step hs1 hb2, hd0, hs0, box_step hn1 hb2, below_step (below_step2 (Below.refl _ w) hb1) hb2⟩)
  have HUD : Hid (UD w Bn Ld1 Ls1 Ld0 Ls0) := Lib.hid (by
    rw [hBn]
    exact ⟨Nat.le_refl _, by omega, by omega, hne1, by omega, by omega, by omega, by omega, hne0⟩)
  rw [← hBn]
  clear hd1 hs1 hg1 hg2 hb1 hd0 hs0 hg3 hg4 hb2 hl1 hl2 hz1 HX hBn
  have c5 : w2.cell? ⟨Bn, 5, none⟩ = some (iv h) := HU0.out.2.2.2.2.1.cell 5
  have l5 := HU0.out.2.2.2.2.1.lt
  have hhi : (0 : Int) ≤ (h : Int) := Int.natCast_nonneg _
  go_wp2
  clear c5 l5
  go_loopw [17] (fun i' wr => ∃ k : Nat, k ≤ h + 1 ∧ i' = iv k ∧ Hid (US w Bn ⟨op, l, r', k', lw, h⟩ Ld1 Ls1 Ld0 Ls0 (untS lw T a b i k).1 (untS lw T a b i k).2 wr)) (fun i' _ => h + 1 - (intOf i').toNat)
  case atStart => exact ⟨0, Nat.zero_le _, rfl, HU0⟩
  case round =>
    obtain ⟨k, hk, rfl, HU⟩ := hrel
    have i0 : (0 : Int) ≤ (k : Int) := Int.natCast_nonneg _
    have j0 : (0 : Int) ≤ (i : Int) := Int.natCast_nonneg _
    have c4 : wr.cell? ⟨Bn, 4, none⟩ = some (iv lw) := HU.out.2.2.2.2.1.cell 4
    have l4 := HU.out.2.2.2.2.1.lt
    by_cases hlt : k < h + 1
    · have i1 : (k : Int) < (h : Int) + 1 := by omega
      have HSt : Hid (untS lw T a b i (k + 1) = (if lw ≤ k then wst1 1 (untS lw T a b i k).1 (wst 0 1 [(untS lw T a b i k).2, atL T b (i + k)]) else (untS lw T a b i k).1, wst1 0 (untS lw T a b i k).2 (atL T a (i + k)))) := Lib.hid rfl
      have HAa : Hid (∀ W, Below w.heap.size w W → Calls Tryd.prog 54 #[va, .int .i64 ((i : Int) + (k : Int))] W fun e w' => e = .returned (iv (atL T a (i + k))) ∧ w' = W) := Lib.hid (fun W hW => by
        have h' := at_any va T (i + k) a W (by omega) (by omega) (HLA.out.below hW)
        rwa [Int.natCast_add] at h')
      have HAb : Hid (∀ W, Below w.heap.size w W → Calls Tryd.prog 54 #[vb, .int .i64 ((i : Int) + (k : Int))] W fun e w' => e = .returned (iv (atL T b (i + k))) ∧ w' = W) := Lib.hid (fun W hW => by
        have h' := at_any vb T (i + k) b W (by omega) (by omega) (HLB.out.below hW)
        rwa [Int.natCast_add] at h')
      generalize (untS lw T a b i k).1 = so at *
      generalize (untS lw T a b i k).2 = al at *
      generalize atL T a (i + k) = xa at *
      generalize atL T b (i + k) = xb at *
      by_cases hge : lw ≤ k
      · have g1 : (lw : Int) ≤ (k : Int) := by omega
        have HSt2 : Hid (untS lw T a b i (k + 1) = (wst1 1 so (wst 0 1 [al, xb]), wst1 0 al xa)) := Lib.hid (by rw [HSt.out, if_pos hge])
        go_wp2_with (first
          | (go_at_call 102; (with_reducible refine (HW0.out _).mono ?_); rintro e w3 ⟨Lx, Ly, rfl, hdx, hsx0, hnx, hgx, hgy, hb3⟩; have hsx : BoxAt w3 Ly 3 #[iv 1] := hsx0; have HU3 := Lib.hid (HU.out.below hb3))
          | (go_at_call 116; (with_reducible refine (wst_nil 0 al Ld0 Ls0 w3 HUD.out.n0 HU3.out.d0 HU3.out.s0).mono ?_); rintro e w4 ⟨rfl, ho4, hs4⟩; have HU4 := Lib.hid (HU3.out.all HUD.out ho4 hs4); have hdx4 := ho4.box hdx (by have := HU.out.s0.lt; omega); have hsx4 := ho4.box hsx (by have := HU.out.s0.lt; omega))
          | (go_at_call 54; (with_reducible refine (HAb.out w4 HU4.out.bl).mono ?_); rintro e w5 ⟨rfl, hw5⟩; obtain rfl := hw5.symm)
          | (go_at_call 116; (with_reducible refine (wst_two al xb 0 1 Lx Ly w4 hnx hdx4 hsx4).mono ?_); rintro e w6 ⟨rfl, ho6, hs6⟩; have HU6 := Lib.hid ((HU4.out.below ((Below.refl _ _).alloc (Nat.le_refl _) _)).off ho6 (by have := HU.out.d1.lt; omega) (by have := HU.out.s1.lt; omega) (by have := HU.out.d0.lt; omega) (by have := HU.out.s0.lt; omega) (by have := HU.out.2.2.2.2.1.lt; omega) (by have := HU.out.2.2.2.2.2.size; omega)))
          | (go_at_call 116; (with_reducible refine (wst_one (wst 0 1 [al, xb]) 1 so Ld1 Ls1 w6 HUD.out.n1 HU6.out.d1 HU6.out.s1).mono ?_); rintro e w7 ⟨rfl, ho7, hs7⟩; have HU7 := Lib.hid ((HU6.out.below ((Below.refl _ _).alloc (Nat.le_refl _) _)).some HUD.out ho7 hs7))
          | (go_at_call 54; (with_reducible refine (HAa.out w7 HU7.out.bl).mono ?_); rintro e w8 ⟨rfl, hw8⟩; obtain rfl := hw8.symm)
          | (go_at_call 116; (with_reducible refine (wst_one xa 0 al Ld0 Ls0 w7 HUD.out.n0 HU7.out.d0 HU7.out.s0).mono ?_); rintro e w9 ⟨rfl, ho9, hs9⟩; have HU9 := Lib.hid ((HU7.out.below ((Below.refl _ _).alloc (Nat.le_refl _) _)).all HUD.out ho9 hs9)))
        go_roundw
        case rel => exact ⟨k + 1, by omega, by go_num, Lib.hid (by rw [HSt2.out]; exact HU9.out)⟩
        case measure => simp [intOf]; omega
      · have g1 : ¬ (lw : Int) ≤ (k : Int) := by omega
        have HSt2 : Hid (untS lw T a b i (k + 1) = (so, wst1 0 al xa)) := Lib.hid (by rw [HSt.out, if_neg hge])
        go_wp2_with (first
          | (go_at_call 54; (with_reducible refine (HAa.out _ HU.out.bl).mono ?_); rintro e w8 ⟨rfl, hw8⟩; obtain rfl := hw8.symm)
          | (go_at_call 116; (with_reducible refine (wst_one xa 0 al Ld0 Ls0 _ HUD.out.n0 HU.out.d0 HU.out.s0).mono ?_); rintro e w9 ⟨rfl, ho9, hs9⟩; have HU9 := Lib.hid ((HU.out.below ((Below.refl _ _).alloc (Nat.le_refl _) _)).all HUD.out ho9 hs9)))
        go_roundw
        case rel => exact ⟨k + 1, by omega, by go_num, Lib.hid (by rw [HSt2.out]; exact HU9.out)⟩
        case measure => simp [intOf]; omega
    · obtain rfl : k = h + 1 := by omega
      have HR2 : Hid ((untS lw T a b i (h + 1)).1 = r) := Lib.hid HR.out.symm
      rw [HR2.out] at HU
      go_wp2_with (go_at_call 116; (with_reducible refine (wst_nil 1 r Ld1 Ls1 _ HUD.out.n1 HU.out.d1 HU.out.s1).mono ?_); rintro e w4 ⟨rfl, ho4, hs4⟩; have HU4 := Lib.hid (HU.out.some HUD.out ho4 hs4))
      go_ret
      exact ⟨rfl, HU4.out.bl⟩
end Go.Proofs.YtnpnfdnaglcnfaaDoor
