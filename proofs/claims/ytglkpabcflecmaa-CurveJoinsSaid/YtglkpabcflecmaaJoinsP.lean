/- PROVED HERE: for any two curves (nil or not, of any number of points, any coordinates) and all numbers of which two more curves are made, CurveJoins returns true, and its arguments read behind the call as before.
   Conditions: none beyond the given row's own. -/
import Derived.Test.YtglkpabcflecmaaJoinsM
import Derived.Test.YtglkpabcflecmaaKOpen
namespace Go.Proofs.Ytglkpabcflecmaa
open Go.ChangeShapes Go.WideShapes Go.ChangeAt Go.RowKit Go.Joins Go.Deep

set_option maxRecDepth 100000 in
/-- A curve by value: a slice of spots, or nil; and what it can hold. -/
theorem open_curve_cap {H : Type} {enc : TypeId × Value → H} {W : World} {base b0 : Nat} {r : Reach} {spare : Nat → Bool} {held : Bool} {v : Value} {d : DataW H} {p : List MemPlace} (hv : Value.okWide Try.prog W r b0 24 v) (h : DataW.Trod enc Try.prog W base spare held 24 v d p) :
    ∃ (A : Option Addr) (n cap : Nat) (X Y : Nat → Int), v = .agg #[.slice A n cap] ∧ n ≤ cap ∧ Spots W A n X Y := by
  obtain ⟨cs, rfl, hsz⟩ := okWide_struct Try.underlying24 hv
  obtain ⟨fuel, hf⟩ := h
  obtain ⟨y0, n, hx, hl, h0⟩ := trod_struct1 Try.underlying24 hf
  have hc1 : Try.prog.cellsOf 24 = 1 := by kernel_rfl
  obtain ⟨c0, hc0⟩ : ∃ c0, cs.toList = [c0] := by
    rw [hc1] at hsz
    match cs, hsz with
    | ⟨[c0]⟩, _ => exact ⟨c0, rfl⟩
  obtain rfl : cs = #[c0] := by cases cs; simp_all
  have hc2 : Try.prog.cellsOf 22 = 1 := by kernel_rfl
  have h0' : DataW.trod enc Try.prog W base spare held n 22 [c0] = some y0 := by simpa [Value.cells, hc2] using h0
  rcases open_slice_pairs Try.underlying22 Try.underlying43 cells43 rfl rfl (by kernel_rfl) (by kernel_rfl) h0' with ⟨hc, _⟩ | ⟨a, len, cap, m, n2, V0, V1, D0, D1, P0, P1, hc, hb, hle, hm, hmm, hx2, hall⟩
  · obtain rfl : c0 = .slice none 0 0 := by simpa using hc
    exact ⟨none, 0, 0, fun _ => 0, fun _ => 0, rfl, Nat.le_refl _, fun h => absurd h (by omega)⟩
  · obtain rfl : c0 = .slice (some a) len cap := by simpa using hc
    refine ⟨some a, len, cap, fun i => numOf (V0 i), fun i => numOf (V1 i), rfl, hle, fun hn => ?_⟩
    have hlm : len ≤ m := by rw [hmm]; split <;> omega
    have hsp : a.spot = none := by
      have h1 := (hall 0 (by omega)).1
      unfold World.cell? at h1
      simp only [Nat.zero_mul, Addr.add] at h1
      cases hs : a.spot with
      | none => rfl
      | some z =>
        rw [if_pos trivial] at h1
        split at h1
        · rw [hs] at h1; simp at h1
        · cases h1
    obtain ⟨b, off, spot⟩ := a
    simp only at hsp
    subst hsp
    refine ⟨b, off, rfl, fun i hi => ?_⟩
    obtain ⟨g0, g1, t0, t1⟩ := hall i (by omega)
    obtain ⟨z0, q0, _, _⟩ := DataW.trod_int Try.underlying2 t0
    obtain ⟨z1, q1, _, _⟩ := DataW.trod_int Try.underlying2 t1
    simp at q0 q1
    rw [add_plain] at g0 g1
    rw [q0] at g0
    rw [q1] at g1
    dsimp only
    rw [q0, q1]
    exact ⟨g0, by rw [Nat.add_assoc]; exact g1⟩

theorem joins_walk (A1 A2 : Option Addr) (n1 n2 c1 c2 : Nat) (X1 Y1 X2 Y2 : Nat → Int) (x1 y1 : Int) (B1 : Option Addr) (m1 bc1 : Nat) (S1 : Nat → Int) (x2 y2 : Int) (B2 : Option Addr) (m2 bc2 : Nat) (S2 : Nat → Int) (w : World)
    (h1 : n1 ≤ c1) (h2 : n2 ≤ c2) (ha : Spots w A1 n1 X1 Y1) (hb : Spots w A2 n2 X2 Y2) (hS1 : Stps w B1 m1 S1) (hS2 : Stps w B2 m2 S2) :
    Calls Try.prog 8 #[.agg #[.slice A1 n1 c1], .agg #[.slice A2 n2 c2], chv x1 y1 B1 m1 bc1, chv x2 y2 B2 m2 bc2] w fun e w' => e = .returned (.bool true) ∧ Below w.heap.size w w' := by
  by_cases l1 : 20 < n1
  · exact joins_long1 A1 A2 c1 c2 n1 n2 x1 y1 B1 m1 bc1 x2 y2 B2 m2 bc2 w l1
  by_cases l2 : 20 < n2
  · exact joins_long2 A1 A2 c1 c2 n1 n2 x1 y1 B1 m1 bc1 x2 y2 B2 m2 bc2 w (by omega) l2
  exact joins_short A1 A2 c1 c2 ⟨n1, X1, Y1⟩ ⟨n2, X2, Y2⟩ x1 y1 B1 m1 bc1 S1 x2 y2 B2 m2 bc2 S2 w (by show n1 ≤ 20; omega) (by show n2 ≤ 20; omega) h1 h2 ha hb hS1 hS2

set_option maxRecDepth 100000 in
theorem joins_lifted (os : Os) (started : os.Started) (H : Type) (enc : TypeId × Value → H) :
    ReturnsInHanded {} Try.checked os 8 .any (Rows.curveJoinsSpec.pre6 enc Try.prog Try.f8 Rows.curveJoinsRow.domain false) (Rows.curveJoinsSpec.post enc Try.prog Try.f8 false true false false) := by
  refine returnsInHanded_of_change (C := Try.checked) ownK started (by kernel_rfl) Try.func8
    (ChangeSpec.witness6 (enc := enc) (C := Try.checked) false ⟨#[], #[.agg #[.slice none 0 0], .agg #[.slice none 0 0], chv 0 0 none 0 0, chv 0 0 none 0 0], []⟩ 8 (by kernel_rfl) (by kernel_rfl) (by kernel_rfl) (by kernel_rfl)) ?_
  intro W base args ds gs before hval0 hW hcnd _
  have hval : ∀ (j : Nat) t v, Try.f8.params[j]? = some t → args[j]? = some v → Value.okWide Try.prog W .any base t v := hval0
  have hW' := hW
  obtain ⟨p, q, hA0, hV, rfl, hfz, hnd⟩ := hW
  have hA : DataW.TrodAll enc Try.prog W 0 (fun _ => true) true Try.f8.params.toList args.toList ds p := hA0
  rw [Try.params8] at hA hval
  obtain ⟨v0, vs0, d0, ds0, p0, q0, hargs, rfl, rfl, h0, r0⟩ := trodAll_cons hA
  obtain ⟨v1, vs1, d1, ds1, p1, q1, rfl, rfl, rfl, h1, r1⟩ := trodAll_cons r0
  obtain ⟨v2, vs2, d2, ds2, p2, q2, rfl, rfl, rfl, h2, r2⟩ := trodAll_cons r1
  obtain ⟨v3, vs3, d3, ds3, p3, q3, rfl, rfl, rfl, h3, r3⟩ := trodAll_cons r2
  obtain ⟨rfl, rfl, rfl⟩ := trodAll_nil r3
  obtain rfl : args = #[v0, v1, v2, v3] := by cases args; simp_all
  obtain ⟨rfl, rfl⟩ := trodVars_none hV
  obtain ⟨A1, n1, c1, X1, Y1, rfl, l1, hA1⟩ := open_curve_cap (hval 0 24 v0 rfl rfl) h0
  obtain ⟨A2, n2, c2, X2, Y2, rfl, l2, hA2⟩ := open_curve_cap (hval 1 24 v1 rfl rfl) h1
  obtain ⟨x, y, B, m, bc, S, rfl, hT⟩ := open_chain (hval 2 37 v2 rfl rfl) h2
  obtain ⟨x', y', B', m', bc', S', rfl, hT'⟩ := open_chain (hval 3 37 v3 rfl rfl) h3
  refine (joins_walk A1 A2 n1 n2 c1 c2 X1 Y1 X2 Y2 x y B m bc S x' y' B' m' bc' S' W l1 l2 hA1 hA2 hT hT').mono fun e W' ⟨he, hn⟩ => ?_
  subst he
  exact ⟨_, rfl, law_post rfl rfl (by kernel_rfl) rfl rfl rfl hW' hn⟩

theorem joins_holds : Rows.CurveJoinsSaid :=
  OpenClaim.holds_of_wide 8 Try.f8 rfl rfl rfl rfl rfl rfl rfl ⟨rfl, rfl, rfl, rfl, rfl⟩ rfl rfl rfl rfl rfl (by kernel_rfl) Try.func8 (by kernel_rfl)
    (of_decide_eq_true (by kernel_rfl)) (by unfold Func.isWrapper; first | (rw [if_pos (by decide +kernel)]; kernel_rfl) | (rw [if_neg (by decide +kernel)]; exact ⟨rfl, rfl⟩))
    (fun os started H enc _ => joins_lifted os started H enc)
#print axioms joins_holds
end Go.Proofs.Ytglkpabcflecmaa
