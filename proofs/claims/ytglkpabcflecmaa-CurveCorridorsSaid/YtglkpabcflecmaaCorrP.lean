/- PROVED HERE: for any two curves (nil or not, of any number of points, any coordinates), all numbers of which two more curves are made, and any half widths, CurveCorridors returns true, and its arguments read behind the call as before.
   Conditions: none beyond the given row's own. -/
import Derived.Test.YtglkpabcflecmaaCorrW
import Derived.Test.YtglkpabcflecmaaKOpen
namespace Go.Proofs.Ytglkpabcflecmaa
open Go.ChangeShapes Go.WideShapes Go.ChangeAt Go.RowKit Go.Joins Go.Deep

theorem corr_walk (A1 A2 : Option Addr) (n1 n2 c1 c2 : Nat) (X1 Y1 X2 Y2 : Nat → Int) (x1 y1 : Int) (B1 : Option Addr) (m1 bc1 : Nat) (S1 : Nat → Int) (x2 y2 : Int) (B2 : Option Addr) (m2 bc2 : Nat) (S2 : Nat → Int) (ha hb : Int) (w : World)
    (sa : Spots w A1 n1 X1 Y1) (sb : Spots w A2 n2 X2 Y2) (hS1 : Stps w B1 m1 S1) (hS2 : Stps w B2 m2 S2) :
    Calls Try.prog 7 #[.agg #[.slice A1 n1 c1], .agg #[.slice A2 n2 c2], chv x1 y1 B1 m1 bc1, chv x2 y2 B2 m2 bc2, .int .i64 ha, .int .i64 hb] w fun e w' => e = .returned (.bool true) ∧ Below w.heap.size w w' := by
  by_cases l1 : 20 < n1
  · exact corr_long1 A1 A2 c1 c2 ⟨n1, X1, Y1⟩ ⟨n2, X2, Y2⟩ x1 y1 B1 m1 bc1 x2 y2 B2 m2 bc2 ha hb w l1
  by_cases l2 : 20 < n2
  · exact corr_long2 A1 A2 c1 c2 ⟨n1, X1, Y1⟩ ⟨n2, X2, Y2⟩ x1 y1 B1 m1 bc1 x2 y2 B2 m2 bc2 ha hb w l1 l2
  exact corr_short A1 A2 c1 c2 ⟨n1, X1, Y1⟩ ⟨n2, X2, Y2⟩ x1 y1 B1 m1 bc1 S1 x2 y2 B2 m2 bc2 S2 ha hb w (by show n1 ≤ 20; omega) (by show n2 ≤ 20; omega) sa sb hS1 hS2

set_option maxRecDepth 100000 in
theorem corr_lifted (os : Os) (started : os.Started) (H : Type) (enc : TypeId × Value → H) :
    ReturnsInHanded {} Try.checked os 7 .any (Rows.curveCorridorsSpec.pre6 enc Try.prog Try.f7 Rows.curveCorridorsRow.domain false) (Rows.curveCorridorsSpec.post enc Try.prog Try.f7 false true false false) := by
  refine returnsInHanded_of_change (C := Try.checked) ownK started (by kernel_rfl) Try.func7
    (ChangeSpec.witness6 (enc := enc) (C := Try.checked) false ⟨#[], #[.agg #[.slice none 0 0], .agg #[.slice none 0 0], chv 0 0 none 0 0, chv 0 0 none 0 0, .int .i64 0, .int .i64 0], []⟩ 8 (by kernel_rfl) (by kernel_rfl) (by kernel_rfl) (by kernel_rfl)) ?_
  intro W base args ds gs before hval0 hW hcnd _
  have hval : ∀ (j : Nat) t v, Try.f7.params[j]? = some t → args[j]? = some v → Value.okWide Try.prog W .any base t v := hval0
  have hW' := hW
  obtain ⟨p, q, hA0, hV, rfl, hfz, hnd⟩ := hW
  have hA : DataW.TrodAll enc Try.prog W 0 (fun _ => true) true Try.f7.params.toList args.toList ds p := hA0
  rw [Try.params7] at hA hval
  obtain ⟨v0, vs0, d0, ds0, p0, q0, hargs, rfl, rfl, h0, r0⟩ := trodAll_cons hA
  obtain ⟨v1, vs1, d1, ds1, p1, q1, rfl, rfl, rfl, h1, r1⟩ := trodAll_cons r0
  obtain ⟨v2, vs2, d2, ds2, p2, q2, rfl, rfl, rfl, h2, r2⟩ := trodAll_cons r1
  obtain ⟨v3, vs3, d3, ds3, p3, q3, rfl, rfl, rfl, h3, r3⟩ := trodAll_cons r2
  obtain ⟨v4, vs4, d4, ds4, p4, q4, rfl, rfl, rfl, h4, r4⟩ := trodAll_cons r3
  obtain ⟨v5, vs5, d5, ds5, p5, q5, rfl, rfl, rfl, h5, r5⟩ := trodAll_cons r4
  obtain ⟨rfl, rfl, rfl⟩ := trodAll_nil r5
  obtain rfl : args = #[v0, v1, v2, v3, v4, v5] := by cases args; simp_all
  obtain ⟨rfl, rfl⟩ := trodVars_none hV
  obtain ⟨A1, n1, c1, X1, Y1, rfl, hA1⟩ := open_curve (hval 0 24 v0 rfl rfl) h0
  obtain ⟨A2, n2, c2, X2, Y2, rfl, hA2⟩ := open_curve (hval 1 24 v1 rfl rfl) h1
  obtain ⟨x, y, B, m, bc, S, rfl, hT⟩ := open_chain (hval 2 37 v2 rfl rfl) h2
  obtain ⟨x', y', B', m', bc', S', rfl, hT'⟩ := open_chain (hval 3 37 v3 rfl rfl) h3
  obtain ⟨s, rfl, rfl, rfl, w4⟩ := open_int Try.underlying2 (hval 4 2 v4 rfl rfl) h4
  obtain ⟨s', rfl, rfl, rfl, w5⟩ := open_int Try.underlying2 (hval 5 2 v5 rfl rfl) h5
  refine (corr_walk A1 A2 n1 n2 c1 c2 X1 Y1 X2 Y2 x y B m bc S x' y' B' m' bc' S' s s' W hA1 hA2 hT hT').mono fun e W' ⟨he, hn⟩ => ?_
  subst he
  exact ⟨_, rfl, law_post rfl rfl (by kernel_rfl) rfl rfl rfl hW' hn⟩

theorem corr_holds : Rows.CurveCorridorsSaid :=
  OpenClaim.holds_of_wide 7 Try.f7 rfl rfl rfl rfl rfl rfl rfl ⟨rfl, rfl, rfl, rfl, rfl⟩ rfl rfl rfl rfl rfl (by kernel_rfl) Try.func7 (by kernel_rfl)
    (of_decide_eq_true (by kernel_rfl)) (by unfold Func.isWrapper; first | (rw [if_pos (by decide +kernel)]; kernel_rfl) | (rw [if_neg (by decide +kernel)]; exact ⟨rfl, rfl⟩))
    (fun os started H enc _ => corr_lifted os started H enc)
#print axioms corr_holds
end Go.Proofs.Ytglkpabcflecmaa
