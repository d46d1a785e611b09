/- PROVED HERE: for every curve (nil or not, of any number of points), all numbers of which a curve is made, every spot and every reach, CurveFeet returns true, and its arguments read behind the call as before.
   Conditions: none beyond the given row's own. -/
import Derived.Test.YtglkpabcflecmaaFeetW
import Derived.Test.YtglkpabcflecmaaKOpen
namespace Go.Proofs.Ytglkpabcflecmaa
open Go.ChangeShapes Go.WideShapes Go.ChangeAt Go.RowKit Go.Joins Go.Deep

theorem feet_walk (A : Option Addr) (n cap : Nat) (X Y : Nat → Int) (x y : Int) (B : Option Addr) (m bc : Nat) (S : Nat → Int) (p q r : Int) (w : World) (h : Spots w A n X Y) (hS : Stps w B m S) :
    Calls Try.prog 5 #[.agg #[.slice A n cap], chv x y B m bc, sp p q, .int .i64 r] w fun e w' => e = .returned (.bool true) ∧ Below w.heap.size w w' := by
  by_cases hn : 20 < n
  · exact feet_long A cap n p q r _ w hn x y B m bc rfl
  · exact feet_short A cap ⟨n, X, Y⟩ x y B m bc S p q r w h hS (by simp; omega)

set_option maxRecDepth 100000 in
theorem feet_lifted (os : Os) (started : os.Started) (H : Type) (enc : TypeId × Value → H) :
    ReturnsInHanded {} Try.checked os 5 .any (Rows.curveFeetSpec.pre6 enc Try.prog Try.f5 Rows.curveFeetRow.domain false) (Rows.curveFeetSpec.post enc Try.prog Try.f5 false true false false) := by
  refine returnsInHanded_of_change (C := Try.checked) ownK started (by kernel_rfl) Try.func5
    (ChangeSpec.witness6 (enc := enc) (C := Try.checked) false ⟨#[], #[.agg #[.slice none 0 0], chv 0 0 none 0 0, sp 0 0, .int .i64 0], []⟩ 8 (by kernel_rfl) (by kernel_rfl) (by kernel_rfl) (by kernel_rfl)) ?_
  intro W base args ds gs before hval0 hW hcnd _
  have hval : ∀ (j : Nat) t v, Try.f5.params[j]? = some t → args[j]? = some v → Value.okWide Try.prog W .any base t v := hval0
  have hW' := hW
  obtain ⟨p, q, hA0, hV, rfl, hfz, hnd⟩ := hW
  have hA : DataW.TrodAll enc Try.prog W 0 (fun _ => true) true Try.f5.params.toList args.toList ds p := hA0
  rw [Try.params5] at hA hval
  obtain ⟨v0, vs0, d0, ds0, p0, q0, hargs, rfl, rfl, h0, r0⟩ := trodAll_cons hA
  obtain ⟨v1, vs1, d1, ds1, p1, q1, rfl, rfl, rfl, h1, r1⟩ := trodAll_cons r0
  obtain ⟨v2, vs2, d2, ds2, p2, q2, rfl, rfl, rfl, h2, r2⟩ := trodAll_cons r1
  obtain ⟨v3, vs3, d3, ds3, p3, q3, rfl, rfl, rfl, h3, r3⟩ := trodAll_cons r2
  obtain ⟨rfl, rfl, rfl⟩ := trodAll_nil r3
  obtain rfl : args = #[v0, v1, v2, v3] := by cases args; simp_all
  obtain ⟨rfl, rfl⟩ := trodVars_none hV
  obtain ⟨A, n, cap, X, Y, rfl, hS⟩ := open_curve (hval 0 24 v0 rfl rfl) h0
  obtain ⟨x, y, B, m, bc, S, rfl, hT⟩ := open_chain (hval 1 37 v1 rfl rfl) h1
  obtain ⟨pp, qq, rfl⟩ := open_spot (hval 2 43 v2 rfl rfl) h2
  obtain ⟨r, rfl, rfl, rfl, w4⟩ := open_int Try.underlying2 (hval 3 2 v3 rfl rfl) h3
  refine (feet_walk A n cap X Y x y B m bc S pp qq r W hS hT).mono fun e W' ⟨he, hn⟩ => ?_
  subst he
  exact ⟨_, rfl, law_post rfl rfl (by kernel_rfl) rfl rfl rfl hW' hn⟩

theorem feet_holds : Rows.CurveFeetSaid :=
  OpenClaim.holds_of_wide 5 Try.f5 rfl rfl rfl rfl rfl rfl rfl ⟨rfl, rfl, rfl, rfl, rfl⟩ rfl rfl rfl rfl rfl (by kernel_rfl) Try.func5 (by kernel_rfl)
    (of_decide_eq_true (by kernel_rfl)) (by unfold Func.isWrapper; first | (rw [if_pos (by decide +kernel)]; kernel_rfl) | (rw [if_neg (by decide +kernel)]; exact ⟨rfl, rfl⟩))
    (fun os started H enc _ => feet_lifted os started H enc)
#print axioms feet_holds
end Go.Proofs.Ytglkpabcflecmaa
