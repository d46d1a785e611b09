/- PROVED HERE: for every curve (nil or not, of any number of points, any coordinates), CurveChecks returns true, and its argument reads behind the call as before.
   Conditions: none beyond the given row's own. -/
import Derived.Test.YtglkpabcflecmaaChecksW
import Derived.Test.YtglkpabcflecmaaSidesP
import Derived.Test.YtglkpabcflecmaaLift
import Derived.Deep.SlicePairs
namespace Go.Proofs.Ytglkpabcflecmaa
open Go.ChangeShapes Go.WideShapes Go.ChangeAt Go.RowKit Go.Joins Go.Deep

/-- The number in a value. -/
def numOf : Value → Int
  | .int _ z => z
  | _ => 0

set_option maxRecDepth 100000 in
/-- A curve by value: a slice of spots, or nil. -/
theorem open_curve {H : Type} {enc : TypeId × Value → H} {W : World} {base b0 : Nat} {r : Reach} {spare : Nat → Bool} {held : Bool} {v : Value} {d : DataW H} {p : List MemPlace} (hv : Value.okWide Try.prog W r b0 24 v) (h : DataW.Trod enc Try.prog W base spare held 24 v d p) :
    ∃ (A : Option Addr) (n cap : Nat) (X Y : Nat → Int), v = .agg #[.slice A n cap] ∧ Spots W A n X Y := by
  obtain ⟨cs, rfl, hsz⟩ := okWide_struct Try.underlying24 hv
  obtain ⟨fuel, hf⟩ := h
  obtain ⟨y0, n, hx, hl, h0⟩ := trod_struct1 Try.underlying24 hf
  have hc1 : Try.prog.cellsOf 24 = 1 := by kernel_rfl
  obtain ⟨c0, hc0⟩ : ∃ c0, cs.toList = [c0] := by
    rw [hc1] at hsz
    match cs, hsz with
    | ⟨[c0]⟩, _ => exact ⟨c0, rfl⟩
  obtain rfl : cs = #[c0] := by cases cs; simp_all
  have hc2 : Try.prog.cellsOf 22 = 1 := by kernel_rfl
  have h0' : DataW.trod enc Try.prog W base spare held n 22 [c0] = some y0 := by simpa [Value.cells, hc2] using h0
  rcases open_slice_pairs Try.underlying22 Try.underlying43 cells43 rfl rfl (by kernel_rfl) (by kernel_rfl) h0' with ⟨hc, _⟩ | ⟨a, len, cap, m, n2, V0, V1, D0, D1, P0, P1, hc, hb, hle, hm, hmm, hx2, hall⟩
  · obtain rfl : c0 = .slice none 0 0 := by simpa using hc
    exact ⟨none, 0, 0, fun _ => 0, fun _ => 0, rfl, fun h => absurd h (by omega)⟩
  · obtain rfl : c0 = .slice (some a) len cap := by simpa using hc
    refine ⟨some a, len, cap, fun i => numOf (V0 i), fun i => numOf (V1 i), rfl, fun hn => ?_⟩
    have hlm : len ≤ m := by rw [hmm]; split <;> omega
    have hsp : a.spot = none := by
      have h1 := (hall 0 (by omega)).1
      unfold World.cell? at h1
      simp only [Nat.zero_mul, Addr.add] at h1
      cases hs : a.spot with
      | none => rfl
      | some z =>
        rw [if_pos trivial] at h1
        split at h1
        · rw [hs] at h1; simp at h1
        · cases h1
    obtain ⟨b, off, spot⟩ := a
    simp only at hsp
    subst hsp
    refine ⟨b, off, rfl, fun i hi => ?_⟩
    obtain ⟨g0, g1, t0, t1⟩ := hall i (by omega)
    obtain ⟨z0, q0, _, _⟩ := DataW.trod_int Try.underlying2 t0
    obtain ⟨z1, q1, _, _⟩ := DataW.trod_int Try.underlying2 t1
    simp at q0 q1
    rw [add_plain] at g0 g1
    rw [q0] at g0
    rw [q1] at g1
    dsimp only
    rw [q0, q1]
    exact ⟨g0, by rw [Nat.add_assoc]; exact g1⟩

theorem checks_walk (A : Option Addr) (n cap : Nat) (X Y : Nat → Int) (w : World) (h : Spots w A n X Y) :
    Calls Try.prog 3 #[.agg #[.slice A n cap]] w fun e w' => e = .returned (.bool true) ∧ Below w.heap.size w w' := by
  by_cases hn : 20 < n
  · exact checks_long A cap n w hn
  · exact checks_short A cap ⟨n, X, Y⟩ w h (by simp; omega)

set_option maxRecDepth 100000 in
theorem checks_lifted (os : Os) (started : os.Started) (H : Type) (enc : TypeId × Value → H) :
    ReturnsInHanded {} Try.checked os 3 .any (Rows.curveChecksSpec.pre6 enc Try.prog Try.f3 Rows.curveChecksRow.domain false) (Rows.curveChecksSpec.post enc Try.prog Try.f3 false true false false) := by
  refine returnsInHanded_of_change (C := Try.checked) ownK started (by kernel_rfl) Try.func3
    (ChangeSpec.witness6 (enc := enc) (C := Try.checked) false ⟨#[], #[.agg #[.slice none 0 0]], []⟩ 8 (by kernel_rfl) (by kernel_rfl) (by kernel_rfl) (by kernel_rfl)) ?_
  intro W base args ds gs before hval0 hW hcnd _
  have hval : ∀ (j : Nat) t v, Try.f3.params[j]? = some t → args[j]? = some v → Value.okWide Try.prog W .any base t v := hval0
  have hW' := hW
  obtain ⟨p, q, hA0, hV, rfl, hfz, hnd⟩ := hW
  have hA : DataW.TrodAll enc Try.prog W 0 (fun _ => true) true Try.f3.params.toList args.toList ds p := hA0
  rw [Try.params3] at hA hval
  obtain ⟨v0, vs0, d0, ds0, p0, q0, hargs, rfl, rfl, h0, r0⟩ := trodAll_cons hA
  obtain ⟨rfl, rfl, rfl⟩ := trodAll_nil r0
  obtain rfl : args = #[v0] := by cases args; simp_all
  obtain ⟨rfl, rfl⟩ := trodVars_none hV
  obtain ⟨A, n, cap, X, Y, rfl, hS⟩ := open_curve (hval 0 24 v0 rfl rfl) h0
  refine (checks_walk A n cap X Y W hS).mono fun e W' ⟨he, hn⟩ => ?_
  subst he
  exact ⟨_, rfl, law_post rfl rfl (by kernel_rfl) rfl rfl rfl hW' hn⟩

theorem checks_holds : Rows.CurveChecksSaid :=
  OpenClaim.holds_of_wide 3 Try.f3 rfl rfl rfl rfl rfl rfl rfl ⟨rfl, rfl, rfl, rfl, rfl⟩ rfl rfl rfl rfl rfl (by kernel_rfl) Try.func3 (by kernel_rfl)
    (of_decide_eq_true (by kernel_rfl)) (by unfold Func.isWrapper; first | (rw [if_pos (by decide +kernel)]; kernel_rfl) | (rw [if_neg (by decide +kernel)]; exact ⟨rfl, rfl⟩))
    (fun os started H enc _ => checks_lifted os started H enc)
#print axioms checks_holds
end Go.Proofs.Ytglkpabcflecmaa
