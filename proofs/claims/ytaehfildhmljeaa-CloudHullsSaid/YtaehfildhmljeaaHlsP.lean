/- The law CloudHulls: its walk. PROVED HERE: for every slice of points, every slice of spots (nil or not, of any number, any coordinates) and every spot, CloudHulls returns true, and its arguments read behind the call as before.
   Conditions: none beyond the given row's own. -/
import Derived.Test.YtaehfildhmljeaaRIn
import Derived.Test.YtaehfildhmljeaaHlG
import Derived.Test.YtaehfildhmljeaaAwk
import Derived.Test.YtaehfildhmljeaaQBel
import Derived.Test.YtaehfildhmljeaaOpn
namespace Go.Proofs.Ytaehfildhmljeaa
open Go.RowKit Go.Shelf

theorem lXY {L : List Pt} {i : Nat} (h : i < L.length) : L[i]? = some (lX L i, lY L i) := by
  unfold lX lY
  rw [List.getElem?_eq_getElem h]
  simp [List.getD, List.getElem?_eq_getElem h]
theorem hul_spots {W : World} {base : Nat} {v : Value} {L : List Pt} (h : W.ownsRow base 24 2 v L.length (ptV L)) : ∃ A c, v = .slice A L.length c ∧ Spots W A L.length (lX L) (lY L) := by
  rcases h.2 with ⟨hv, hn⟩ | ⟨g, c, cur, hv, _⟩
  · rw [hv]
    refine ⟨none, 0, ?_, fun h0 => ?_⟩
    · rw [hn]
    · omega
  · refine ⟨some ⟨g, 0, none⟩, c, hv, fun _ => ⟨g, 0, rfl, fun i hi => ?_⟩⟩
    obtain ⟨a, b⟩ := ptV_get L i _ (lXY hi)
    have h1 := h.cells (g := g) (by rw [hv]; rfl) _ _ a
    have h2 := h.cells (g := g) (by rw [hv]; rfl) _ _ b
    rw [add_plain] at h1 h2
    exact ⟨h1, by rw [Nat.add_assoc]; exact h2⟩
theorem hull_len (n : Nat) (X Y V : Nat → Int) : (if chkF n X Y V = 0 then hulL (celL (spF X Y) n) else []).length ≤ 1000000 := by
  by_cases h : chkF n X Y V = 0
  · rw [if_pos h]
    have h1 := chkF_le h
    have h2 := hulL_len (celL (spF X Y) n)
    have h3 := celL_len (C := spF X Y) n
    omega
  · rw [if_neg h]; simp

def hlBad (n m : Nat) : Bool := decide ((40 < n ∧ n ≤ 1000) ∨ 1100 < n ∨ (20 < m ∧ m ≤ 1000) ∨ 1100 < m)

set_option maxRecDepth 100000 in
set_option maxHeartbeats 8000000 in
theorem chulls_walk (A : Option Addr) (n c1 : Nat) (X Y V : Nat → Int) (A2 : Option Addr) (m c2 : Nat) (P Q : Nat → Int) (px py : Int) (w : World) (hc1 : Cloud w A n X Y V) (hc2 : Spots w A2 m P Q) :
    Calls Try.prog 8 #[.slice A n c1, .slice A2 m c2, sp px py] w fun e w' => e = .returned (.bool true) ∧ Below w.heap.size w w' := by
  have HC1 := Lib.hid hc1
  have HC2 := Lib.hid hc2
  have hB : Below w.heap.size w (w.alloc (.cells #[.int .i64 px, .int .i64 py] 24)) := (Below.refl _ w).alloc (Nat.le_refl _) _
  have hbx := BoxAt.new w 24 #[.int .i64 px, .int .i64 py]
  obtain ⟨lg, hlg⟩ : ∃ lg, lg = decide ((40 < n ∧ n ≤ 1000) ∨ 1100 < n) := ⟨_, rfl⟩
  have HL := Lib.hid (fun W : World => (show Calls Try.prog 15 #[.slice A n c1, .int .i64 40] W fun e w' => e = .returned (.bool lg) ∧ Below W.heap.size W w' from long_any A n c1 40 lg (Lib.hid hlg.symm) W))
  go_enter Try.func8, Try.ntmps8
  go_upto_region 1 with fail
  obtain ⟨L5, hL5⟩ : ∃ z, z = w.heap.size := ⟨_, rfl⟩
  rw [← hL5] at hbx ⊢
  clear hL5
  have HBX := Lib.hid hbx
  have HB := Lib.hid hB
  clear hbx hB hc1 hc2
  generalize w.alloc (.cells #[.int .i64 px, .int .i64 py] 24) = wx at *
  go_cut [27] from 11 to 27 (fun v w' => v = .bool (hlBad n m) ∧ Below wx.heap.size wx w')
  case first =>
    cases lg with
    | true =>
      have hr : hlBad n m = true := by
        have h := hlg.symm
        rw [decide_eq_true_eq] at h
        exact decide_eq_true (by omega)
      clear hlg
      go_wp2_with (go_at_call 15; (with_reducible refine (HL.out _).mono ?_); rintro e w1 ⟨rfl, hb1⟩)
      go_meet
      exact ⟨by rw [hr]; try (simp; omega), hb1⟩
    | false =>
      have hlf := hlg.symm
      rw [decide_eq_false_iff_not] at hlf
      clear hlg
      have hmc : m ≤ 20 ∨ (20 < m ∧ m ≤ 1000) ∨ (1000 < m ∧ m ≤ 1100) ∨ 1100 < m := by omega
      rcases hmc with hm | hm | hm | hm
      · have v0 : ¬ (20 : Int) < (m : Int) := by omega
        have v1 : ¬ (1100 : Int) < (m : Int) := by omega
        have hr : hlBad n m = false := decide_eq_false (by omega)
        go_wp2_with (go_at_call 15; (with_reducible refine (HL.out _).mono ?_); rintro e w1 ⟨rfl, hb1⟩)
        go_meet
        exact ⟨by rw [hr]; try (simp; omega), hb1⟩
      · have v0 : (20 : Int) < (m : Int) := by omega
        have v1 : (m : Int) ≤ 1000 := by omega
        have hr : hlBad n m = true := decide_eq_true (by omega)
        go_wp2_with (go_at_call 15; (with_reducible refine (HL.out _).mono ?_); rintro e w1 ⟨rfl, hb1⟩)
        go_meet
        exact ⟨by rw [hr]; try (simp; omega), hb1⟩
      · have v0 : (20 : Int) < (m : Int) := by omega
        have v1 : ¬ (m : Int) ≤ 1000 := by omega
        have v2 : ¬ (1100 : Int) < (m : Int) := by omega
        have hr : hlBad n m = false := decide_eq_false (by omega)
        go_wp2_with (go_at_call 15; (with_reducible refine (HL.out _).mono ?_); rintro e w1 ⟨rfl, hb1⟩)
        go_meet
        exact ⟨by rw [hr]; try (simp; omega), hb1⟩
      · have v0 : (20 : Int) < (m : Int) := by omega
        have v1 : ¬ (m : Int) ≤ 1000 := by omega
        have v2 : (1100 : Int) < (m : Int) := by omega
        have hr : hlBad n m = true := decide_eq_true (by omega)
        go_wp2_with (go_at_call 15; (with_reducible refine (HL.out _).mono ?_); rintro e w1 ⟨rfl, hb1⟩)
        go_meet
        exact ⟨by rw [hr]; try (simp; omega), hb1⟩
  case rest =>
    clear HL hlg
    obtain ⟨wy, rfl⟩ : ∃ x : World, x = wc := ⟨_, rfl⟩
    obtain ⟨rfl, hby⟩ := hcut
    have HBY := Lib.hid (HBX.out.below hby HBX.out.lt)
    have hB := below_step HB.out hby
    clear hby HBX HB
    cases hbad : hlBad n m with
    | true =>
      go_wp2_with (go_at_call 16; (with_reducible refine (awake_any _).mono ?_); rintro e w2 ⟨rfl, hb2⟩; replace hB := below_step hB hb2)
      go_ret
      exact ⟨rfl, hB⟩
    | false =>
      have hnm : n ≤ 1100 ∧ m ≤ 1100 := by
        unfold hlBad at hbad
        rw [decide_eq_false_iff_not] at hbad
        omega
      obtain ⟨hn, hm⟩ := hnm
      clear hbad
      have HH1 := Lib.hid (fun A c W (h : Cloud W A n X Y V) => hull_any A n c X Y V W h)
      have HH2 := Lib.hid (fun A c W (h : Cloud W A n X Y V) => rhull_any A n c X Y V W h)
      unfold HulAll at HH1 HH2
      have hln := hull_len n X Y V
      obtain ⟨H, hH⟩ : ∃ H, H = (if chkF n X Y V = 0 then hulL (celL (spF X Y) n) else []) := ⟨_, rfl⟩
      rw [← hH] at HH1 HH2 hln
      clear hH
      go_upto_region 5 with (first
        | (go_at_call 17; (with_reducible refine (ownpoints_any A n c1 X Y V hn _ (HC1.out.below hB)).mono ?_); rintro e w2 ⟨B1, d1, rfl, hle1, hC1, hb2⟩; replace hB := below_step hB hb2; have HO1 := Lib.hid hC1; have HBX2 := Lib.hid (box_step HBY.out hb2); clear hC1 hle1)
        | (go_at_call 41; (with_reducible refine (ownspots_any A2 m c2 P Q hm _ (HC2.out.below hB)).mono ?_); rintro e w3 ⟨B2, d2, rfl, hC2, hb3⟩; replace hB := below_step hB hb3; have HO2 := Lib.hid hC2; have HO12 := Lib.hid (HO1.out.below hb3); have HBX3 := Lib.hid (box_step HBX2.out hb3); clear hC2)
        | (go_at_call 42; (with_reducible refine (HH1.out B1 d1 _ HO12.out).mono ?_); rintro e w4 ⟨v4, ba4, rfl, ho4, hb4⟩; obtain ⟨A3, c3, rfl, hS3⟩ := hul_spots ho4; have HS3 := Lib.hid hS3; replace hB := below_step hB hb4; have HO13 := Lib.hid (HO12.out.below hb4); have HO23 := Lib.hid (HO2.out.below hb4); have HBX4 := Lib.hid (box_step HBX3.out hb4); clear ho4 hS3)
        | (go_at_call 43; (with_reducible refine (HH2.out A c1 _ (HC1.out.below hB)).mono ?_); rintro e w5 ⟨v5, ba5, rfl, ho5, hb5⟩; obtain ⟨A4, c4, rfl, hS4⟩ := hul_spots ho5; have HS4 := Lib.hid hS4; replace hB := below_step hB hb5; have HS35 := Lib.hid (HS3.out.below hb5); have HO15 := Lib.hid (HO13.out.below hb5); have HO25 := Lib.hid (HO23.out.below hb5); have HBX5 := Lib.hid (box_step HBX4.out hb5); clear ho5 hS4))
      have hx5 := HBX5.out
      have HB5 := Lib.hid hB
      have f0 : ∀ n os, (grd w5 n os).cell? ⟨L5, 0, none⟩ = some (.int .i64 px) := cell_grd (hx5.cell 0)
      have f1 : ∀ n os, (grd w5 n os).cell? ⟨L5, 1, none⟩ = some (.int .i64 py) := cell_grd (hx5.cell 1)
      obtain ⟨a, ha⟩ : ∃ a, a = areaF m P Q := ⟨_, rfl⟩
      obtain ⟨r1, hr1⟩ : ∃ r, r = insF m P Q px py := ⟨_, rfl⟩
      obtain ⟨r2, hr2⟩ : ∃ r, r = insF H.length (lX H) (lY H) px py := ⟨_, rfl⟩
      have M1 := Lib.hid (fun W (h : Below w5.heap.size w5 W) => same_spots A3 A4 H.length c3 c4 (lX H) (lY H) W hln (HS35.out.below h) (HS4.out.below h))
      have M2 := Lib.hid (fun W (h : Below w5.heap.size w5 W) => area_any B2 m d2 P Q a W (HO25.out.below h) (by omega) (Lib.hid ha.symm))
      have M3 := Lib.hid (fun W (h : Below w5.heap.size w5 W) => rarea_any A2 m c2 P Q a W (HC2.out.below (below_step HB5.out h)) (by omega) (Lib.hid ha.symm))
      have M4 := Lib.hid (fun W (h : Below w5.heap.size w5 W) => inside_any B2 m d2 P Q px py r1 W (HO25.out.below h) (by omega) (Lib.hid hr1.symm))
      have M5 := Lib.hid (fun W (h : Below w5.heap.size w5 W) => rinside_any A2 m c2 P Q px py r1 W (HC2.out.below (below_step HB5.out h)) (by omega) (Lib.hid hr1.symm))
      have M6 := Lib.hid (fun W (h : Below w5.heap.size w5 W) => inside_any A4 H.length c4 (lX H) (lY H) px py r2 W (HS4.out.below h) hln (Lib.hid hr2.symm))
      have M7 := Lib.hid (fun W (h : Below w5.heap.size w5 W) => rinside_any A4 H.length c4 (lX H) (lY H) px py r2 W (HS4.out.below h) hln (Lib.hid hr2.symm))
      have M8 := Lib.hid (fun W (h : Below w5.heap.size w5 W) => same_points B1 A n d1 c1 X Y V W (by omega) (HO15.out.below h) (HC1.out.below (below_step HB5.out h)))
      have M9 := Lib.hid (fun W (h : Below w5.heap.size w5 W) => same_spots B2 A2 m d2 c2 P Q W (by omega) (HO25.out.below h) (HC2.out.below (below_step HB5.out h)))
      clear ha hr1 hr2 hx5 hB HO15 HO25 HS35 HS4 HBX5 HBX4 HBX3 HBX2 HBY HO13 HO23 HS3 HO12 HO2 HO1 HH1 HH2
      generalize H.length = hlen at *
      refine wp_region_quiet_grd (by kernel_rfl) (by kernel_rfl) ?_
      repeat (go_big_quiet_step (first
        | (go_at_call 44; with_reducible exact Calls.grd_of (M1.out _ (below_grd _ _ _)))
        | (go_at_call 45; with_reducible exact Calls.grd_of (M2.out _ (below_grd _ _ _)))
        | (go_at_call 46; with_reducible exact Calls.grd_of (M3.out _ (below_grd _ _ _)))
        | (go_at_call 47; with_reducible exact Calls.grd_of (M4.out _ (below_grd _ _ _)))
        | (go_at_call 48; with_reducible exact Calls.grd_of (M5.out _ (below_grd _ _ _)))
        | (go_at_call 47; with_reducible exact Calls.grd_of (M6.out _ (below_grd _ _ _)))
        | (go_at_call 48; with_reducible exact Calls.grd_of (M7.out _ (below_grd _ _ _)))))
      refine wpQuiet_nil ?_
      intro _ hw'
      obtain ⟨⟨nq, osq⟩, rfl⟩ := hw'
      have Hq := below_grd w5 nq osq
      generalize grd w5 nq osq = wq at *
      clear f0 f1 M1 M2 M3 M4 M5 M6 M7
      go_wp2_with (first
        | (go_at_call 24; (with_reducible refine (M8.out _ Hq).mono ?_); rintro e w6 ⟨rfl, hb6⟩; have Hq6 := below_step Hq hb6)
        | (go_at_call 44; (with_reducible refine (M9.out _ Hq6).mono ?_); rintro e w7 ⟨rfl, hb7⟩; have Hq7 := below_step Hq6 hb7)
        | (go_at_call 16; (with_reducible refine (awake_any _).mono ?_); rintro e w8 ⟨rfl, hb8⟩; have Hq8 := below_step Hq7 hb8))
      go_ret
      exact ⟨rfl, below_step HB5.out Hq8⟩
end Go.Proofs.Ytaehfildhmljeaa

namespace Go.Proofs.Ytaehfildhmljeaa
open Go.ChangeShapes Go.WideShapes Go.ChangeAt Go.RowKit Go.Joins Go.Deep

set_option maxRecDepth 100000 in
/-- A slice of spots, or nil. -/
theorem open_spots {H : Type} {enc : TypeId × Value → H} {W : World} {base b0 : Nat} {r : Reach} {spare : Nat → Bool} {held : Bool} {v : Value} {d : DataW H} {p : List MemPlace} (hv : Value.okWide Try.prog W r b0 56 v) (h : DataW.Trod enc Try.prog W base spare held 56 v d p) :
    ∃ (A : Option Addr) (n cap : Nat) (X Y : Nat → Int), v = .slice A n cap ∧ n ≤ cap ∧ Spots W A n X Y := by
  obtain ⟨A, n, cap, rfl⟩ := okWide_slice Try.underlying56 hv
  obtain ⟨fuel, hf⟩ := h
  have hf' : DataW.trod enc Try.prog W base spare held fuel 56 [.slice A n cap] = some (d, p) := by simpa [Value.cells] using hf
  rcases open_slice_fields Try.underlying56 Try.underlying24 (by kernel_rfl) (by kernel_rfl) hf' with ⟨hc, _⟩ | ⟨a, len, cap', m, D, Pl, hc, hb, hle, hm, hmm, hx2, hall⟩
  · obtain ⟨rfl, rfl, rfl⟩ : A = none ∧ n = 0 ∧ cap = 0 := by simpa using hc
    exact ⟨none, 0, 0, fun _ => 0, fun _ => 0, rfl, Nat.le_refl _, fun h => absurd h (by omega)⟩
  · obtain ⟨rfl, rfl, rfl⟩ : A = some a ∧ n = len ∧ cap = cap' := by simpa using hc
    have hlm : n ≤ m := by rw [hmm]; split <;> omega
    have hcell : ∀ i, i < n → ∃ x y : Int, W.cell? (a.add (i * 2)) = some (.int .i64 x) ∧ W.cell? (a.add (i * 2 + 1)) = some (.int .i64 y) := by
      intro i hi
      obtain ⟨ys, nn, _, _, _, hf⟩ := hall i (by omega)
      obtain ⟨v0, y0, g0, _, t0⟩ := hf 0 _ rfl
      obtain ⟨v1, y1, g1, _, t1⟩ := hf 1 _ rfl
      obtain ⟨z0, q0, _, _⟩ := DataW.trod_int Try.underlying2 t0
      obtain ⟨z1, q1, _, _⟩ := DataW.trod_int Try.underlying2 t1
      simp at q0 q1
      subst q0 q1
      exact ⟨z0, z1, g0, g1⟩
    refine ⟨some a, n, cap, fun i => numOf ((W.cell? (a.add (i * 2))).getD .nilIface), fun i => numOf ((W.cell? (a.add (i * 2 + 1))).getD .nilIface), rfl, hle, fun hn => ?_⟩
    have hsp : a.spot = none := by
      obtain ⟨x, y, g0, _⟩ := hcell 0 hn
      have e : a.add (0 * 2) = a ∨ (a.add (0 * 2)).spot = a.spot := by
        unfold Addr.add
        split <;> simp_all
      have h1 := plain_of_cell g0
      rcases e with e | e
      · rw [e] at h1; exact h1
      · rw [e] at h1; exact h1
    obtain ⟨b, off, spot⟩ := a
    simp only at hsp
    subst hsp
    refine ⟨b, off, rfl, fun i hi => ?_⟩
    obtain ⟨x, y, g0, g1⟩ := hcell i hi
    dsimp only
    rw [g0, g1]
    rw [add_flat] at g0 g1
    exact ⟨g0, by rw [Nat.add_assoc]; exact g1⟩

set_option maxRecDepth 100000 in
theorem chulls_lifted (os : Os) (started : os.Started) (H : Type) (enc : TypeId × Value → H) :
    ReturnsInHanded {} Try.checked os 8 .any (Rows.cloudHullsSpec.pre6 enc Try.prog Try.f8 Rows.cloudHullsRow.domain false) (Rows.cloudHullsSpec.post enc Try.prog Try.f8 false true false false) := by
  refine returnsInHanded_of_change (C := Try.checked) ownK started (by kernel_rfl) Try.func8
    (ChangeSpec.witness6 (enc := enc) (C := Try.checked) false ⟨#[], #[.slice none 0 0, .slice none 0 0, .agg #[.int .i64 0, .int .i64 0]], []⟩ 8 (by kernel_rfl) (by kernel_rfl) (by kernel_rfl) (by kernel_rfl)) ?_
  intro W base args ds gs before hval0 hW hcnd _
  have hval : ∀ (j : Nat) t v, Try.f8.params[j]? = some t → args[j]? = some v → Value.okWide Try.prog W .any base t v := hval0
  have hW' := hW
  obtain ⟨p, q, hA0, hV, rfl, hfz, hnd⟩ := hW
  have hA : DataW.TrodAll enc Try.prog W 0 (fun _ => true) true Try.f8.params.toList args.toList ds p := hA0
  rw [Try.params8] at hA hval
  obtain ⟨v0, vs0, d0, ds0, p0, q0, hargs, rfl, rfl, h0, r0⟩ := trodAll_cons hA
  obtain ⟨v1, vs1, d1, ds1, p1, q1, rfl, rfl, rfl, h1, r1⟩ := trodAll_cons r0
  obtain ⟨v2, vs2, d2, ds2, p2, q2, rfl, rfl, rfl, h2, r2⟩ := trodAll_cons r1
  obtain ⟨rfl, rfl, rfl⟩ := trodAll_nil r2
  obtain rfl : args = #[v0, v1, v2] := by cases args; simp_all
  obtain ⟨rfl, rfl⟩ := trodVars_none hV
  obtain ⟨A, n, c1, X, Y, V, rfl, _, hS⟩ := open_points (hval 0 22 v0 rfl rfl) h0
  obtain ⟨B, m, c2, P, Q, rfl, _, hS'⟩ := open_spots (hval 1 56 v1 rfl rfl) h1
  obtain ⟨a, b, rfl⟩ := open_spot (hval 2 24 v2 rfl rfl) h2
  refine (chulls_walk A n c1 X Y V B m c2 P Q a b W hS hS').mono fun e W' ⟨he, hn⟩ => ?_
  subst he
  exact ⟨_, rfl, law_post rfl rfl (by kernel_rfl) rfl rfl rfl hW' hn⟩

theorem chulls_holds : Rows.CloudHullsSaid :=
  OpenClaim.holds_of_wide 8 Try.f8 rfl rfl rfl rfl rfl rfl rfl ⟨rfl, rfl, rfl, rfl, rfl⟩ rfl rfl rfl rfl rfl (by kernel_rfl) Try.func8 (by kernel_rfl)
    (of_decide_eq_true (by kernel_rfl)) (by unfold Func.isWrapper; first | (rw [if_pos (by decide +kernel)]; kernel_rfl) | (rw [if_neg (by decide +kernel)]; exact ⟨rfl, rfl⟩))
    (fun os started H enc _ => chulls_lifted os started H enc)
#print axioms chulls_holds
end Go.Proofs.Ytaehfildhmljeaa
