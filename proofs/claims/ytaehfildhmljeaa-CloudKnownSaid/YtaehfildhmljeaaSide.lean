/- 'Side', 'Dist2', 'Sees'. -/
import Derived.Test.YtaehfildhmljeaaValid
namespace Go.Proofs.Ytaehfildhmljeaa
open Go.RowKit Go.Shelf

abbrev Pt := Int × Int
def vp (p : Pt) : Bool := vldB p.1 p.2
theorem vp_iff (p : Pt) : vp p = true ↔ okc p.1 ∧ okc p.2 := vldB_iff _ _
def sgn (n : Int) : Int := if 0 < n then 1 else if n < 0 then -1 else 0
def crs (a b c : Pt) : Int := (b.1 - a.1) * (c.2 - a.2) - (b.2 - a.2) * (c.1 - a.1)
def sideF (a b c : Pt) : Int := if vp a && vp b && vp c then sgn (crs a b c) else 0
def dsq (a b : Pt) : Int := (b.1 - a.1) * (b.1 - a.1) + (b.2 - a.2) * (b.2 - a.2)
def distF (a b : Pt) : Int := if vp a && vp b then dsq a b else 0
abbrev pt (p : Pt) : Value := sp p.1 p.2

theorem valid_b (b off n cap : Nat) (X Y : Nat → Int) (w : World) (hp : Pts w b off n X Y) (hb : b < w.heap.size) (hn : n ≤ 1000000) (r : Bool) (hr : Hid (r = true ↔ ∀ i, i < n → okc (X i) ∧ okc (Y i))) :
    Calls Try.prog 108 #[.slice (some ⟨b, off, none⟩) n cap] w fun e w' => e = .returned (.bool r) ∧ Below w.heap.size w w' := by
  cases r with
  | true => exact valid_yes b off n cap X Y w hp hb hn (hr.out.1 rfl)
  | false =>
    have : ∃ j, j < n ∧ ¬ (okc (X j) ∧ okc (Y j)) := Classical.byContradiction fun h => by
      have := hr.out.2 (fun i hi => Classical.byContradiction fun h2 => h ⟨i, hi, h2⟩)
      cases this
    obtain ⟨j, hj, hbad⟩ := this
    exact valid_no b off n cap X Y w hp hb hn j hj hbad

def pick4 (a b c d : Int) (i : Nat) : Int := if i = 0 then a else if i = 1 then b else if i = 2 then c else d
theorem valid2 (a b : Pt) (g cap : Nat) (w : World) (h : BoxAt w g 24 #[.int .i64 a.1, .int .i64 a.2, .int .i64 b.1, .int .i64 b.2]) (r : Bool) (hr : Hid (r = (vp a && vp b))) :
    Calls Try.prog 108 #[.slice (some ⟨g, 0, none⟩) 2 cap] w fun e w' => e = .returned (.bool r) ∧ Below w.heap.size w w' := by
  refine valid_b g 0 2 cap (pick4 a.1 b.1 0 0) (pick4 a.2 b.2 0 0) w (fun i hi => ?_) h.lt (by decide) r ?_
  · have : i = 0 ∨ i = 1 := by omega
    rcases this with rfl | rfl
    · exact ⟨h.cell 0, h.cell 1⟩
    · exact ⟨h.cell 2, h.cell 3⟩
  · rw [hr.out]
    show _ ↔ _
    rw [Bool.and_eq_true, vp_iff, vp_iff]
    constructor
    · rintro ⟨h1, h2⟩ i hi
      have : i = 0 ∨ i = 1 := by omega
      rcases this with rfl | rfl
      · exact h1
      · exact h2
    · intro h; exact ⟨h 0 (by omega), h 1 (by omega)⟩
theorem valid3 (a b c : Pt) (g cap : Nat) (w : World) (h : BoxAt w g 24 #[.int .i64 a.1, .int .i64 a.2, .int .i64 b.1, .int .i64 b.2, .int .i64 c.1, .int .i64 c.2]) (r : Bool) (hr : Hid (r = (vp a && vp b && vp c))) :
    Calls Try.prog 108 #[.slice (some ⟨g, 0, none⟩) 3 cap] w fun e w' => e = .returned (.bool r) ∧ Below w.heap.size w w' := by
  refine valid_b g 0 3 cap (pick4 a.1 b.1 c.1 0) (pick4 a.2 b.2 c.2 0) w (fun i hi => ?_) h.lt (by decide) r ?_
  · have : i = 0 ∨ i = 1 ∨ i = 2 := by omega
    rcases this with rfl | rfl | rfl
    · exact ⟨h.cell 0, h.cell 1⟩
    · exact ⟨h.cell 2, h.cell 3⟩
    · exact ⟨h.cell 4, h.cell 5⟩
  · rw [hr.out]
    show _ ↔ _
    rw [Bool.and_eq_true, Bool.and_eq_true, vp_iff, vp_iff, vp_iff]
    constructor
    · rintro ⟨⟨h1, h2⟩, h3⟩ i hi
      have : i = 0 ∨ i = 1 ∨ i = 2 := by omega
      rcases this with rfl | rfl | rfl
      · exact h1
      · exact h2
      · exact h3
    · intro h; exact ⟨⟨h 0 (by omega), h 1 (by omega)⟩, h 2 (by omega)⟩
theorem valid4 (a b c d : Pt) (g cap : Nat) (w : World) (h : BoxAt w g 24 #[.int .i64 a.1, .int .i64 a.2, .int .i64 b.1, .int .i64 b.2, .int .i64 c.1, .int .i64 c.2, .int .i64 d.1, .int .i64 d.2]) (r : Bool) (hr : Hid (r = (vp a && vp b && vp c && vp d))) :
    Calls Try.prog 108 #[.slice (some ⟨g, 0, none⟩) 4 cap] w fun e w' => e = .returned (.bool r) ∧ Below w.heap.size w w' := by
  refine valid_b g 0 4 cap (pick4 a.1 b.1 c.1 d.1) (pick4 a.2 b.2 c.2 d.2) w (fun i hi => ?_) h.lt (by decide) r ?_
  · have : i = 0 ∨ i = 1 ∨ i = 2 ∨ i = 3 := by omega
    rcases this with rfl | rfl | rfl | rfl
    · exact ⟨h.cell 0, h.cell 1⟩
    · exact ⟨h.cell 2, h.cell 3⟩
    · exact ⟨h.cell 4, h.cell 5⟩
    · exact ⟨h.cell 6, h.cell 7⟩
  · rw [hr.out]
    show _ ↔ _
    rw [Bool.and_eq_true, Bool.and_eq_true, Bool.and_eq_true, vp_iff, vp_iff, vp_iff, vp_iff]
    constructor
    · rintro ⟨⟨⟨h1, h2⟩, h3⟩, h4⟩ i hi
      have : i = 0 ∨ i = 1 ∨ i = 2 ∨ i = 3 := by omega
      rcases this with rfl | rfl | rfl | rfl
      · exact h1
      · exact h2
      · exact h3
      · exact h4
    · intro h; exact ⟨⟨⟨h 0 (by omega), h 1 (by omega)⟩, h 2 (by omega)⟩, h 3 (by omega)⟩

set_option maxRecDepth 100000 in
set_option maxHeartbeats 2000000 in
theorem dist_any (a b : Pt) (n : Int) (w : World) (hn : Hid (distF a b = n)) :
    Calls Try.prog 77 #[pt a, pt b] w fun e w' => e = .returned (.int .i64 n) ∧ Below w.heap.size w w' := by
  obtain ⟨a1, a2⟩ := a
  obtain ⟨b1, b2⟩ := b
  have hx := BoxAt.new ((w.alloc (.cells #[.int .i64 a1, .int .i64 a2] 24)).alloc (.cells #[.int .i64 b1, .int .i64 b2] 24)) 24 #[.int .i64 a1, .int .i64 a2, .int .i64 b1, .int .i64 b2]
  have ha := ((BoxAt.new w 24 #[.int .i64 a1, .int .i64 a2]).alloc (.cells #[.int .i64 b1, .int .i64 b2] 24)).alloc (.cells #[.int .i64 a1, .int .i64 a2, .int .i64 b1, .int .i64 b2] 24)
  have hb := (BoxAt.new (w.alloc (.cells #[.int .i64 a1, .int .i64 a2] 24)) 24 #[.int .i64 b1, .int .i64 b2]).alloc (.cells #[.int .i64 a1, .int .i64 a2, .int .i64 b1, .int .i64 b2] 24)
  have hB : Below w.heap.size w (((w.alloc (.cells #[.int .i64 a1, .int .i64 a2] 24)).alloc (.cells #[.int .i64 b1, .int .i64 b2] 24)).alloc (.cells #[.int .i64 a1, .int .i64 a2, .int .i64 b1, .int .i64 b2] 24)) := (((Below.refl _ w).alloc (Nat.le_refl _) _).alloc (by simp) _).alloc (by simp; omega) _
  simp only [World.size_alloc] at hx hb
  cases hv : (vp (a1, a2) && vp (b1, b2)) with
  | false =>
    have hz : Hid (n = 0) := by show n = 0; rw [← hn.out]; unfold distF; rw [hv]; rfl
    have HV : Hid (false = (vp (a1, a2) && vp (b1, b2))) := hv.symm
    clear hv
    go_enter Try.func77, Try.ntmps77
    go_wp2_with (go_at_call 108; (refine (valid2 (a1, a2) (b1, b2) _ _ _ hx false HV).mono ?_); rintro e w1 ⟨rfl, hb1⟩)
    go_ret
    exact ⟨congrArg (fun z => Ending.returned (.int .i64 z)) hz.out.symm, below_step hB hb1⟩
  | true =>
    have hz : Hid ((b1 - a1) * (b1 - a1) + (b2 - a2) * (b2 - a2) = n) := by show _ = n; rw [← hn.out]; unfold distF; rw [hv]; rfl
    have HV : Hid (true = (vp (a1, a2) && vp (b1, b2))) := hv.symm
    rw [Bool.and_eq_true, vp_iff, vp_iff] at hv
    obtain ⟨⟨oa1, oa2⟩, ob1, ob2⟩ := hv
    simp only at oa1 oa2 ob1 ob2
    go_enter Try.func77, Try.ntmps77
    go_wp2_with (first
      | (go_at_call 108; (refine (valid2 (a1, a2) (b1, b2) _ _ _ hx true HV).mono ?_); rintro e w1 ⟨rfl, hb1⟩; obtain ⟨qa, k0, k1, k2, k3⟩ := box2 ha hb1; obtain ⟨qb, k4, k5, k6, k7⟩ := box2 hb hb1; have hB1 := below_step hB hb1)
      | (go_at_call 110; (refine (minus_any _ _ _ _ _ ob1 ob2 oa1 oa2).mono ?_); rintro e w2 ⟨rfl, hb2⟩; have hB2 := below_step hB1 hb2)
      | (go_at_call 111; (refine (dot_n _ _ _ _ n _ (okd_sub ob1 oa1) (okd_sub ob2 oa2) (okd_sub ob1 oa1) (okd_sub ob2 oa2) hz.out).mono ?_); rintro e w3 ⟨rfl, hb3⟩; have hB3 := below_step2 hB2 hb3))
    go_ret
    exact ⟨rfl, hB3⟩
end Go.Proofs.Ytaehfildhmljeaa
