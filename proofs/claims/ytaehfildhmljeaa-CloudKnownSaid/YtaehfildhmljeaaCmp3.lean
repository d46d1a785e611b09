/- Comparing numbers and spots; distances. Comparing spots; steps; agreeing spots. Steps. Which shift goes before another one. -/
import Derived.Test.YtaehfildhmljeaaQBel
import Derived.Test.YtaehfildhmljeaaSide
import Derived.Deep.RegionHeld3
namespace Go.Proofs.Ytaehfildhmljeaa
open Go.RowKit Go.Shelf

def cmpF (a b : Int) : Int := if a < b then -1 else if b < a then 1 else 0
def orF (a b : Int) : Int := if a = 0 then b else a
def cmpP (p q : Pt) : Int := orF (cmpF p.1 q.1) (cmpF p.2 q.2)
theorem isnan_any (a : Int) (w : World) : Calls Try.prog 135 #[.int .i64 a] w fun e w' => e = .returned (.bool false) ∧ w' = w := by
  go_enter Try.func135, Try.ntmps135
  go_wp2
  go_ret
  exact ⟨by simp, rfl⟩
theorem cmp_any (a b : Int) (w : World) : Calls Try.prog 106 #[.int .i64 a, .int .i64 b] w fun e w' => e = .returned (.int .i64 (cmpF a b)) ∧ w' = w := by
  rcases Int.lt_trichotomy a b with h | h | h
  · have HE : Hid (cmpF a b = -1) := Lib.hid (by unfold cmpF; rw [if_pos h])
    go_enter Try.func106, Try.ntmps106
    go_wp2_with (go_at_call 135; (with_reducible refine (isnan_any _ _).mono ?_); rintro e w1 ⟨rfl, rfl⟩)
    go_ret
    exact ⟨by rw [HE.out]; rfl, rfl⟩
  · subst h
    have HE : Hid (cmpF a a = 0) := Lib.hid (by unfold cmpF; simp)
    go_enter Try.func106, Try.ntmps106
    go_wp2_with (go_at_call 135; (with_reducible refine (isnan_any _ _).mono ?_); rintro e w1 ⟨rfl, rfl⟩)
    go_ret
    exact ⟨by rw [HE.out]; rfl, rfl⟩
  · have HE : Hid (cmpF a b = 1) := Lib.hid (by unfold cmpF; rw [if_neg (by omega), if_pos h])
    have h2 : ¬ a < b := by omega
    go_enter Try.func106, Try.ntmps106
    go_wp2_with (go_at_call 135; (with_reducible refine (isnan_any _ _).mono ?_); rintro e w1 ⟨rfl, rfl⟩)
    go_ret
    exact ⟨by rw [HE.out]; rfl, rfl⟩
set_option maxHeartbeats 1000000 in
theorem or_any (x y : Int) (g : Nat) (w : World) (hb : BoxAt w g 3 #[.int .i64 x, .int .i64 y]) :
    Calls Try.prog 105 #[.slice (some ⟨g, 0, none⟩) 2 2] w fun e w' => e = .returned (.int .i64 (orF x y)) ∧ w' = w := by
  have c0 : w.cell? ⟨g, 0, none⟩ = some (.int .i64 x) := hb.cell 0
  have c1 : w.cell? ⟨g, 1, none⟩ = some (.int .i64 y) := hb.cell 1
  have l1 := hb.lt
  clear hb
  by_cases hx : x = 0
  · by_cases hy : y = 0
    · subst hx hy
      go_enter Try.func105, Try.ntmps105
      go_wp2
      go_loopw [8] (fun i wr => wr = w ∧ ∃ k : Nat, k ≤ 2 ∧ i = .int .i64 k) (fun i _ => 2 - (intOf i).toNat)
      case atStart => exact ⟨rfl, 0, by omega, rfl⟩
      case round =>
        obtain ⟨rfl, k, hk, rfl⟩ := hrel
        have hk3 : k = 0 ∨ k = 1 ∨ k = 2 := by omega
        rcases hk3 with rfl | rfl | rfl
        · go_wp2
          go_roundw
          case rel => exact ⟨by simp, 1, by omega, rfl⟩
          case measure => simp [intOf]
        · go_wp2
          go_roundw
          case rel => exact ⟨by simp, 2, by omega, rfl⟩
          case measure => simp [intOf]
        · go_wp2
          go_ret
          exact ⟨by simp [orF], rfl⟩
    · subst hx
      have HY := Lib.hid hy
      go_enter Try.func105, Try.ntmps105
      go_wp2
      go_loopw [8] (fun i wr => wr = w ∧ ∃ k : Nat, k ≤ 1 ∧ i = .int .i64 k) (fun i _ => 2 - (intOf i).toNat)
      case atStart => exact ⟨rfl, 0, by omega, rfl⟩
      case round =>
        obtain ⟨rfl, k, hk, rfl⟩ := hrel
        have hk3 : k = 0 ∨ k = 1 := by omega
        rcases hk3 with rfl | rfl
        · go_wp2
          go_roundw
          case rel => exact ⟨by simp, 1, by omega, rfl⟩
          case measure => simp [intOf]
        · go_wp2
          go_ret
          exact ⟨by simp [orF], rfl⟩
  · have HX := Lib.hid hx
    go_enter Try.func105, Try.ntmps105
    go_wp2
    go_loopw [8] (fun i wr => wr = w ∧ ∃ k : Nat, k ≤ 0 ∧ i = .int .i64 k) (fun i _ => 2 - (intOf i).toNat)
    case atStart => exact ⟨rfl, 0, by omega, rfl⟩
    case round =>
      obtain ⟨rfl, k, hk, rfl⟩ := hrel
      obtain rfl : k = 0 := by omega
      go_wp2
      go_ret
      exact ⟨by simp [orF, HX.out], rfl⟩
/-- The distance of two numbers. -/
def dsF (a b : Int) : Int := max (a - b) (b - a)
theorem dist1_any (a b : Int) (w : World) (h1 : -1073741824 ≤ a - b) (h2 : a - b ≤ 1073741824) : Calls Try.prog 137 #[.int .i64 a, .int .i64 b] w fun e w' => e = .returned (.int .i64 (dsF a b)) ∧ w' = w := by
  rcases Int.lt_or_le (a - b) (b - a) with h | h
  · have HE : Hid (dsF a b = b - a) := Lib.hid (by unfold dsF; omega)
    have h3 : ¬ b - a ≤ a - b := by omega
    have w1 : IntKind.i64.wrap (a - b) = a - b := IntWalk.i64_in _ (by omega)
    have w2 : IntKind.i64.wrap (b - a) = b - a := IntWalk.i64_in _ (by omega)
    go_enter Try.func137, Try.ntmps137
    go_wp2
    go_ret
    exact ⟨by rw [HE.out]; rfl, rfl⟩
  · have HE : Hid (dsF a b = a - b) := Lib.hid (by unfold dsF; omega)
    have h3 : ¬ a - b < b - a := by omega
    have w1 : IntKind.i64.wrap (a - b) = a - b := IntWalk.i64_in _ (by omega)
    have w2 : IntKind.i64.wrap (b - a) = b - a := IntWalk.i64_in _ (by omega)
    go_enter Try.func137, Try.ntmps137
    go_wp2
    go_ret
    exact ⟨by rw [HE.out]; rfl, rfl⟩
theorem vwin_any (n : Int) (r : Bool) (hr : r = decide (0 ≤ n ∧ n ≤ 2000)) (w : World) : Calls Try.prog 100 #[.int .i64 n] w fun e w' => e = .returned (.bool r) ∧ w' = w := by
  by_cases h1 : 0 ≤ n
  · by_cases h2 : n ≤ 2000
    · obtain rfl : r = true := by rw [hr]; simp [h1, h2]
      clear hr
      go_enter Try.func100, Try.ntmps100
      go_wp2
      go_ret
      exact ⟨rfl, rfl⟩
    · obtain rfl : r = false := by rw [hr]; simp [h2]
      clear hr
      go_enter Try.func100, Try.ntmps100
      go_wp2
      go_ret
      exact ⟨rfl, rfl⟩
  · obtain rfl : r = false := by rw [hr]; simp [h1]
    clear hr
    go_enter Try.func100, Try.ntmps100
    go_wp2
    go_ret
    exact ⟨rfl, rfl⟩
end Go.Proofs.Ytaehfildhmljeaa

namespace Go.Proofs.Ytaehfildhmljeaa
open Go.RowKit Go.Shelf

set_option maxRecDepth 100000 in
set_option maxHeartbeats 2000000 in
theorem compare_any (a b c d : Int) (w : World) : Calls Try.prog 68 #[sp a b, sp c d] w fun e w' => e = .returned (.int .i64 (cmpP (a, b) (c, d))) ∧ Below w.heap.size w w' := by
  have HE : Hid (cmpP (a, b) (c, d) = orF (cmpF a c) (cmpF b d)) := Lib.hid rfl
  rw [HE.out]
  have HX := Lib.hid (fun W => cmp_any a c W)
  have HY := Lib.hid (fun W => cmp_any b d W)
  obtain ⟨u, hu⟩ : ∃ u, u = cmpF a c := ⟨_, rfl⟩
  obtain ⟨v, hv⟩ : ∃ v, v = cmpF b d := ⟨_, rfl⟩
  rw [← hu] at HX ⊢
  rw [← hv] at HY ⊢
  clear hu hv HE
  go_enter Try.func68, Try.ntmps68
  go_upto_region 1 with fail
  have ha := (BoxAt.new w 24 #[.int .i64 a, .int .i64 b]).alloc (.cells #[.int .i64 c, .int .i64 d] 24)
  have hb := BoxAt.new (w.alloc (.cells #[.int .i64 a, .int .i64 b] 24)) 24 #[.int .i64 c, .int .i64 d]
  have HB := Lib.hid (((Below.refl w.heap.size w).alloc (Nat.le_refl _) (.cells #[.int .i64 a, .int .i64 b] 24)).alloc (by simp) (.cells #[.int .i64 c, .int .i64 d] 24))
  simp only [World.size_alloc] at hb
  obtain ⟨L, hL⟩ : ∃ z, z = w.heap.size := ⟨_, rfl⟩
  have hLL : w.heap.size ≤ L := by omega
  rw [← hL] at ha hb ⊢
  clear hL
  generalize (w.alloc (.cells #[.int .i64 a, .int .i64 b] 24)).alloc (.cells #[.int .i64 c, .int .i64 d] 24) = wx at *
  have p0 : wx.cell? ⟨L, 0, none⟩ = some (.int .i64 a) := ha.cell 0
  have p1 : wx.cell? ⟨L, 1, none⟩ = some (.int .i64 b) := ha.cell 1
  have p2 : wx.cell? ⟨L + 1, 0, none⟩ = some (.int .i64 c) := hb.cell 0
  have p3 : wx.cell? ⟨L + 1, 1, none⟩ = some (.int .i64 d) := hb.cell 1
  have l1 := ha.lt
  have l2 := hb.lt
  clear ha hb
  go_region_held3 (fun W => W.cell? ⟨L, 0, none⟩ = some (.int .i64 a) ∧ W.cell? ⟨L, 1, none⟩ = some (.int .i64 b) ∧ W.cell? ⟨L + 1, 0, none⟩ = some (.int .i64 c) ∧ W.cell? ⟨L + 1, 1, none⟩ = some (.int .i64 d))
    (first | exact ⟨p0, p1, p2, p3⟩ | go_keep)
    (first
      | (go_at_call 106; (with_reducible refine (HX.out _).mono ?_); rintro e w1 ⟨rfl, rfl⟩)
      | (go_at_call 106; (with_reducible refine (HY.out _).mono ?_); rintro e w1 ⟨rfl, rfl⟩)
      | (go_at_call 105; (with_reducible refine (or_any u v _ _ (BoxAt.drew (BoxAt.new wx 3 #[.int .i64 u, .int .i64 v]))).mono ?_); rintro e w1 ⟨rfl, rfl⟩))
  all_goals go_wp2
  all_goals go_ret
  all_goals exact ⟨rfl, Below.drew (HB.out.alloc (by omega) _)⟩

end Go.Proofs.Ytaehfildhmljeaa

namespace Go.Proofs.Ytaehfildhmljeaa
open Go.RowKit Go.Shelf

def stpF (p : Pt) : Int := dsF p.1 0 + dsF p.2 0
set_option maxRecDepth 100000 in
set_option maxHeartbeats 2000000 in
theorem steps_any (a b : Int) (w : World) (h1 : -1073741824 ≤ a) (h2 : a ≤ 1073741824) (h3 : -1073741824 ≤ b) (h4 : b ≤ 1073741824) : Calls Try.prog 124 #[sp a b] w fun e w' => e = .returned (.int .i64 (stpF (a, b))) ∧ Below w.heap.size w w' := by
  have HE : Hid (stpF (a, b) = dsF a 0 + dsF b 0) := Lib.hid rfl
  rw [HE.out]
  have HX : Hid (∀ W, Calls Try.prog 137 #[.int .i64 a, .int .i64 0] W fun e w' => e = .returned (.int .i64 (dsF a 0)) ∧ Below W.heap.size W w') := Lib.hid (fun W => (dist1_any a 0 W (by omega) (by omega)).mono fun _ _ h => ⟨h.1, by rw [h.2]; exact Below.refl _ _⟩)
  have HY : Hid (∀ W, Calls Try.prog 137 #[.int .i64 b, .int .i64 0] W fun e w' => e = .returned (.int .i64 (dsF b 0)) ∧ Below W.heap.size W w') := Lib.hid (fun W => (dist1_any b 0 W (by omega) (by omega)).mono fun _ _ h => ⟨h.1, by rw [h.2]; exact Below.refl _ _⟩)
  have b1 : 0 ≤ dsF a 0 ∧ dsF a 0 ≤ 1073741824 := by unfold dsF; omega
  have b2 : 0 ≤ dsF b 0 ∧ dsF b 0 ≤ 1073741824 := by unfold dsF; omega
  obtain ⟨u, hu⟩ : ∃ u, u = dsF a 0 := ⟨_, rfl⟩
  obtain ⟨v, hv⟩ : ∃ v, v = dsF b 0 := ⟨_, rfl⟩
  rw [← hu] at HX b1 ⊢
  rw [← hv] at HY b2 ⊢
  obtain ⟨u0, u1⟩ := b1
  obtain ⟨v0, v1⟩ := b2
  clear hu hv HE
  go_enter Try.func124, Try.ntmps124
  go_upto_region 1 with fail
  have ha := BoxAt.new w 24 #[.int .i64 a, .int .i64 b]
  have HB := Lib.hid ((Below.refl w.heap.size w).alloc (Nat.le_refl _) (.cells #[.int .i64 a, .int .i64 b] 24))
  obtain ⟨L, hL⟩ : ∃ z, z = w.heap.size := ⟨_, rfl⟩
  rw [← hL] at ha ⊢
  clear hL
  generalize w.alloc (.cells #[.int .i64 a, .int .i64 b] 24) = wx at *
  have p0 : wx.cell? ⟨L, 0, none⟩ = some (.int .i64 a) := ha.cell 0
  have p1 : wx.cell? ⟨L, 1, none⟩ = some (.int .i64 b) := ha.cell 1
  have f0 : ∀ n os, (grd wx n os).cell? ⟨L, 0, none⟩ = some (.int .i64 a) := cell_grd p0
  have f1 : ∀ n os, (grd wx n os).cell? ⟨L, 1, none⟩ = some (.int .i64 b) := cell_grd p1
  clear p0 p1 ha
  refine wp_region_quiet_grd (by kernel_rfl) (by kernel_rfl) ?_
  repeat (go_big_quiet_step (first
    | (go_at_call 137; with_reducible exact Calls.grd_of (HX.out _))
    | (go_at_call 137; with_reducible exact Calls.grd_of (HY.out _))))
  refine wpQuiet_nil ?_
  intro _ hw'
  obtain ⟨⟨nq, osq⟩, rfl⟩ := hw'
  have HBq := Lib.hid (below_grd wx nq osq)
  generalize grd wx nq osq = wq at *
  go_wp2
  go_ret
  exact ⟨rfl, below_step HB.out HBq.out⟩

end Go.Proofs.Ytaehfildhmljeaa

namespace Go.Proofs.Ytaehfildhmljeaa
open Go.RowKit Go.Shelf

/-- A shift goes before another one. -/
def smpB (v w : Pt) : Bool := decide (orF (cmpF (stpF v) (stpF w)) (cmpP v w) < 0)
set_option maxRecDepth 100000 in
set_option maxHeartbeats 4000000 in
theorem simpler_any (a b c d : Int) (r : Bool) (hr : Hid (smpB (a, b) (c, d) = r)) (w : World) (h1 : -1073741824 ≤ a ∧ a ≤ 1073741824) (h2 : -1073741824 ≤ b ∧ b ≤ 1073741824) (h3 : -1073741824 ≤ c ∧ c ≤ 1073741824) (h4 : -1073741824 ≤ d ∧ d ≤ 1073741824) :
    Calls Try.prog 97 #[sp a b, sp c d] w fun e w' => e = .returned (.bool r) ∧ Below w.heap.size w w' := by
  have HS := Lib.hid (fun W => steps_any a b W h1.1 h1.2 h2.1 h2.2)
  have HT := Lib.hid (fun W => steps_any c d W h3.1 h3.2 h4.1 h4.2)
  have HP := Lib.hid (fun W => compare_any a b c d W)
  have HE : Hid (r = decide (orF (cmpF (stpF (a, b)) (stpF (c, d))) (cmpP (a, b) (c, d)) < 0)) := Lib.hid hr.out.symm
  obtain ⟨s, hs⟩ : ∃ s, s = stpF (a, b) := ⟨_, rfl⟩
  obtain ⟨t, ht⟩ : ∃ t, t = stpF (c, d) := ⟨_, rfl⟩
  obtain ⟨v, hv⟩ : ∃ v, v = cmpP (a, b) (c, d) := ⟨_, rfl⟩
  rw [← hs] at HS HE
  rw [← ht] at HT HE
  rw [← hv] at HP HE
  have HC := Lib.hid (fun W => cmp_any s t W)
  obtain ⟨u, hu⟩ : ∃ u, u = cmpF s t := ⟨_, rfl⟩
  rw [← hu] at HC HE
  clear hs ht hv hu hr h1 h2 h3 h4
  have ha := (BoxAt.new w 24 #[.int .i64 a, .int .i64 b]).alloc (.cells #[.int .i64 c, .int .i64 d] 24)
  have hb := BoxAt.new (w.alloc (.cells #[.int .i64 a, .int .i64 b] 24)) 24 #[.int .i64 c, .int .i64 d]
  have HB := Lib.hid (((Below.refl w.heap.size w).alloc (Nat.le_refl _) (.cells #[.int .i64 a, .int .i64 b] 24)).alloc (by simp) (.cells #[.int .i64 c, .int .i64 d] 24))
  simp only [World.size_alloc] at hb
  obtain ⟨z, hz⟩ : ∃ z, z = orF u v := ⟨_, rfl⟩
  have HO : Hid (∀ g W, BoxAt W g 3 #[.int .i64 u, .int .i64 v] → Calls Try.prog 105 #[.slice (some ⟨g, 0, none⟩) 2 2] W fun e w' => e = .returned (.int .i64 z) ∧ w' = W) := Lib.hid (fun g W h => by rw [hz]; exact or_any u v g W h)
  rw [← hz] at HE
  clear hz
  have HE2 : Hid (r = decide (z < 0)) := HE
  clear HE
  go_enter Try.func97, Try.ntmps97
  go_upto_region 1 with fail
  obtain ⟨L, hL⟩ : ∃ z, z = w.heap.size := ⟨_, rfl⟩
  have hLL : w.heap.size ≤ L := by omega
  rw [← hL] at ha hb ⊢
  clear hL
  generalize (w.alloc (.cells #[.int .i64 a, .int .i64 b] 24)).alloc (.cells #[.int .i64 c, .int .i64 d] 24) = wx at *
  have p0 : wx.cell? ⟨L, 0, none⟩ = some (.int .i64 a) := ha.cell 0
  have p1 : wx.cell? ⟨L, 1, none⟩ = some (.int .i64 b) := ha.cell 1
  have p2 : wx.cell? ⟨L + 1, 0, none⟩ = some (.int .i64 c) := hb.cell 0
  have p3 : wx.cell? ⟨L + 1, 1, none⟩ = some (.int .i64 d) := hb.cell 1
  have l1 := ha.lt
  have l2 := hb.lt
  have HPQ : Hid (∀ W, Below wx.heap.size wx W → W.cell? ⟨L, 0, none⟩ = some (.int .i64 a) ∧ W.cell? ⟨L, 1, none⟩ = some (.int .i64 b) ∧ W.cell? ⟨L + 1, 0, none⟩ = some (.int .i64 c) ∧ W.cell? ⟨L + 1, 1, none⟩ = some (.int .i64 d)) :=
    Lib.hid (fun W hW => ⟨(box_step ha hW).cell 0, (box_step ha hW).cell 1, (box_step hb hW).cell 0, (box_step hb hW).cell 1⟩)
  have hBx : Below wx.heap.size wx wx.drew := (Below.refl _ wx).drew
  have hBl := HB.out.size
  have HNZ : Hid (r = true ↔ z < 0) := Lib.hid (by rw [HE2.out]; simp)
  by_cases hz : z < 0
  · obtain rfl : r = true := by rw [HE2.out]; simp [hz]
    go_region_held3 (fun W => W.cell? ⟨L, 0, none⟩ = some (.int .i64 a) ∧ W.cell? ⟨L, 1, none⟩ = some (.int .i64 b) ∧ W.cell? ⟨L + 1, 0, none⟩ = some (.int .i64 c) ∧ W.cell? ⟨L + 1, 1, none⟩ = some (.int .i64 d))
      (first | exact HPQ.out _ hBx | go_keep)
      (first
        | (go_at_call 124; (with_reducible refine (HS.out _).mono ?_); rintro e w1 ⟨rfl, hb1⟩; replace hBx := below_step hBx hb1)
        | (go_at_call 124; (with_reducible refine (HT.out _).mono ?_); rintro e w1 ⟨rfl, hb1⟩; replace hBx := below_step hBx hb1)
        | (go_at_call 68; (with_reducible refine (HP.out _).mono ?_); rintro e w1 ⟨rfl, hb1⟩; replace hBx := below_step hBx hb1)
        | (go_at_call 106; (with_reducible refine (HC.out _).mono ?_); rintro e w1 ⟨rfl, rfl⟩)
        | (go_at_call 105; (with_reducible refine (HO.out _ _ (BoxAt.new _ 3 #[.int .i64 u, .int .i64 v])).mono ?_); rintro e w1 ⟨rfl, rfl⟩))
    all_goals go_wp2
    all_goals go_ret
    all_goals exact ⟨rfl, by first | exact below_step HB.out (hBx.alloc hBx.size _) | exact below_step HB.out (Below.drew (hBx.alloc hBx.size _))⟩
  · obtain rfl : r = false := by rw [HE2.out]; simp [hz]
    have hzd : decide (z < 0) = false := decide_eq_false hz
    go_region_held3 (fun W => W.cell? ⟨L, 0, none⟩ = some (.int .i64 a) ∧ W.cell? ⟨L, 1, none⟩ = some (.int .i64 b) ∧ W.cell? ⟨L + 1, 0, none⟩ = some (.int .i64 c) ∧ W.cell? ⟨L + 1, 1, none⟩ = some (.int .i64 d))
      (first | exact HPQ.out _ hBx | go_keep)
      (first
        | (go_at_call 124; (with_reducible refine (HS.out _).mono ?_); rintro e w1 ⟨rfl, hb1⟩; replace hBx := below_step hBx hb1)
        | (go_at_call 124; (with_reducible refine (HT.out _).mono ?_); rintro e w1 ⟨rfl, hb1⟩; replace hBx := below_step hBx hb1)
        | (go_at_call 68; (with_reducible refine (HP.out _).mono ?_); rintro e w1 ⟨rfl, hb1⟩; replace hBx := below_step hBx hb1)
        | (go_at_call 106; (with_reducible refine (HC.out _).mono ?_); rintro e w1 ⟨rfl, rfl⟩)
        | (go_at_call 105; (with_reducible refine (HO.out _ _ (BoxAt.new _ 3 #[.int .i64 u, .int .i64 v])).mono ?_); rintro e w1 ⟨rfl, rfl⟩))
    all_goals go_wp2
    all_goals go_ret
    all_goals exact ⟨rfl, by first | exact below_step HB.out (hBx.alloc hBx.size _) | exact below_step HB.out (Below.drew (hBx.alloc hBx.size _))⟩
end Go.Proofs.Ytaehfildhmljeaa
