/- Which shift goes before another one. -/
import Derived.Test.YtaehfildhmljeaaCmp2
import Derived.Test.YtaehfildhmljeaaCmpS
namespace Go.Proofs.Ytaehfildhmljeaa
open Go.RowKit Go.Shelf

/-- A shift goes before another one. -/
def smpB (v w : Pt) : Bool := decide (orF (cmpF (stpF v) (stpF w)) (cmpP v w) < 0)
set_option maxRecDepth 100000 in
set_option maxHeartbeats 4000000 in
theorem simpler_any (a b c d : Int) (r : Bool) (hr : Hid (smpB (a, b) (c, d) = r)) (w : World) (h1 : -1073741824 ≤ a ∧ a ≤ 1073741824) (h2 : -1073741824 ≤ b ∧ b ≤ 1073741824) (h3 : -1073741824 ≤ c ∧ c ≤ 1073741824) (h4 : -1073741824 ≤ d ∧ d ≤ 1073741824) :
    Calls Try.prog 97 #[sp a b, sp c d] w fun e w' => e = .returned (.bool r) ∧ Below w.heap.size w w' := by
  have HS := Lib.hid (fun W => steps_any a b W h1.1 h1.2 h2.1 h2.2)
  have HT := Lib.hid (fun W => steps_any c d W h3.1 h3.2 h4.1 h4.2)
  have HP := Lib.hid (fun W => compare_any a b c d W)
  have HE : Hid (r = decide (orF (cmpF (stpF (a, b)) (stpF (c, d))) (cmpP (a, b) (c, d)) < 0)) := Lib.hid hr.out.symm
  obtain ⟨s, hs⟩ : ∃ s, s = stpF (a, b) := ⟨_, rfl⟩
  obtain ⟨t, ht⟩ : ∃ t, t = stpF (c, d) := ⟨_, rfl⟩
  obtain ⟨v, hv⟩ : ∃ v, v = cmpP (a, b) (c, d) := ⟨_, rfl⟩
  rw [← hs] at HS HE
  rw [← ht] at HT HE
  rw [← hv] at HP HE
  have HC := Lib.hid (fun W => cmp_any s t W)
  obtain ⟨u, hu⟩ : ∃ u, u = cmpF s t := ⟨_, rfl⟩
  rw [← hu] at HC HE
  clear hs ht hv hu hr h1 h2 h3 h4
  have ha := (BoxAt.new w 24 #[.int .i64 a, .int .i64 b]).alloc (.cells #[.int .i64 c, .int .i64 d] 24)
  have hb := BoxAt.new (w.alloc (.cells #[.int .i64 a, .int .i64 b] 24)) 24 #[.int .i64 c, .int .i64 d]
  have HB := Lib.hid (((Below.refl w.heap.size w).alloc (Nat.le_refl _) (.cells #[.int .i64 a, .int .i64 b] 24)).alloc (by simp) (.cells #[.int .i64 c, .int .i64 d] 24))
  simp only [World.size_alloc] at hb
  obtain ⟨z, hz⟩ : ∃ z, z = orF u v := ⟨_, rfl⟩
  have HO : Hid (∀ g W, BoxAt W g 3 #[.int .i64 u, .int .i64 v] → Calls Try.prog 105 #[.slice (some ⟨g, 0, none⟩) 2 2] W fun e w' => e = .returned (.int .i64 z) ∧ w' = W) := Lib.hid (fun g W h => by rw [hz]; exact or_any u v g W h)
  rw [← hz] at HE
  clear hz
  have HE2 : Hid (r = decide (z < 0)) := HE
  clear HE
  go_enter Try.func97, Try.ntmps97
  go_upto_region 1 with fail
  obtain ⟨L, hL⟩ : ∃ z, z = w.heap.size := ⟨_, rfl⟩
  have hLL : w.heap.size ≤ L := by omega
  rw [← hL] at ha hb ⊢
  clear hL
  generalize (w.alloc (.cells #[.int .i64 a, .int .i64 b] 24)).alloc (.cells #[.int .i64 c, .int .i64 d] 24) = wx at *
  have p0 : wx.cell? ⟨L, 0, none⟩ = some (.int .i64 a) := ha.cell 0
  have p1 : wx.cell? ⟨L, 1, none⟩ = some (.int .i64 b) := ha.cell 1
  have p2 : wx.cell? ⟨L + 1, 0, none⟩ = some (.int .i64 c) := hb.cell 0
  have p3 : wx.cell? ⟨L + 1, 1, none⟩ = some (.int .i64 d) := hb.cell 1
  have l1 := ha.lt
  have l2 := hb.lt
  have HPQ : Hid (∀ W, Below wx.heap.size wx W → W.cell? ⟨L, 0, none⟩ = some (.int .i64 a) ∧ W.cell? ⟨L, 1, none⟩ = some (.int .i64 b) ∧ W.cell? ⟨L + 1, 0, none⟩ = some (.int .i64 c) ∧ W.cell? ⟨L + 1, 1, none⟩ = some (.int .i64 d)) :=
    Lib.hid (fun W hW => ⟨(box_step ha hW).cell 0, (box_step ha hW).cell 1, (box_step hb hW).cell 0, (box_step hb hW).cell 1⟩)
  have hBx : Below wx.heap.size wx wx.drew := (Below.refl _ wx).drew
  have hBl := HB.out.size
  have HNZ : Hid (r = true ↔ z < 0) := Lib.hid (by rw [HE2.out]; simp)
  by_cases hz : z < 0
  · obtain rfl : r = true := by rw [HE2.out]; simp [hz]
    go_region_held3 (fun W => W.cell? ⟨L, 0, none⟩ = some (.int .i64 a) ∧ W.cell? ⟨L, 1, none⟩ = some (.int .i64 b) ∧ W.cell? ⟨L + 1, 0, none⟩ = some (.int .i64 c) ∧ W.cell? ⟨L + 1, 1, none⟩ = some (.int .i64 d))
      (first | exact HPQ.out _ hBx | go_keep)
      (first
        | (go_at_call 124; (with_reducible refine (HS.out _).mono ?_); rintro e w1 ⟨rfl, hb1⟩; replace hBx := below_step hBx hb1)
        | (go_at_call 124; (with_reducible refine (HT.out _).mono ?_); rintro e w1 ⟨rfl, hb1⟩; replace hBx := below_step hBx hb1)
        | (go_at_call 68; (with_reducible refine (HP.out _).mono ?_); rintro e w1 ⟨rfl, hb1⟩; replace hBx := below_step hBx hb1)
        | (go_at_call 106; (with_reducible refine (HC.out _).mono ?_); rintro e w1 ⟨rfl, rfl⟩)
        | (go_at_call 105; (with_reducible refine (HO.out _ _ (BoxAt.new _ 3 #[.int .i64 u, .int .i64 v])).mono ?_); rintro e w1 ⟨rfl, rfl⟩))
    all_goals go_wp2
    all_goals go_ret
    all_goals exact ⟨rfl, by first | exact below_step HB.out (hBx.alloc hBx.size _) | exact below_step HB.out (Below.drew (hBx.alloc hBx.size _))⟩
  · obtain rfl : r = false := by rw [HE2.out]; simp [hz]
    have hzd : decide (z < 0) = false := decide_eq_false hz
    go_region_held3 (fun W => W.cell? ⟨L, 0, none⟩ = some (.int .i64 a) ∧ W.cell? ⟨L, 1, none⟩ = some (.int .i64 b) ∧ W.cell? ⟨L + 1, 0, none⟩ = some (.int .i64 c) ∧ W.cell? ⟨L + 1, 1, none⟩ = some (.int .i64 d))
      (first | exact HPQ.out _ hBx | go_keep)
      (first
        | (go_at_call 124; (with_reducible refine (HS.out _).mono ?_); rintro e w1 ⟨rfl, hb1⟩; replace hBx := below_step hBx hb1)
        | (go_at_call 124; (with_reducible refine (HT.out _).mono ?_); rintro e w1 ⟨rfl, hb1⟩; replace hBx := below_step hBx hb1)
        | (go_at_call 68; (with_reducible refine (HP.out _).mono ?_); rintro e w1 ⟨rfl, hb1⟩; replace hBx := below_step hBx hb1)
        | (go_at_call 106; (with_reducible refine (HC.out _).mono ?_); rintro e w1 ⟨rfl, rfl⟩)
        | (go_at_call 105; (with_reducible refine (HO.out _ _ (BoxAt.new _ 3 #[.int .i64 u, .int .i64 v])).mono ?_); rintro e w1 ⟨rfl, rfl⟩))
    all_goals go_wp2
    all_goals go_ret
    all_goals exact ⟨rfl, by first | exact below_step HB.out (hBx.alloc hBx.size _) | exact below_step HB.out (Below.drew (hBx.alloc hBx.size _))⟩
end Go.Proofs.Ytaehfildhmljeaa
