/- Comparing spots; steps; agreeing spots. -/
import Derived.Test.YtaehfildhmljeaaCmp
import Derived.Deep.RegionHeld3
namespace Go.Proofs.Ytaehfildhmljeaa
open Go.RowKit Go.Shelf

set_option maxRecDepth 100000 in
set_option maxHeartbeats 2000000 in
theorem compare_any (a b c d : Int) (w : World) : Calls Try.prog 68 #[sp a b, sp c d] w fun e w' => e = .returned (.int .i64 (cmpP (a, b) (c, d))) ∧ Below w.heap.size w w' := by
  have HE : Hid (cmpP (a, b) (c, d) = orF (cmpF a c) (cmpF b d)) := Lib.hid rfl
  rw [HE.out]
  have HX := Lib.hid (fun W => cmp_any a c W)
  have HY := Lib.hid (fun W => cmp_any b d W)
  obtain ⟨u, hu⟩ : ∃ u, u = cmpF a c := ⟨_, rfl⟩
  obtain ⟨v, hv⟩ : ∃ v, v = cmpF b d := ⟨_, rfl⟩
  rw [← hu] at HX ⊢
  rw [← hv] at HY ⊢
  clear hu hv HE
  go_enter Try.func68, Try.ntmps68
  go_upto_region 1 with fail
  have ha := (BoxAt.new w 24 #[.int .i64 a, .int .i64 b]).alloc (.cells #[.int .i64 c, .int .i64 d] 24)
  have hb := BoxAt.new (w.alloc (.cells #[.int .i64 a, .int .i64 b] 24)) 24 #[.int .i64 c, .int .i64 d]
  have HB := Lib.hid (((Below.refl w.heap.size w).alloc (Nat.le_refl _) (.cells #[.int .i64 a, .int .i64 b] 24)).alloc (by simp) (.cells #[.int .i64 c, .int .i64 d] 24))
  simp only [World.size_alloc] at hb
  obtain ⟨L, hL⟩ : ∃ z, z = w.heap.size := ⟨_, rfl⟩
  have hLL : w.heap.size ≤ L := by omega
  rw [← hL] at ha hb ⊢
  clear hL
  generalize (w.alloc (.cells #[.int .i64 a, .int .i64 b] 24)).alloc (.cells #[.int .i64 c, .int .i64 d] 24) = wx at *
  have p0 : wx.cell? ⟨L, 0, none⟩ = some (.int .i64 a) := ha.cell 0
  have p1 : wx.cell? ⟨L, 1, none⟩ = some (.int .i64 b) := ha.cell 1
  have p2 : wx.cell? ⟨L + 1, 0, none⟩ = some (.int .i64 c) := hb.cell 0
  have p3 : wx.cell? ⟨L + 1, 1, none⟩ = some (.int .i64 d) := hb.cell 1
  have l1 := ha.lt
  have l2 := hb.lt
  clear ha hb
  go_region_held3 (fun W => W.cell? ⟨L, 0, none⟩ = some (.int .i64 a) ∧ W.cell? ⟨L, 1, none⟩ = some (.int .i64 b) ∧ W.cell? ⟨L + 1, 0, none⟩ = some (.int .i64 c) ∧ W.cell? ⟨L + 1, 1, none⟩ = some (.int .i64 d))
    (first | exact ⟨p0, p1, p2, p3⟩ | go_keep)
    (first
      | (go_at_call 106; (with_reducible refine (HX.out _).mono ?_); rintro e w1 ⟨rfl, rfl⟩)
      | (go_at_call 106; (with_reducible refine (HY.out _).mono ?_); rintro e w1 ⟨rfl, rfl⟩)
      | (go_at_call 105; (with_reducible refine (or_any u v _ _ (BoxAt.drew (BoxAt.new wx 3 #[.int .i64 u, .int .i64 v]))).mono ?_); rintro e w1 ⟨rfl, rfl⟩))
  all_goals go_wp2
  all_goals go_ret
  all_goals exact ⟨rfl, Below.drew (HB.out.alloc (by omega) _)⟩

end Go.Proofs.Ytaehfildhmljeaa
