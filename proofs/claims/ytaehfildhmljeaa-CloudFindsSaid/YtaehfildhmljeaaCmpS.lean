/- Steps. -/
import Derived.Test.YtaehfildhmljeaaCmp
namespace Go.Proofs.Ytaehfildhmljeaa
open Go.RowKit Go.Shelf

def stpF (p : Pt) : Int := dsF p.1 0 + dsF p.2 0
set_option maxRecDepth 100000 in
set_option maxHeartbeats 2000000 in
theorem steps_any (a b : Int) (w : World) (h1 : -1073741824 ≤ a) (h2 : a ≤ 1073741824) (h3 : -1073741824 ≤ b) (h4 : b ≤ 1073741824) : Calls Try.prog 124 #[sp a b] w fun e w' => e = .returned (.int .i64 (stpF (a, b))) ∧ Below w.heap.size w w' := by
  have HE : Hid (stpF (a, b) = dsF a 0 + dsF b 0) := Lib.hid rfl
  rw [HE.out]
  have HX : Hid (∀ W, Calls Try.prog 137 #[.int .i64 a, .int .i64 0] W fun e w' => e = .returned (.int .i64 (dsF a 0)) ∧ Below W.heap.size W w') := Lib.hid (fun W => (dist1_any a 0 W (by omega) (by omega)).mono fun _ _ h => ⟨h.1, by rw [h.2]; exact Below.refl _ _⟩)
  have HY : Hid (∀ W, Calls Try.prog 137 #[.int .i64 b, .int .i64 0] W fun e w' => e = .returned (.int .i64 (dsF b 0)) ∧ Below W.heap.size W w') := Lib.hid (fun W => (dist1_any b 0 W (by omega) (by omega)).mono fun _ _ h => ⟨h.1, by rw [h.2]; exact Below.refl _ _⟩)
  have b1 : 0 ≤ dsF a 0 ∧ dsF a 0 ≤ 1073741824 := by unfold dsF; omega
  have b2 : 0 ≤ dsF b 0 ∧ dsF b 0 ≤ 1073741824 := by unfold dsF; omega
  obtain ⟨u, hu⟩ : ∃ u, u = dsF a 0 := ⟨_, rfl⟩
  obtain ⟨v, hv⟩ : ∃ v, v = dsF b 0 := ⟨_, rfl⟩
  rw [← hu] at HX b1 ⊢
  rw [← hv] at HY b2 ⊢
  obtain ⟨u0, u1⟩ := b1
  obtain ⟨v0, v1⟩ := b2
  clear hu hv HE
  go_enter Try.func124, Try.ntmps124
  go_upto_region 1 with fail
  have ha := BoxAt.new w 24 #[.int .i64 a, .int .i64 b]
  have HB := Lib.hid ((Below.refl w.heap.size w).alloc (Nat.le_refl _) (.cells #[.int .i64 a, .int .i64 b] 24))
  obtain ⟨L, hL⟩ : ∃ z, z = w.heap.size := ⟨_, rfl⟩
  rw [← hL] at ha ⊢
  clear hL
  generalize w.alloc (.cells #[.int .i64 a, .int .i64 b] 24) = wx at *
  have p0 : wx.cell? ⟨L, 0, none⟩ = some (.int .i64 a) := ha.cell 0
  have p1 : wx.cell? ⟨L, 1, none⟩ = some (.int .i64 b) := ha.cell 1
  have f0 : ∀ n os, (grd wx n os).cell? ⟨L, 0, none⟩ = some (.int .i64 a) := cell_grd p0
  have f1 : ∀ n os, (grd wx n os).cell? ⟨L, 1, none⟩ = some (.int .i64 b) := cell_grd p1
  clear p0 p1 ha
  refine wp_region_quiet_grd (by kernel_rfl) (by kernel_rfl) ?_
  repeat (go_big_quiet_step (first
    | (go_at_call 137; with_reducible exact Calls.grd_of (HX.out _))
    | (go_at_call 137; with_reducible exact Calls.grd_of (HY.out _))))
  refine wpQuiet_nil ?_
  intro _ hw'
  obtain ⟨⟨nq, osq⟩, rfl⟩ := hw'
  have HBq := Lib.hid (below_grd wx nq osq)
  generalize grd wx nq osq = wq at *
  go_wp2
  go_ret
  exact ⟨rfl, below_step HB.out HBq.out⟩

end Go.Proofs.Ytaehfildhmljeaa
