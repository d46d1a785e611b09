/- Agreeing spots. -/
import Derived.Test.YtaehfildhmljeaaCmp
namespace Go.Proofs.Ytaehfildhmljeaa
open Go.RowKit Go.Shelf

/-- Two spots agree. -/
def agrB (p q : Pt) (s : Int) : Bool := decide (dsF p.1 q.1 ≤ s) && decide (dsF p.2 q.2 ≤ s)
set_option maxRecDepth 100000 in
set_option maxHeartbeats 2000000 in
theorem agree_any (a b c d s : Int) (r : Bool) (hr : Hid (agrB (a, b) (c, d) s = r)) (w : World) (h1 : -1073741824 ≤ a - c) (h2 : a - c ≤ 1073741824) (h3 : -1073741824 ≤ b - d) (h4 : b - d ≤ 1073741824) :
    Calls Try.prog 122 #[sp a b, sp c d, .int .i64 s] w fun e w' => e = .returned (.bool r) ∧ Below w.heap.size w w' := by
  have HX := Lib.hid (fun W => dist1_any a c W h1 h2)
  have HY := Lib.hid (fun W => dist1_any b d W h3 h4)
  have HE : Hid (r = (decide (dsF a c ≤ s) && decide (dsF b d ≤ s))) := Lib.hid hr.out.symm
  obtain ⟨u, hu⟩ : ∃ u, u = dsF a c := ⟨_, rfl⟩
  obtain ⟨v, hv⟩ : ∃ v, v = dsF b d := ⟨_, rfl⟩
  rw [← hu] at HX HE
  rw [← hv] at HY HE
  clear hu hv hr h1 h2 h3 h4
  have ha := (BoxAt.new w 24 #[.int .i64 a, .int .i64 b]).alloc (.cells #[.int .i64 c, .int .i64 d] 24)
  have hb := BoxAt.new (w.alloc (.cells #[.int .i64 a, .int .i64 b] 24)) 24 #[.int .i64 c, .int .i64 d]
  have HB := Lib.hid (((Below.refl w.heap.size w).alloc (Nat.le_refl _) (.cells #[.int .i64 a, .int .i64 b] 24)).alloc (by simp) (.cells #[.int .i64 c, .int .i64 d] 24))
  simp only [World.size_alloc] at hb
  by_cases hu : u ≤ s
  · by_cases hv : v ≤ s
    · obtain rfl : r = true := by rw [HE.out]; simp [hu, hv]
      clear HE
      go_enter Try.func122, Try.ntmps122
      go_upto_region 1 with fail
      obtain ⟨L, hL⟩ : ∃ z, z = w.heap.size := ⟨_, rfl⟩
      rw [← hL] at ha hb ⊢
      clear hL
      generalize (w.alloc (.cells #[.int .i64 a, .int .i64 b] 24)).alloc (.cells #[.int .i64 c, .int .i64 d] 24) = wx at *
      have p0 : wx.cell? ⟨L, 0, none⟩ = some (.int .i64 a) := ha.cell 0
      have p1 : wx.cell? ⟨L, 1, none⟩ = some (.int .i64 b) := ha.cell 1
      have p2 : wx.cell? ⟨L + 1, 0, none⟩ = some (.int .i64 c) := hb.cell 0
      have p3 : wx.cell? ⟨L + 1, 1, none⟩ = some (.int .i64 d) := hb.cell 1
      have l1 := ha.lt
      have l2 := hb.lt
      go_wp2_with (first
        | (go_at_call 137; (with_reducible refine (HX.out _).mono ?_); rintro e w1 ⟨rfl, rfl⟩)
        | (go_at_call 137; (with_reducible refine (HY.out _).mono ?_); rintro e w1 ⟨rfl, rfl⟩))
      go_ret
      exact ⟨rfl, HB.out⟩
    · obtain rfl : r = false := by rw [HE.out]; simp [hv]
      have HNV := Lib.hid hv
      clear HE hv
      go_enter Try.func122, Try.ntmps122
      go_upto_region 1 with fail
      obtain ⟨L, hL⟩ : ∃ z, z = w.heap.size := ⟨_, rfl⟩
      rw [← hL] at ha hb ⊢
      clear hL
      generalize (w.alloc (.cells #[.int .i64 a, .int .i64 b] 24)).alloc (.cells #[.int .i64 c, .int .i64 d] 24) = wx at *
      have p0 : wx.cell? ⟨L, 0, none⟩ = some (.int .i64 a) := ha.cell 0
      have p1 : wx.cell? ⟨L, 1, none⟩ = some (.int .i64 b) := ha.cell 1
      have p2 : wx.cell? ⟨L + 1, 0, none⟩ = some (.int .i64 c) := hb.cell 0
      have p3 : wx.cell? ⟨L + 1, 1, none⟩ = some (.int .i64 d) := hb.cell 1
      have l1 := ha.lt
      have l2 := hb.lt
      have hvd : decide (v ≤ s) = false := decide_eq_false HNV.out
      go_wp2_with (first
        | (go_at_call 137; (with_reducible refine (HX.out _).mono ?_); rintro e w1 ⟨rfl, rfl⟩)
        | (go_at_call 137; (with_reducible refine (HY.out _).mono ?_); rintro e w1 ⟨rfl, rfl⟩))
      go_ret
      exact ⟨rfl, HB.out⟩
  · obtain rfl : r = false := by rw [HE.out]; simp [hu]
    have HNV := Lib.hid hu
    clear HE hu
    go_enter Try.func122, Try.ntmps122
    go_upto_region 1 with fail
    obtain ⟨L, hL⟩ : ∃ z, z = w.heap.size := ⟨_, rfl⟩
    rw [← hL] at ha hb ⊢
    clear hL
    generalize (w.alloc (.cells #[.int .i64 a, .int .i64 b] 24)).alloc (.cells #[.int .i64 c, .int .i64 d] 24) = wx at *
    have p0 : wx.cell? ⟨L, 0, none⟩ = some (.int .i64 a) := ha.cell 0
    have p1 : wx.cell? ⟨L, 1, none⟩ = some (.int .i64 b) := ha.cell 1
    have p2 : wx.cell? ⟨L + 1, 0, none⟩ = some (.int .i64 c) := hb.cell 0
    have p3 : wx.cell? ⟨L + 1, 1, none⟩ = some (.int .i64 d) := hb.cell 1
    have l1 := ha.lt
    have l2 := hb.lt
    have hvd : decide (u ≤ s) = false := decide_eq_false HNV.out
    go_wp2_with (first
      | (go_at_call 137; (with_reducible refine (HX.out _).mono ?_); rintro e w1 ⟨rfl, rfl⟩)
      | (go_at_call 137; (with_reducible refine (HY.out _).mono ?_); rintro e w1 ⟨rfl, rfl⟩))
    go_ret
    exact ⟨rfl, HB.out⟩

end Go.Proofs.Ytaehfildhmljeaa
