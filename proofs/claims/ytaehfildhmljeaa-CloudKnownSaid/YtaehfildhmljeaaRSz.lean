/- The reference's size and before. -/
import Derived.Test.YtaehfildhmljeaaCmp3
namespace Go.Proofs.Ytaehfildhmljeaa
open Go.RowKit Go.Shelf

def befB (p q : Pt) : Bool := decide (p.1 < q.1) || (decide (p.1 = q.1) && decide (p.2 < q.2))
theorem smp_iff (v w : Pt) : smpB v w = (decide (stpF v < stpF w) || (decide (stpF v = stpF w) && befB v w)) := by
  unfold smpB befB cmpP orF cmpF
  rw [Bool.eq_iff_iff]
  simp only [Bool.or_eq_true, Bool.and_eq_true, decide_eq_true_iff]
  split <;> split <;> (try split) <;> (try split) <;> (try split) <;> omega
set_option maxRecDepth 100000 in
set_option maxHeartbeats 4000000 in
theorem rsize_any (a b : Int) (w : World) (h1 : -1073741824 ≤ a) (h2 : a ≤ 1073741824) (h3 : -1073741824 ≤ b) (h4 : b ≤ 1073741824) : Calls Try.prog 99 #[sp a b] w fun e w' => e = .returned (.int .i64 (stpF (a, b))) ∧ Below w.heap.size w w' := by
  have hb := BoxAt.new w 24 #[.int .i64 a, .int .i64 b]
  have HB := Lib.hid ((Below.refl w.heap.size w).alloc (Nat.le_refl _) (.cells #[.int .i64 a, .int .i64 b] 24))
  obtain ⟨q, hq⟩ : ∃ q, q = stpF (a, b) := ⟨_, rfl⟩
  have HQ := Lib.hid hq
  rw [← hq]
  unfold stpF dsF at hq
  simp only at hq
  have w1 : IntKind.i64.wrap (-a) = -a := IntWalk.i64_in _ (by omega)
  have w2 : IntKind.i64.wrap (-b) = -b := IntWalk.i64_in _ (by omega)
  rcases Int.lt_or_le a (-a) with ha | ha
  · have ha2 : ¬ -a ≤ a := by omega
    rcases Int.lt_or_le b (-b) with hbb | hbb
    · have hb2 : ¬ -b ≤ b := by omega
      have HE : Hid (q = -a + -b) := Lib.hid (by omega)
      clear hq
      go_enter Try.func99, Try.ntmps99
      go_upto_region 1 with fail
      obtain ⟨L, hL⟩ : ∃ z, z = w.heap.size := ⟨_, rfl⟩
      rw [← hL] at hb ⊢
      clear hL
      generalize w.alloc (.cells #[.int .i64 a, .int .i64 b] 24) = wx at *
      have p0 : wx.cell? ⟨L, 0, none⟩ = some (.int .i64 a) := hb.cell 0
      have p1 : wx.cell? ⟨L, 1, none⟩ = some (.int .i64 b) := hb.cell 1
      have l1 := hb.lt
      go_wp2
      go_ret
      exact ⟨by rw [HE.out]; rfl, HB.out⟩
    · have hb2 : ¬ b < -b := by omega
      have HE : Hid (q = -a + b) := Lib.hid (by omega)
      clear hq
      go_enter Try.func99, Try.ntmps99
      go_upto_region 1 with fail
      obtain ⟨L, hL⟩ : ∃ z, z = w.heap.size := ⟨_, rfl⟩
      rw [← hL] at hb ⊢
      clear hL
      generalize w.alloc (.cells #[.int .i64 a, .int .i64 b] 24) = wx at *
      have p0 : wx.cell? ⟨L, 0, none⟩ = some (.int .i64 a) := hb.cell 0
      have p1 : wx.cell? ⟨L, 1, none⟩ = some (.int .i64 b) := hb.cell 1
      have l1 := hb.lt
      go_wp2
      go_ret
      exact ⟨by rw [HE.out]; rfl, HB.out⟩
  · have ha2 : ¬ a < -a := by omega
    rcases Int.lt_or_le b (-b) with hbb | hbb
    · have hb2 : ¬ -b ≤ b := by omega
      have HE : Hid (q = a + -b) := Lib.hid (by omega)
      clear hq
      go_enter Try.func99, Try.ntmps99
      go_upto_region 1 with fail
      obtain ⟨L, hL⟩ : ∃ z, z = w.heap.size := ⟨_, rfl⟩
      rw [← hL] at hb ⊢
      clear hL
      generalize w.alloc (.cells #[.int .i64 a, .int .i64 b] 24) = wx at *
      have p0 : wx.cell? ⟨L, 0, none⟩ = some (.int .i64 a) := hb.cell 0
      have p1 : wx.cell? ⟨L, 1, none⟩ = some (.int .i64 b) := hb.cell 1
      have l1 := hb.lt
      go_wp2
      go_ret
      exact ⟨by rw [HE.out]; rfl, HB.out⟩
    · have hb2 : ¬ b < -b := by omega
      have HE : Hid (q = a + b) := Lib.hid (by omega)
      clear hq
      go_enter Try.func99, Try.ntmps99
      go_upto_region 1 with fail
      obtain ⟨L, hL⟩ : ∃ z, z = w.heap.size := ⟨_, rfl⟩
      rw [← hL] at hb ⊢
      clear hL
      generalize w.alloc (.cells #[.int .i64 a, .int .i64 b] 24) = wx at *
      have p0 : wx.cell? ⟨L, 0, none⟩ = some (.int .i64 a) := hb.cell 0
      have p1 : wx.cell? ⟨L, 1, none⟩ = some (.int .i64 b) := hb.cell 1
      have l1 := hb.lt
      go_wp2
      go_ret
      exact ⟨by rw [HE.out]; rfl, HB.out⟩

set_option maxRecDepth 100000 in
set_option maxHeartbeats 4000000 in
theorem before_any (a b c d : Int) (r : Bool) (hr : Hid (befB (a, b) (c, d) = r)) (w : World) : Calls Try.prog 85 #[sp a b, sp c d] w fun e w' => e = .returned (.bool r) ∧ Below w.heap.size w w' := by
  have ha := (BoxAt.new w 24 #[.int .i64 a, .int .i64 b]).alloc (.cells #[.int .i64 c, .int .i64 d] 24)
  have hb := BoxAt.new (w.alloc (.cells #[.int .i64 a, .int .i64 b] 24)) 24 #[.int .i64 c, .int .i64 d]
  have HB := Lib.hid (((Below.refl w.heap.size w).alloc (Nat.le_refl _) (.cells #[.int .i64 a, .int .i64 b] 24)).alloc (by simp) (.cells #[.int .i64 c, .int .i64 d] 24))
  simp only [World.size_alloc] at hb
  have HE : Hid (r = (decide (a < c) || (decide (a = c) && decide (b < d)))) := Lib.hid hr.out.symm
  clear hr
  rcases Int.lt_trichotomy a c with h | h | h
  · obtain rfl : r = true := by rw [HE.out]; simp [h]
    clear HE
    go_enter Try.func85, Try.ntmps85
    go_upto_region 1 with fail
    obtain ⟨L, hL⟩ : ∃ z, z = w.heap.size := ⟨_, rfl⟩
    rw [← hL] at ha hb ⊢
    clear hL
    generalize (w.alloc (.cells #[.int .i64 a, .int .i64 b] 24)).alloc (.cells #[.int .i64 c, .int .i64 d] 24) = wx at *
    have p0 : wx.cell? ⟨L, 0, none⟩ = some (.int .i64 a) := ha.cell 0
    have p1 : wx.cell? ⟨L, 1, none⟩ = some (.int .i64 b) := ha.cell 1
    have p2 : wx.cell? ⟨L + 1, 0, none⟩ = some (.int .i64 c) := hb.cell 0
    have p3 : wx.cell? ⟨L + 1, 1, none⟩ = some (.int .i64 d) := hb.cell 1
    have l1 := ha.lt
    have l2 := hb.lt
    go_wp2
    go_ret
    exact ⟨rfl, HB.out⟩
  · subst h
    by_cases hd : b < d
    · obtain rfl : r = true := by rw [HE.out]; simp [hd]
      clear HE
      go_enter Try.func85, Try.ntmps85
      go_upto_region 1 with fail
      obtain ⟨L, hL⟩ : ∃ z, z = w.heap.size := ⟨_, rfl⟩
      rw [← hL] at ha hb ⊢
      clear hL
      generalize (w.alloc (.cells #[.int .i64 a, .int .i64 b] 24)).alloc (.cells #[.int .i64 a, .int .i64 d] 24) = wx at *
      have p0 : wx.cell? ⟨L, 0, none⟩ = some (.int .i64 a) := ha.cell 0
      have p1 : wx.cell? ⟨L, 1, none⟩ = some (.int .i64 b) := ha.cell 1
      have p2 : wx.cell? ⟨L + 1, 0, none⟩ = some (.int .i64 a) := hb.cell 0
      have p3 : wx.cell? ⟨L + 1, 1, none⟩ = some (.int .i64 d) := hb.cell 1
      have l1 := ha.lt
      have l2 := hb.lt
      go_wp2
      go_ret
      exact ⟨rfl, HB.out⟩
    · obtain rfl : r = false := by rw [HE.out]; simp; omega
      clear HE
      go_enter Try.func85, Try.ntmps85
      go_upto_region 1 with fail
      obtain ⟨L, hL⟩ : ∃ z, z = w.heap.size := ⟨_, rfl⟩
      rw [← hL] at ha hb ⊢
      clear hL
      generalize (w.alloc (.cells #[.int .i64 a, .int .i64 b] 24)).alloc (.cells #[.int .i64 a, .int .i64 d] 24) = wx at *
      have p0 : wx.cell? ⟨L, 0, none⟩ = some (.int .i64 a) := ha.cell 0
      have p1 : wx.cell? ⟨L, 1, none⟩ = some (.int .i64 b) := ha.cell 1
      have p2 : wx.cell? ⟨L + 1, 0, none⟩ = some (.int .i64 a) := hb.cell 0
      have p3 : wx.cell? ⟨L + 1, 1, none⟩ = some (.int .i64 d) := hb.cell 1
      have l1 := ha.lt
      have l2 := hb.lt
      go_wp2
      go_ret
      exact ⟨rfl, HB.out⟩
  · obtain rfl : r = false := by rw [HE.out]; simp; omega
    have h2 : ¬ a < c := by omega
    have h3 : (a == c) = false := by simp; omega
    clear HE
    go_enter Try.func85, Try.ntmps85
    go_upto_region 1 with fail
    obtain ⟨L, hL⟩ : ∃ z, z = w.heap.size := ⟨_, rfl⟩
    rw [← hL] at ha hb ⊢
    clear hL
    generalize (w.alloc (.cells #[.int .i64 a, .int .i64 b] 24)).alloc (.cells #[.int .i64 c, .int .i64 d] 24) = wx at *
    have p0 : wx.cell? ⟨L, 0, none⟩ = some (.int .i64 a) := ha.cell 0
    have p1 : wx.cell? ⟨L, 1, none⟩ = some (.int .i64 b) := ha.cell 1
    have p2 : wx.cell? ⟨L + 1, 0, none⟩ = some (.int .i64 c) := hb.cell 0
    have p3 : wx.cell? ⟨L + 1, 1, none⟩ = some (.int .i64 d) := hb.cell 1
    have l1 := ha.lt
    have l2 := hb.lt
    go_wp2
    go_ret
    exact ⟨rfl, HB.out⟩
end Go.Proofs.Ytaehfildhmljeaa
