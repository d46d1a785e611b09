/- Agreeing spots. How many points match a shift. The reference's Matches, and the program's, of any clouds. Matches of any clouds, any shift and slack: the program's and the reference's. The reference's Matches of any clouds, any shift and slack. The best shift, said candidate by candidate. Plain mathematics. The reference's Register of valid clouds, window and slack in range. Register's errors: the program's check of its arguments, and the reference's Register of what is wrong. The iterator over the shifts within the window has its contract. The program's Register of valid clouds, window and slack in range. Register of any clouds: the program's and the reference's. -/
import Derived.Test.YtaehfildhmljeaaCmp3
import Derived.Test.YtaehfildhmljeaaShfA
import Derived.Test.YtaehfildhmljeaaShfW
import Derived.Test.YtaehfildhmljeaaRChC
import Derived.Test.YtaehfildhmljeaaRSz
import Derived.Test.YtaehfildhmljeaaQBel
import Derived.Test.YtaehfildhmljeaaRef1
import Derived.RangeFuncNested
import Derived.RangeFuncBound
import Derived.RangeFuncCalls
import Derived.RangeFuncLeaves
import Derived.RangeFuncBox
import Derived.Shelf.Abstract
import Derived.Shelf.RegionOpen
import Derived.OwnWalkIn
import Derived.TacticsInMore
import Derived.LoopNIn
import Derived.LoopIn
namespace Go.Proofs.Ytaehfildhmljeaa
open Go.RowKit Go.Shelf

/-- Two spots agree. -/
def agrB (p q : Pt) (s : Int) : Bool := decide (dsF p.1 q.1 ≤ s) && decide (dsF p.2 q.2 ≤ s)
set_option maxRecDepth 100000 in
set_option maxHeartbeats 2000000 in
theorem agree_any (a b c d s : Int) (r : Bool) (hr : Hid (agrB (a, b) (c, d) s = r)) (w : World) (h1 : -1073741824 ≤ a - c) (h2 : a - c ≤ 1073741824) (h3 : -1073741824 ≤ b - d) (h4 : b - d ≤ 1073741824) :
    Calls Try.prog 122 #[sp a b, sp c d, .int .i64 s] w fun e w' => e = .returned (.bool r) ∧ Below w.heap.size w w' := by
  have HX := Lib.hid (fun W => dist1_any a c W h1 h2)
  have HY := Lib.hid (fun W => dist1_any b d W h3 h4)
  have HE : Hid (r = (decide (dsF a c ≤ s) && decide (dsF b d ≤ s))) := Lib.hid hr.out.symm
  obtain ⟨u, hu⟩ : ∃ u, u = dsF a c := ⟨_, rfl⟩
  obtain ⟨v, hv⟩ : ∃ v, v = dsF b d := ⟨_, rfl⟩
  rw [← hu] at HX HE
  rw [← hv] at HY HE
  clear hu hv hr h1 h2 h3 h4
  have ha := (BoxAt.new w 24 #[.int .i64 a, .int .i64 b]).alloc (.cells #[.int .i64 c, .int .i64 d] 24)
  have hb := BoxAt.new (w.alloc (.cells #[.int .i64 a, .int .i64 b] 24)) 24 #[.int .i64 c, .int .i64 d]
  have HB := Lib.hid (((Below.refl w.heap.size w).alloc (Nat.le_refl _) (.cells #[.int .i64 a, .int .i64 b] 24)).alloc (by simp) (.cells #[.int .i64 c, .int .i64 d] 24))
  simp only [World.size_alloc] at hb
  by_cases hu : u ≤ s
  · by_cases hv : v ≤ s
    · obtain rfl : r = true := by rw [HE.out]; simp [hu, hv]
      clear HE
      go_enter Try.func122, Try.ntmps122
      go_upto_region 1 with fail
      obtain ⟨L, hL⟩ : ∃ z, z = w.heap.size := ⟨_, rfl⟩
      rw [← hL] at ha hb ⊢
      clear hL
      generalize (w.alloc (.cells #[.int .i64 a, .int .i64 b] 24)).alloc (.cells #[.int .i64 c, .int .i64 d] 24) = wx at *
      have p0 : wx.cell? ⟨L, 0, none⟩ = some (.int .i64 a) := ha.cell 0
      have p1 : wx.cell? ⟨L, 1, none⟩ = some (.int .i64 b) := ha.cell 1
      have p2 : wx.cell? ⟨L + 1, 0, none⟩ = some (.int .i64 c) := hb.cell 0
      have p3 : wx.cell? ⟨L + 1, 1, none⟩ = some (.int .i64 d) := hb.cell 1
      have l1 := ha.lt
      have l2 := hb.lt
      go_wp2_with (first
        | (go_at_call 137; (with_reducible refine (HX.out _).mono ?_); rintro e w1 ⟨rfl, rfl⟩)
        | (go_at_call 137; (with_reducible refine (HY.out _).mono ?_); rintro e w1 ⟨rfl, rfl⟩))
      go_ret
      exact ⟨rfl, HB.out⟩
    · obtain rfl : r = false := by rw [HE.out]; simp [hv]
      have HNV := Lib.hid hv
      clear HE hv
      go_enter Try.func122, Try.ntmps122
      go_upto_region 1 with fail
      obtain ⟨L, hL⟩ : ∃ z, z = w.heap.size := ⟨_, rfl⟩
      rw [← hL] at ha hb ⊢
      clear hL
      generalize (w.alloc (.cells #[.int .i64 a, .int .i64 b] 24)).alloc (.cells #[.int .i64 c, .int .i64 d] 24) = wx at *
      have p0 : wx.cell? ⟨L, 0, none⟩ = some (.int .i64 a) := ha.cell 0
      have p1 : wx.cell? ⟨L, 1, none⟩ = some (.int .i64 b) := ha.cell 1
      have p2 : wx.cell? ⟨L + 1, 0, none⟩ = some (.int .i64 c) := hb.cell 0
      have p3 : wx.cell? ⟨L + 1, 1, none⟩ = some (.int .i64 d) := hb.cell 1
      have l1 := ha.lt
      have l2 := hb.lt
      have hvd : decide (v ≤ s) = false := decide_eq_false HNV.out
      go_wp2_with (first
        | (go_at_call 137; (with_reducible refine (HX.out _).mono ?_); rintro e w1 ⟨rfl, rfl⟩)
        | (go_at_call 137; (with_reducible refine (HY.out _).mono ?_); rintro e w1 ⟨rfl, rfl⟩))
      go_ret
      exact ⟨rfl, HB.out⟩
  · obtain rfl : r = false := by rw [HE.out]; simp [hu]
    have HNV := Lib.hid hu
    clear HE hu
    go_enter Try.func122, Try.ntmps122
    go_upto_region 1 with fail
    obtain ⟨L, hL⟩ : ∃ z, z = w.heap.size := ⟨_, rfl⟩
    rw [← hL] at ha hb ⊢
    clear hL
    generalize (w.alloc (.cells #[.int .i64 a, .int .i64 b] 24)).alloc (.cells #[.int .i64 c, .int .i64 d] 24) = wx at *
    have p0 : wx.cell? ⟨L, 0, none⟩ = some (.int .i64 a) := ha.cell 0
    have p1 : wx.cell? ⟨L, 1, none⟩ = some (.int .i64 b) := ha.cell 1
    have p2 : wx.cell? ⟨L + 1, 0, none⟩ = some (.int .i64 c) := hb.cell 0
    have p3 : wx.cell? ⟨L + 1, 1, none⟩ = some (.int .i64 d) := hb.cell 1
    have l1 := ha.lt
    have l2 := hb.lt
    have hvd : decide (u ≤ s) = false := decide_eq_false HNV.out
    go_wp2_with (first
      | (go_at_call 137; (with_reducible refine (HX.out _).mono ?_); rintro e w1 ⟨rfl, rfl⟩)
      | (go_at_call 137; (with_reducible refine (HY.out _).mono ?_); rintro e w1 ⟨rfl, rfl⟩))
    go_ret
    exact ⟨rfl, HB.out⟩

end Go.Proofs.Ytaehfildhmljeaa

namespace Go.Proofs.Ytaehfildhmljeaa
open Go.RowKit Go.Shelf

def anyB (p : Nat → Bool) : Nat → Bool
  | 0 => false
  | k + 1 => anyB p k || p k
def cntB (p : Nat → Bool) : Nat → Nat
  | 0 => 0
  | k + 1 => cntB p k + if p k then 1 else 0
theorem cntB_le (p : Nat → Bool) (k : Nat) : cntB p k ≤ k := by
  induction k with
  | zero => exact Nat.le_refl _
  | succ k ih => unfold cntB; split <;> omega
/-- Some one of the n points agrees with the place. -/
def hitB (n : Nat) (X Y : Nat → Int) (p q s : Int) : Bool := anyB (fun i => agrB (p, q) (X i, Y i) s) n
/-- How many of the m points match. -/
def matF (n : Nat) (X Y : Nat → Int) (m : Nat) (X' Y' : Nat → Int) (a b s : Int) : Nat := cntB (fun j => hitB n X Y (X' j + a) (Y' j + b) s) m
theorem anyB_hit {p : Nat → Bool} {i n : Nat} (hi : i < n) (h : p i = true) : anyB p n = true := by
  induction n with
  | zero => omega
  | succ n ih =>
    unfold anyB
    by_cases he : i = n
    · subst he; rw [h]; simp
    · rw [ih (by omega)]; rfl

set_option maxRecDepth 100000 in
set_option maxHeartbeats 16000000 in
theorem matches_any (A : Option Addr) (n c1 : Nat) (X Y V : Nat → Int) (B : Option Addr) (m c2 : Nat) (X' Y' V' : Nat → Int) (a b s : Int) (hn : n ≤ 1000) (hm : m ≤ 1000) (ho : ∀ i, i < n → okc (X i) ∧ okc (Y i)) (ho' : ∀ i, i < m → okc (X' i) ∧ okc (Y' i))
    (ha1 : -33554432 ≤ a) (ha2 : a ≤ 33554432) (hb1 : -33554432 ≤ b) (hb2 : b ≤ 33554432) (w : World) (hc1 : Cloud w A n X Y V) (hc2 : Cloud w B m X' Y' V') :
    Calls Try.prog 95 #[.slice A n c1, .slice B m c2, sp a b, .int .i64 s] w fun e w' => e = .returned (.int .i64 ((matF n X Y m X' Y' a b s : Nat) : Int)) ∧ Below w.heap.size w w' := by
  have HO := Lib.hid ho
  have HO' := Lib.hid ho'
  have HC1 := Lib.hid hc1
  have HC2 := Lib.hid hc2
  clear ho ho' hc1 hc2
  go_enter Try.func95, Try.ntmps95
  go_upto_region 1 with fail
  have hbx := BoxAt.new w 24 #[.int .i64 a, .int .i64 b]
  have hB : Below w.heap.size w (w.alloc (.cells #[.int .i64 a, .int .i64 b] 24)) := (Below.refl _ w).alloc (Nat.le_refl _) _
  obtain ⟨L6, hL6⟩ : ∃ z, z = w.heap.size := ⟨_, rfl⟩
  rw [← hL6] at hbx ⊢
  clear hL6
  have HC1x := Lib.hid (HC1.out.below hB)
  have HC2x := Lib.hid (HC2.out.below hB)
  have HBx := Lib.hid hB
  have HBB := Lib.hid hbx
  clear hB hbx HC1 HC2
  generalize w.alloc (.cells #[.int .i64 a, .int .i64 b] 24) = wx at *
  have I : ∃ (k t : Nat), k ≤ m ∧ (Value.int .i64 0) = .int .i64 t ∧ (Value.int .i64 0) = .int .i64 k ∧ Hid (t = cntB (fun j => hitB n X Y (X' j + a) (Y' j + b) s) k) ∧ Hid (Below wx.heap.size wx wx) := ⟨0, 0, Nat.zero_le _, rfl, rfl, Lib.hid rfl, Lib.hid (Below.refl _ _)⟩
  go_wp2
  go_loopw [9, 17] (fun tv kv wr => ∃ (k t : Nat), k ≤ m ∧ tv = .int .i64 t ∧ kv = .int .i64 k ∧ Hid (t = cntB (fun j => hitB n X Y (X' j + a) (Y' j + b) s) k) ∧ Hid (Below wx.heap.size wx wr)) (fun _ kv _ => m + 1 - (intOf kv).toNat)
  case atStart => exact I
  case round =>
    clear I
    obtain ⟨k, t, hk, rfl, rfl, HT, HB⟩ := hrel
    by_cases hlt : k < m
    · have k0 : (0 : Int) ≤ (k : Int) := Int.natCast_nonneg _
      have k1 : (k : Int) < (m : Int) := by omega
      obtain ⟨b2, o2, e2, hp2⟩ := HC2x.out (by omega)
      subst e2
      have q2 := hp2.lt (by omega)
      have l2 : b2 < wr.heap.size := Nat.lt_of_lt_of_le q2 HB.out.size
      obtain ⟨d0, d1, d2⟩ := (hp2.below HB.out q2) k hlt
      have HPl := Lib.hid (fun W => moved_any (X' k) (Y' k) (V' k) a b W (HO'.out k hlt).1 (HO'.out k hlt).2 ha1 ha2 hb1 hb2)
      have hbq := (HO'.out k hlt)
      have ht := cntB_le (fun j => hitB n X Y (X' j + a) (Y' j + b) s) k
      have htt : t ≤ k := by rw [HT.out]; exact ht
      clear hp2 ht
      go_upto_region 5 with fail
      have hb3 : Below wr.heap.size wr (wr.alloc (.cells #[.int .i64 (X' k), .int .i64 (Y' k), .int .i64 (V' k)] 69)) := (Below.refl _ wr).alloc (Nat.le_refl _) _
      have hbp := BoxAt.new wr 69 #[.int .i64 (X' k), .int .i64 (Y' k), .int .i64 (V' k)]
      have HB3 := Lib.hid (below_step HB.out hb3)
      have HBB3 := Lib.hid (box_step HBB.out HB3.out)
      obtain ⟨Lq, hLq⟩ : ∃ z, z = wr.heap.size := ⟨_, rfl⟩
      rw [← hLq] at hbp ⊢
      clear d0 d1 d2 l2 hLq hb3 HB
      obtain ⟨wo, rfl⟩ : ∃ x : World, x = wr := ⟨_, rfl⟩
      generalize wo.alloc (.cells #[.int .i64 (X' k), .int .i64 (Y' k), .int .i64 (V' k)] 69) = w3 at *
      have p0 : w3.cell? ⟨Lq, 0, none⟩ = some (.int .i64 (X' k)) := hbp.cell 0
      have p1 : w3.cell? ⟨Lq, 1, none⟩ = some (.int .i64 (Y' k)) := hbp.cell 1
      have p2 : w3.cell? ⟨Lq, 2, none⟩ = some (.int .i64 (V' k)) := hbp.cell 2
      have p3 : w3.cell? ⟨L6, 0, none⟩ = some (.int .i64 a) := HBB3.out.cell 0
      have p4 : w3.cell? ⟨L6, 1, none⟩ = some (.int .i64 b) := HBB3.out.cell 1
      have p5 := hbp.lt
      have p6 := HBB3.out.lt
      go_upto_region 6 with (go_at_call 59; (with_reducible refine (HPl.out _).mono ?_); rintro e w4 ⟨rfl, hb4⟩)
      have hb5 : Below w4.heap.size w4 (w4.alloc (.cells #[.int .i64 (X' k + a), .int .i64 (Y' k + b)] 24)) := (Below.refl _ w4).alloc (Nat.le_refl _) _
      have hbr := BoxAt.new w4 24 #[.int .i64 (X' k + a), .int .i64 (Y' k + b)]
      have HB5 := Lib.hid (below_step (below_step HB3.out hb4) hb5)
      obtain ⟨Lr, hLr⟩ : ∃ z, z = w4.heap.size := ⟨_, rfl⟩
      rw [← hLr] at hbr ⊢
      clear p0 p1 p2 p3 p4 p5 p6 hLr hb4 hb5 HB3 hbp HBB3
      generalize w4.alloc (.cells #[.int .i64 (X' k + a), .int .i64 (Y' k + b)] 24) = w5 at *
      have HBR := Lib.hid hbr
      have HBq2 := Lib.hid hbq
      have HT2 : Hid (∀ r, hitB n X Y (X' k + a) (Y' k + b) s = r → cntB (fun j => hitB n X Y (X' j + a) (Y' j + b) s) (k + 1) = t + if r = true then 1 else 0) := Lib.hid (fun r hr => by
        unfold cntB
        rw [← HT.out, hr])
      clear hbr hbq HPl
      go_wp2
      go_loopw [9, 26] (fun tv iv wr => ∃ i : Nat, i ≤ n ∧ tv = .int .i64 t ∧ iv = .int .i64 i ∧ Hid (anyB (fun i => agrB (X' k + a, Y' k + b) (X i, Y i) s) i = false) ∧ Hid (Below w5.heap.size w5 wr)) (fun _ iv _ => n + 1 - (intOf iv).toNat)
      case atStart => exact ⟨0, Nat.zero_le _, rfl, rfl, Lib.hid rfl, Lib.hid (Below.refl _ _)⟩
      case round =>
        obtain ⟨i, hi, rfl, rfl, HF, HBi⟩ := hrel
        by_cases hli : i < n
        · have i0 : (0 : Int) ≤ (i : Int) := Int.natCast_nonneg _
          have i1 : (i : Int) < (n : Int) := by omega
          obtain ⟨b1, o1, e1, hp1⟩ := HC1x.out (by omega)
          subst e1
          have q1 := hp1.lt (by omega)
          have hBxi : Below wx.heap.size wx wr := below_step HB5.out HBi.out
          have l1 : b1 < wr.heap.size := Nat.lt_of_lt_of_le q1 hBxi.size
          obtain ⟨d0, d1, d2⟩ := (hp1.below hBxi q1) i hli
          obtain ⟨r, hr⟩ : ∃ r, r = agrB (X' k + a, Y' k + b) (X i, Y i) s := ⟨_, rfl⟩
          have hoi := HO.out i hli
          have hok := HBq2.out
          unfold okc at hoi hok
          have HAg := Lib.hid (fun W => agree_any (X' k + a) (Y' k + b) (X i) (Y i) s r (Lib.hid hr.symm) W (by omega) (by omega) (by omega) (by omega))
          have HRr := Lib.hid hr
          clear hr hoi hok hp1 hBxi
          go_upto_region 9 with fail
          have hbp := BoxAt.new wr 69 #[.int .i64 (X i), .int .i64 (Y i), .int .i64 (V i)]
          have HBr := Lib.hid (below_step HBi.out ((Below.refl _ wr).alloc (Nat.le_refl _) (.cells #[.int .i64 (X i), .int .i64 (Y i), .int .i64 (V i)] 69)))
          obtain ⟨Lp, hLp⟩ : ∃ z, z = wr.heap.size := ⟨_, rfl⟩
          rw [← hLp] at hbp ⊢
          clear d0 d1 d2 l1 hLp HBi
          generalize wr.alloc (.cells #[.int .i64 (X i), .int .i64 (Y i), .int .i64 (V i)] 69) = w6 at *
          have HBR6 := Lib.hid (box_step HBR.out HBr.out)
          have g0 : w6.cell? ⟨Lp, 0, none⟩ = some (.int .i64 (X i)) := hbp.cell 0
          have g1 : w6.cell? ⟨Lp, 1, none⟩ = some (.int .i64 (Y i)) := hbp.cell 1
          have g2 : w6.cell? ⟨Lp, 2, none⟩ = some (.int .i64 (V i)) := hbp.cell 2
          have g3 : w6.cell? ⟨Lr, 0, none⟩ = some (.int .i64 (X' k + a)) := HBR6.out.cell 0
          have g4 : w6.cell? ⟨Lr, 1, none⟩ = some (.int .i64 (Y' k + b)) := HBR6.out.cell 1
          have f0 : ∀ n os, (grd w6 n os).cell? ⟨Lp, 0, none⟩ = some (.int .i64 (X i)) := cell_grd g0
          have f1 : ∀ n os, (grd w6 n os).cell? ⟨Lp, 1, none⟩ = some (.int .i64 (Y i)) := cell_grd g1
          have f2 : ∀ n os, (grd w6 n os).cell? ⟨Lp, 2, none⟩ = some (.int .i64 (V i)) := cell_grd g2
          have f3 : ∀ n os, (grd w6 n os).cell? ⟨Lr, 0, none⟩ = some (.int .i64 (X' k + a)) := cell_grd g3
          have f4 : ∀ n os, (grd w6 n os).cell? ⟨Lr, 1, none⟩ = some (.int .i64 (Y' k + b)) := cell_grd g4
          clear g0 g1 g2 g3 g4 hbp
          cases r with
          | true =>
            have HH : Hid (hitB n X Y (X' k + a) (Y' k + b) s = true) := Lib.hid (anyB_hit hli HRr.out.symm)
            have HT3 := Lib.hid (HT2.out true HH.out)
            refine wp_region_quiet_grd (by kernel_rfl) (by kernel_rfl) ?_
            repeat (go_big_quiet_step (first
              | (go_at_call 64; with_reducible exact Calls.grd_of (spot_any _ _ _ _))
              | (go_at_call 122; with_reducible exact Calls.grd_of (HAg.out _))))
            refine wpQuiet_nil ?_
            intro _ hw'
            obtain ⟨⟨nq, osq⟩, rfl⟩ := hw'
            have HBq := Lib.hid (below_step HBr.out (below_grd w6 nq osq))
            generalize grd w6 nq osq = wq at *
            clear f0 f1 f2 f3 f4
            go_wp2
            go_roundw
            case rel => exact ⟨k + 1, t + 1, by omega, by go_num, by go_num, Lib.hid (by rw [HT3.out]; simp), Lib.hid (below_step HB5.out HBq.out)⟩
            case measure => simp [intOf]; omega
          | false =>
            have HF2 : Hid (anyB (fun i => agrB (X' k + a, Y' k + b) (X i, Y i) s) (i + 1) = false) := Lib.hid (by rw [anyB, HF.out, ← HRr.out]; rfl)
            refine wp_region_quiet_grd (by kernel_rfl) (by kernel_rfl) ?_
            repeat (go_big_quiet_step (first
              | (go_at_call 64; with_reducible exact Calls.grd_of (spot_any _ _ _ _))
              | (go_at_call 122; with_reducible exact Calls.grd_of (HAg.out _))))
            refine wpQuiet_nil ?_
            intro _ hw'
            obtain ⟨⟨nq, osq⟩, rfl⟩ := hw'
            have HBq := Lib.hid (below_step HBr.out (below_grd w6 nq osq))
            generalize grd w6 nq osq = wq at *
            clear f0 f1 f2 f3 f4
            go_wp2
            go_roundw
            case rel => exact ⟨i + 1, by omega, rfl, by go_num, HF2, HBq⟩
            case measure => simp [intOf]; omega
        · obtain rfl : i = n := by omega
          have i1 : ¬ (i : Int) < (i : Int) := by omega
          have HT3 := Lib.hid (HT2.out false HF.out)
          go_wp2
          go_roundw
          case rel => exact ⟨k + 1, t, by omega, rfl, by go_num, Lib.hid (by rw [HT3.out]; simp), Lib.hid (below_step HB5.out HBi.out)⟩
          case measure => simp [intOf]; omega
    · obtain rfl : k = m := by omega
      have k1 : ¬ (k : Int) < (k : Int) := by omega
      have HE : Hid (t = matF n X Y k X' Y' a b s) := HT
      go_wp2
      go_ret
      exact ⟨by rw [HE.out]; rfl, below_step HBx.out HB.out⟩
end Go.Proofs.Ytaehfildhmljeaa

namespace Go.Proofs.Ytaehfildhmljeaa
open Go.RowKit Go.Shelf

theorem agr_iff (x y a b s : Int) : agrB (x, y) (a, b) s = true ↔ x - s ≤ a ∧ a ≤ x + s ∧ y - s ≤ b ∧ b ≤ y + s := by
  unfold agrB dsF
  rw [Bool.and_eq_true, decide_eq_true_iff, decide_eq_true_iff]
  simp only
  omega

set_option maxRecDepth 100000 in
set_option maxHeartbeats 16000000 in
theorem rmatches_good (A : Option Addr) (n c1 : Nat) (X Y V : Nat → Int) (B : Option Addr) (m c2 : Nat) (X' Y' V' : Nat → Int) (a b s : Int) (hok : chkF n X Y V = 0) (hok' : chkF m X' Y' V' = 0)
    (hnb : nearB a b = true) (s0 : 0 ≤ s) (s1 : s ≤ 2000) (w : World) (hc1 : Cloud w A n X Y V) (hc2 : Cloud w B m X' Y' V') :
    Calls Try.prog 52 #[.slice A n c1, .slice B m c2, sp a b, .int .i64 s] w fun e w' => e = .returned (.int .i64 ((matF n X Y m X' Y' a b s : Nat) : Int)) ∧ Below w.heap.size w w' := by
  obtain ⟨ha1, ha2, hb1, hb2⟩ := near_of hnb
  have HAB := Lib.hid (And.intro (And.intro ha1 ha2) (And.intro hb1 hb2))
  have hm : m ≤ 1000 := by
    have h := hok'
    unfold chkF at h
    split at h
    · cases h
    · omega
  have hn : n ≤ 1000 := by
    have h := hok
    unfold chkF at h
    split at h
    · cases h
    · omega
  have HO' := Lib.hid (fun i (hi : i < m) => ok_at hok' hi)
  have HCh1 := Lib.hid (fun W (h : Cloud W A n X Y V) => rcheck_any A n c1 X Y V W h)
  have HCh2 := Lib.hid (fun W (h : Cloud W B m X' Y' V') => rcheck_any B m c2 X' Y' V' W h)
  rw [hok] at HCh1
  rw [hok'] at HCh2
  have HFar := Lib.hid (fun W => far_any a b false W (Lib.hid (by rw [hnb]; rfl)))
  have hB : Below w.heap.size w (w.alloc (.cells #[.int .i64 a, .int .i64 b] 24)) := (Below.refl _ w).alloc (Nat.le_refl _) _
  have hbx := BoxAt.new w 24 #[.int .i64 a, .int .i64 b]
  have HC1 := Lib.hid (hc1.below hB)
  have HC2 := Lib.hid (hc2.below hB)
  have y1 : ¬ s < 0 := by omega
  have y2 : ¬ 2000 < s := by omega
  clear hok hok' hnb hc1 hc2 ha1 ha2 hb1 hb2
  go_enter Try.func52, Try.ntmps52
  go_upto_region 1 with fail
  obtain ⟨L6, hL6⟩ : ∃ z, z = w.heap.size := ⟨_, rfl⟩
  rw [← hL6] at hbx ⊢
  clear hL6
  have HBx := Lib.hid hB
  have HBB := Lib.hid hbx
  clear hB
  generalize w.alloc (.cells #[.int .i64 a, .int .i64 b] 24) = wx at *
  have hBq := Below.refl wx.heap.size wx
  go_upto_region 3 with (first
    | (go_at_call 23; (with_reducible refine (HCh1.out _ HC1.out).mono ?_); rintro e w1 ⟨rfl, hx1⟩; replace hBq := below_step hBq hx1; have HC2b := Lib.hid (HC2.out.below hx1))
    | (go_at_call 23; (with_reducible refine (HCh2.out _ HC2b.out).mono ?_); rintro e w2 ⟨rfl, hx2⟩; replace hBq := below_step hBq hx2; have r0 : w2.cell? ⟨L6, 0, none⟩ = some (.int .i64 a) := (box_step HBB.out hBq).cell 0; have r1 : w2.cell? ⟨L6, 1, none⟩ = some (.int .i64 b) := (box_step HBB.out hBq).cell 1; have r2 := (box_step HBB.out hBq).lt)
    | (go_at_call 61; (with_reducible refine (HFar.out _).mono ?_); rintro e w3 ⟨rfl, hx3⟩; replace hBq := below_step hBq hx3))
  have HB3 := Lib.hid hBq
  have I : ∃ (k t : Nat), k ≤ m ∧ (Value.int .i64 0) = .int .i64 t ∧ (Value.int .i64 0) = .int .i64 k ∧ Hid (t = cntB (fun j => hitB n X Y (X' j + a) (Y' j + b) s) k) ∧ Hid (Below wx.heap.size wx w3) := ⟨0, 0, Nat.zero_le _, rfl, rfl, Lib.hid rfl, HB3⟩
  clear hBq hx1 hx2 hx3 r0 r1 r2 HCh1 HCh2 HFar HC2b hbx HB3
  go_wp2
  go_loopw [9, 10] (fun tv kv wr => ∃ (k t : Nat), k ≤ m ∧ tv = .int .i64 t ∧ kv = .int .i64 k ∧ Hid (t = cntB (fun j => hitB n X Y (X' j + a) (Y' j + b) s) k) ∧ Hid (Below wx.heap.size wx wr)) (fun _ kv _ => m + 1 - (intOf kv).toNat)
  case atStart => exact I
  case round =>
    clear I
    obtain ⟨k, t, hk, rfl, rfl, HT, HB⟩ := hrel
    by_cases hlt : k < m
    · have k0 : (0 : Int) ≤ (k : Int) := Int.natCast_nonneg _
      have k1 : (k : Int) < (m : Int) := by omega
      obtain ⟨b2, o2, e2, hp2⟩ := HC2.out (by omega)
      subst e2
      have q2 := hp2.lt (by omega)
      have l2 : b2 < wr.heap.size := Nat.lt_of_lt_of_le q2 HB.out.size
      obtain ⟨d0, d1, _⟩ := (hp2.below HB.out q2) k hlt
      have d3 : wr.cell? ⟨L6, 0, none⟩ = some (.int .i64 a) := (box_step HBB.out HB.out).cell 0
      have d4 : wr.cell? ⟨L6, 1, none⟩ = some (.int .i64 b) := (box_step HBB.out HB.out).cell 1
      have d5 := (box_step HBB.out HB.out).lt
      have ht := cntB_le (fun j => hitB n X Y (X' j + a) (Y' j + b) s) k
      have htt : t ≤ k := by rw [HT.out]; exact ht
      have HT2 : Hid (∀ r, hitB n X Y (X' k + a) (Y' k + b) s = r → cntB (fun j => hitB n X Y (X' j + a) (Y' j + b) s) (k + 1) = t + if r = true then 1 else 0) := Lib.hid (fun r hr => by
        unfold cntB
        rw [← HT.out, hr])
      obtain ⟨⟨x1, x2⟩, ⟨z1, z2⟩, _⟩ := HO'.out k hlt
      obtain ⟨⟨ha1, ha2⟩, hb1, hb2⟩ := HAB.out
      have w1 : IntKind.i64.wrap (X' k + a) = X' k + a := IntWalk.i64_in _ (by omega)
      have w2 : IntKind.i64.wrap (Y' k + b) = Y' k + b := IntWalk.i64_in _ (by omega)
      clear ht hp2
      go_upto_region 7 with fail
      go_quiet (fail)
      have HBq : Hid (Below wx.heap.size wx (wr.drewN nq)) := Lib.hid (below_drewN HB.out nq)
      obtain ⟨x, hx⟩ : ∃ x, x = X' k + a := ⟨_, rfl⟩
      obtain ⟨y, hy⟩ : ∃ y, y = Y' k + b := ⟨_, rfl⟩
      rw [← hx, ← hy] at HT2
      rw [← hx, ← hy]
      have x3 : -67108864 ≤ x ∧ x ≤ 67108864 := by omega
      have y3 : -67108864 ≤ y ∧ y ≤ 67108864 := by omega
      obtain ⟨x4, x5⟩ := x3
      obtain ⟨y4, y5⟩ := y3
      clear d0 d1 d3 d4 d5 w1 w2 x1 x2 z1 z2 ha1 ha2 hb1 hb2 hx hy l2 HB
      generalize wr.drewN nq = w5 at *
      go_wp2
      go_loopw [9, 13] (fun tv iv wr => ∃ i : Nat, i ≤ n ∧ tv = .int .i64 t ∧ iv = .int .i64 i ∧ Hid (anyB (fun i => agrB (x, y) (X i, Y i) s) i = false) ∧ Hid (Below w5.heap.size w5 wr)) (fun _ iv _ => n + 1 - (intOf iv).toNat)
      case atStart => exact ⟨0, Nat.zero_le _, rfl, rfl, Lib.hid rfl, Lib.hid (Below.refl _ _)⟩
      case round =>
        obtain ⟨i, hi, rfl, rfl, HF, HBi⟩ := hrel
        by_cases hli : i < n
        · have i0 : (0 : Int) ≤ (i : Int) := Int.natCast_nonneg _
          have i1 : (i : Int) < (n : Int) := by omega
          obtain ⟨b1, o1, e1, hp1⟩ := HC1.out (by omega)
          subst e1
          have q1 := hp1.lt (by omega)
          have hBxi : Below wx.heap.size wx wr := below_step HBq.out HBi.out
          have l1 : b1 < wr.heap.size := Nat.lt_of_lt_of_le q1 hBxi.size
          obtain ⟨d0, d1, _⟩ := (hp1.below hBxi q1) i hli
          have HYes : Hid (x - s ≤ X i ∧ X i ≤ x + s ∧ y - s ≤ Y i ∧ Y i ≤ y + s → hitB n X Y x y s = true) := Lib.hid (fun h => anyB_hit hli ((agr_iff _ _ _ _ _).2 h))
          have HNo : Hid (¬ (x - s ≤ X i ∧ X i ≤ x + s ∧ y - s ≤ Y i ∧ Y i ≤ y + s) → anyB (fun i => agrB (x, y) (X i, Y i) s) (i + 1) = false) := Lib.hid (fun h => by
            have h2 : agrB (x, y) (X i, Y i) s = false := by
              cases h3 : agrB (x, y) (X i, Y i) s with
              | false => rfl
              | true => exact absurd ((agr_iff _ _ _ _ _).1 h3) h
            rw [anyB, HF.out, h2]; rfl)
          obtain ⟨xi, hxi⟩ : ∃ z, z = X i := ⟨_, rfl⟩
          obtain ⟨yi, hyi⟩ : ∃ z, z = Y i := ⟨_, rfl⟩
          rw [← hxi] at d0 HYes HNo
          rw [← hyi] at d1 HYes HNo
          clear hxi hyi hBxi
          by_cases h1 : x - s ≤ xi
          · by_cases h2 : xi ≤ x + s
            · by_cases h3 : y - s ≤ yi
              · by_cases h4 : yi ≤ y + s
                · have HT3 := Lib.hid (HT2.out true (HYes.out ⟨h1, h2, h3, h4⟩))
                  go_wp2
                  go_roundw
                  case rel => exact ⟨k + 1, t + 1, by omega, by go_num, by go_num, Lib.hid (by rw [HT3.out]; simp), Lib.hid (below_step HBq.out HBi.out)⟩
                  case measure => simp [intOf]; omega
                · have HF2 := Lib.hid (HNo.out (fun h => h4 h.2.2.2))
                  go_wp2
                  go_roundw
                  case rel => exact ⟨i + 1, by omega, rfl, by go_num, HF2, HBi⟩
                  case measure => simp [intOf]; omega
              · have HF2 := Lib.hid (HNo.out (fun h => h3 h.2.2.1))
                go_wp2
                go_roundw
                case rel => exact ⟨i + 1, by omega, rfl, by go_num, HF2, HBi⟩
                case measure => simp [intOf]; omega
            · have HF2 := Lib.hid (HNo.out (fun h => h2 h.2.1))
              go_wp2
              go_roundw
              case rel => exact ⟨i + 1, by omega, rfl, by go_num, HF2, HBi⟩
              case measure => simp [intOf]; omega
          · have HF2 := Lib.hid (HNo.out (fun h => h1 h.1))
            go_wp2
            go_roundw
            case rel => exact ⟨i + 1, by omega, rfl, by go_num, HF2, HBi⟩
            case measure => simp [intOf]; omega
        · obtain rfl : i = n := by omega
          have i1 : ¬ (i : Int) < (i : Int) := by omega
          have HT3 := Lib.hid (HT2.out false HF.out)
          go_wp2
          go_roundw
          case rel => exact ⟨k + 1, t, by omega, rfl, by go_num, Lib.hid (by rw [HT3.out]; simp), Lib.hid (below_step HBq.out HBi.out)⟩
          case measure => simp [intOf]; omega
    · obtain rfl : k = m := by omega
      have k1 : ¬ (k : Int) < (k : Int) := by omega
      have HE : Hid (t = matF n X Y k X' Y' a b s) := HT
      go_wp2
      go_ret
      exact ⟨by rw [HE.out]; rfl, below_step HBx.out HB.out⟩
end Go.Proofs.Ytaehfildhmljeaa

namespace Go.Proofs.Ytaehfildhmljeaa
open Go.RowKit Go.Shelf

def matOk (n : Nat) (X Y V : Nat → Int) (m : Nat) (X' Y' V' : Nat → Int) (a b s : Int) : Bool := decide (chkF n X Y V = 0) && decide (chkF m X' Y' V' = 0) && (decide (0 ≤ s) && decide (s ≤ 2000)) && nearB a b
def matAny (n : Nat) (X Y V : Nat → Int) (m : Nat) (X' Y' V' : Nat → Int) (a b s : Int) : Int := if matOk n X Y V m X' Y' V' a b s then ((matF n X Y m X' Y' a b s : Nat) : Int) else 0
theorem matAny_no {n m : Nat} {X Y V X' Y' V' : Nat → Int} {a b s : Int} (h : matOk n X Y V m X' Y' V' a b s = false) : matAny n X Y V m X' Y' V' a b s = 0 := by unfold matAny; rw [h]; rfl
theorem matAny_yes {n m : Nat} {X Y V X' Y' V' : Nat → Int} {a b s : Int} (h : matOk n X Y V m X' Y' V' a b s = true) : matAny n X Y V m X' Y' V' a b s = ((matF n X Y m X' Y' a b s : Nat) : Int) := by unfold matAny; rw [h]; rfl
theorem chk_le {n : Nat} {X Y V : Nat → Int} (h : chkF n X Y V = 0) : n ≤ 1000 := by
  unfold chkF at h
  split at h
  · cases h
  · omega

set_option maxRecDepth 100000 in
set_option maxHeartbeats 8000000 in
theorem match_any (A : Option Addr) (n c1 : Nat) (X Y V : Nat → Int) (B : Option Addr) (m c2 : Nat) (X' Y' V' : Nat → Int) (a b s : Int) (w : World) (hc1 : Cloud w A n X Y V) (hc2 : Cloud w B m X' Y' V') :
    Calls Try.prog 51 #[.slice A n c1, .slice B m c2, sp a b, .int .i64 s] w fun e w' => e = .returned (.int .i64 (matAny n X Y V m X' Y' V' a b s)) ∧ Below w.heap.size w w' := by
  have hB : Below w.heap.size w (w.alloc (.cells #[.int .i64 a, .int .i64 b] 24)) := (Below.refl _ w).alloc (Nat.le_refl _) _
  have hbx := BoxAt.new w 24 #[.int .i64 a, .int .i64 b]
  have HC1 := Lib.hid (hc1.below hB)
  have HC2 := Lib.hid (hc2.below hB)
  have HCh1 := Lib.hid (fun W (h : Cloud W A n X Y V) => check_any A n c1 X Y V W h)
  have HCh2 := Lib.hid (fun W (h : Cloud W B m X' Y' V') => check_any B m c2 X' Y' V' W h)
  by_cases h1 : chkF n X Y V = 0
  · by_cases h2 : chkF m X' Y' V' = 0
    · by_cases h3 : 0 ≤ s ∧ s ≤ 2000
      · have HW : Hid (∀ W, Calls Try.prog 100 #[.int .i64 s] W fun e w' => e = .returned (.bool true) ∧ w' = W) := Lib.hid (fun W => vwin_any s true (by simp [h3]) W)
        rw [h1] at HCh1
        rw [h2] at HCh2
        cases hnb : nearB a b with
        | true =>
          have HE := Lib.hid (matAny_yes (show matOk n X Y V m X' Y' V' a b s = true by simp [matOk, h1, h2, h3, hnb]))
          obtain ⟨ha1, ha2, hb1, hb2⟩ := near_of hnb
          have HM := Lib.hid (fun W (h : Cloud W A n X Y V) (h' : Cloud W B m X' Y' V') => matches_any A n c1 X Y V B m c2 X' Y' V' a b s (chk_le h1) (chk_le h2) (fun i hi => ⟨(ok_at h1 hi).1, (ok_at h1 hi).2.1⟩) (fun i hi => ⟨(ok_at h2 hi).1, (ok_at h2 hi).2.1⟩) ha1 ha2 hb1 hb2 W h h')
          have HN := Lib.hid (fun W => vshift_any a b true W (Lib.hid hnb))
          obtain ⟨q, hq⟩ : ∃ q : Int, q = ((matF n X Y m X' Y' a b s : Nat) : Int) := ⟨_, rfl⟩
          rw [← hq] at HE HM
          clear h1 h2 h3 hnb ha1 ha2 hb1 hb2 hc1 hc2 hq
          go_enter Try.func51, Try.ntmps51
          go_upto_region 1 with fail
          obtain ⟨L6, hL6⟩ : ∃ z, z = w.heap.size := ⟨_, rfl⟩
          rw [← hL6] at hbx ⊢
          clear hL6
          have HBB := Lib.hid hbx
          have HB0 := Lib.hid hB
          clear hB hbx
          generalize w.alloc (.cells #[.int .i64 a, .int .i64 b] 24) = wx at *
          have hBq := Below.refl wx.heap.size wx
          go_wp2_with (first
            | (go_at_call 22; (with_reducible refine (HCh1.out _ HC1.out).mono ?_); rintro e w1 ⟨rfl, hx1⟩; replace hBq := below_step hBq hx1; have HC2b := Lib.hid (HC2.out.below hx1))
            | (go_at_call 22; (with_reducible refine (HCh2.out _ HC2b.out).mono ?_); rintro e w2 ⟨rfl, hx2⟩; replace hBq := below_step hBq hx2)
            | (go_at_call 100; (with_reducible refine (HW.out _).mono ?_); rintro e w2b ⟨rfl, rfl⟩; have r0 : w2b.cell? ⟨L6, 0, none⟩ = some (.int .i64 a) := (box_step HBB.out hBq).cell 0; have r1 : w2b.cell? ⟨L6, 1, none⟩ = some (.int .i64 b) := (box_step HBB.out hBq).cell 1; have r2 := (box_step HBB.out hBq).lt)
            | (go_at_call 58; (with_reducible refine (HN.out _).mono ?_); rintro e w3 ⟨rfl, hx3⟩; replace hBq := below_step hBq hx3; have u0 : w3.cell? ⟨L6, 0, none⟩ = some (.int .i64 a) := (box_step HBB.out hBq).cell 0; have u1 : w3.cell? ⟨L6, 1, none⟩ = some (.int .i64 b) := (box_step HBB.out hBq).cell 1; have u2 := (box_step HBB.out hBq).lt)
            | (go_at_call 95; (with_reducible refine (HM.out _ (HC1.out.below hBq) (HC2.out.below hBq)).mono ?_); rintro e w4 ⟨rfl, hx4⟩; replace hBq := below_step hBq hx4))
          go_ret
          exact ⟨by rw [HE.out]; rfl, below_step HB0.out hBq⟩
        | false =>
          have HE := Lib.hid (matAny_no (show matOk n X Y V m X' Y' V' a b s = false by simp [matOk, hnb]))
          have HN := Lib.hid (fun W => vshift_any a b false W (Lib.hid hnb))
          clear h1 h2 h3 hnb hc1 hc2
          go_enter Try.func51, Try.ntmps51
          go_upto_region 1 with fail
          obtain ⟨L6, hL6⟩ : ∃ z, z = w.heap.size := ⟨_, rfl⟩
          rw [← hL6] at hbx ⊢
          clear hL6
          have HBB := Lib.hid hbx
          have HB0 := Lib.hid hB
          clear hB hbx
          generalize w.alloc (.cells #[.int .i64 a, .int .i64 b] 24) = wx at *
          have hBq := Below.refl wx.heap.size wx
          go_wp2_with (first
            | (go_at_call 22; (with_reducible refine (HCh1.out _ HC1.out).mono ?_); rintro e w1 ⟨rfl, hx1⟩; replace hBq := below_step hBq hx1; have HC2b := Lib.hid (HC2.out.below hx1))
            | (go_at_call 22; (with_reducible refine (HCh2.out _ HC2b.out).mono ?_); rintro e w2 ⟨rfl, hx2⟩; replace hBq := below_step hBq hx2)
            | (go_at_call 100; (with_reducible refine (HW.out _).mono ?_); rintro e w2b ⟨rfl, rfl⟩; have r0 : w2b.cell? ⟨L6, 0, none⟩ = some (.int .i64 a) := (box_step HBB.out hBq).cell 0; have r1 : w2b.cell? ⟨L6, 1, none⟩ = some (.int .i64 b) := (box_step HBB.out hBq).cell 1; have r2 := (box_step HBB.out hBq).lt)
            | (go_at_call 58; (with_reducible refine (HN.out _).mono ?_); rintro e w3 ⟨rfl, hx3⟩; replace hBq := below_step hBq hx3))
          go_ret
          exact ⟨by rw [HE.out]; rfl, below_step HB0.out hBq⟩
      · have HW : Hid (∀ W, Calls Try.prog 100 #[.int .i64 s] W fun e w' => e = .returned (.bool false) ∧ w' = W) := Lib.hid (fun W => vwin_any s false (by simp [h3]) W)
        have HE := Lib.hid (matAny_no (show matOk n X Y V m X' Y' V' a b s = false by
          have : (decide (0 ≤ s) && decide (s ≤ 2000)) = false := by
            rw [← Bool.decide_and]; exact decide_eq_false h3
          unfold matOk
          rw [this]; simp))
        rw [h1] at HCh1
        rw [h2] at HCh2
        clear h1 h2 h3 hc1 hc2
        go_enter Try.func51, Try.ntmps51
        go_upto_region 1 with fail
        obtain ⟨L6, hL6⟩ : ∃ z, z = w.heap.size := ⟨_, rfl⟩
        rw [← hL6] at hbx ⊢
        clear hL6
        have HBB := Lib.hid hbx
        have HB0 := Lib.hid hB
        clear hB hbx
        generalize w.alloc (.cells #[.int .i64 a, .int .i64 b] 24) = wx at *
        have hBq := Below.refl wx.heap.size wx
        go_wp2_with (first
          | (go_at_call 22; (with_reducible refine (HCh1.out _ HC1.out).mono ?_); rintro e w1 ⟨rfl, hx1⟩; replace hBq := below_step hBq hx1; have HC2b := Lib.hid (HC2.out.below hx1))
          | (go_at_call 22; (with_reducible refine (HCh2.out _ HC2b.out).mono ?_); rintro e w2 ⟨rfl, hx2⟩; replace hBq := below_step hBq hx2)
          | (go_at_call 100; (with_reducible refine (HW.out _).mono ?_); rintro e w2b ⟨rfl, rfl⟩; have r0 : w2b.cell? ⟨L6, 0, none⟩ = some (.int .i64 a) := (box_step HBB.out hBq).cell 0; have r1 : w2b.cell? ⟨L6, 1, none⟩ = some (.int .i64 b) := (box_step HBB.out hBq).cell 1; have r2 := (box_step HBB.out hBq).lt))
        go_ret
        exact ⟨by rw [HE.out]; rfl, below_step HB0.out hBq⟩
    · have HE := Lib.hid (matAny_no (show matOk n X Y V m X' Y' V' a b s = false by simp [matOk, h2]))
      obtain ⟨z, hz⟩ : ∃ z, z = chkF m X' Y' V' := ⟨_, rfl⟩
      rw [← hz] at HCh2 h2
      rw [h1] at HCh1
      clear h1 hc1 hc2 hz
      go_enter Try.func51, Try.ntmps51
      go_upto_region 1 with fail
      obtain ⟨L6, hL6⟩ : ∃ z, z = w.heap.size := ⟨_, rfl⟩
      rw [← hL6] at hbx ⊢
      clear hL6
      have HBB := Lib.hid hbx
      have HB0 := Lib.hid hB
      clear hB hbx
      generalize w.alloc (.cells #[.int .i64 a, .int .i64 b] 24) = wx at *
      have hBq := Below.refl wx.heap.size wx
      go_wp2_with (first
        | (go_at_call 22; (with_reducible refine (HCh1.out _ HC1.out).mono ?_); rintro e w1 ⟨rfl, hx1⟩; replace hBq := below_step hBq hx1; have HC2b := Lib.hid (HC2.out.below hx1))
        | (go_at_call 22; (with_reducible refine (HCh2.out _ HC2b.out).mono ?_); rintro e w2 ⟨rfl, hx2⟩; replace hBq := below_step hBq hx2))
      go_ret
      exact ⟨by rw [HE.out]; rfl, below_step HB0.out hBq⟩
  · have HE := Lib.hid (matAny_no (show matOk n X Y V m X' Y' V' a b s = false by simp [matOk, h1]))
    obtain ⟨z, hz⟩ : ∃ z, z = chkF n X Y V := ⟨_, rfl⟩
    rw [← hz] at HCh1 h1
    clear hc1 hc2 hz
    go_enter Try.func51, Try.ntmps51
    go_upto_region 1 with fail
    obtain ⟨L6, hL6⟩ : ∃ z, z = w.heap.size := ⟨_, rfl⟩
    rw [← hL6] at hbx ⊢
    clear hL6
    have HBB := Lib.hid hbx
    have HB0 := Lib.hid hB
    clear hB hbx
    generalize w.alloc (.cells #[.int .i64 a, .int .i64 b] 24) = wx at *
    have hBq := Below.refl wx.heap.size wx
    go_wp2_with (first
      | (go_at_call 22; (with_reducible refine (HCh1.out _ HC1.out).mono ?_); rintro e w1 ⟨rfl, hx1⟩; replace hBq := below_step hBq hx1; have HC2b := Lib.hid (HC2.out.below hx1)))
    go_ret
    exact ⟨by rw [HE.out]; rfl, below_step HB0.out hBq⟩
end Go.Proofs.Ytaehfildhmljeaa

namespace Go.Proofs.Ytaehfildhmljeaa
open Go.RowKit Go.Shelf

set_option maxRecDepth 100000 in
set_option maxHeartbeats 8000000 in
theorem rmatch_any (A : Option Addr) (n c1 : Nat) (X Y V : Nat → Int) (B : Option Addr) (m c2 : Nat) (X' Y' V' : Nat → Int) (a b s : Int) (w : World) (hc1 : Cloud w A n X Y V) (hc2 : Cloud w B m X' Y' V') :
    Calls Try.prog 52 #[.slice A n c1, .slice B m c2, sp a b, .int .i64 s] w fun e w' => e = .returned (.int .i64 (matAny n X Y V m X' Y' V' a b s)) ∧ Below w.heap.size w w' := by
  have hB : Below w.heap.size w (w.alloc (.cells #[.int .i64 a, .int .i64 b] 24)) := (Below.refl _ w).alloc (Nat.le_refl _) _
  have hbx := BoxAt.new w 24 #[.int .i64 a, .int .i64 b]
  have HC1 := Lib.hid (hc1.below hB)
  have HC2 := Lib.hid (hc2.below hB)
  have HCh1 := Lib.hid (fun W (h : Cloud W A n X Y V) => rcheck_any A n c1 X Y V W h)
  have HCh2 := Lib.hid (fun W (h : Cloud W B m X' Y' V') => rcheck_any B m c2 X' Y' V' W h)
  by_cases h1 : chkF n X Y V = 0
  · by_cases h2 : chkF m X' Y' V' = 0
    · by_cases h3 : 0 ≤ s
      · by_cases h4 : s ≤ 2000
        · cases hnb : nearB a b with
          | true =>
            rw [matAny_yes (show matOk n X Y V m X' Y' V' a b s = true by simp [matOk, h1, h2, h3, h4, hnb])]
            exact rmatches_good A n c1 X Y V B m c2 X' Y' V' a b s h1 h2 hnb h3 h4 w hc1 hc2
          | false =>
            have HE := Lib.hid (matAny_no (show matOk n X Y V m X' Y' V' a b s = false by simp [matOk, hnb]))
            have HN := Lib.hid (fun W => far_any a b true W (Lib.hid (by rw [hnb]; rfl)))
            rw [h1] at HCh1
            rw [h2] at HCh2
            have y1 : ¬ s < 0 := by omega
            have y2 : ¬ 2000 < s := by omega
            clear h1 h2 h3 h4 hnb hc1 hc2
            go_enter Try.func52, Try.ntmps52
            go_upto_region 1 with fail
            obtain ⟨L6, hL6⟩ : ∃ z, z = w.heap.size := ⟨_, rfl⟩
            rw [← hL6] at hbx ⊢
            clear hL6
            have HBB := Lib.hid hbx
            have HB0 := Lib.hid hB
            clear hB hbx
            generalize w.alloc (.cells #[.int .i64 a, .int .i64 b] 24) = wx at *
            have hBq := Below.refl wx.heap.size wx
            go_wp2_with (first
              | (go_at_call 23; (with_reducible refine (HCh1.out _ HC1.out).mono ?_); rintro e w1 ⟨rfl, hx1⟩; replace hBq := below_step hBq hx1; have HC2b := Lib.hid (HC2.out.below hx1))
              | (go_at_call 23; (with_reducible refine (HCh2.out _ HC2b.out).mono ?_); rintro e w2 ⟨rfl, hx2⟩; replace hBq := below_step hBq hx2; have r0 : w2.cell? ⟨L6, 0, none⟩ = some (.int .i64 a) := (box_step HBB.out hBq).cell 0; have r1 : w2.cell? ⟨L6, 1, none⟩ = some (.int .i64 b) := (box_step HBB.out hBq).cell 1; have r2 := (box_step HBB.out hBq).lt)
              | (go_at_call 61; (with_reducible refine (HN.out _).mono ?_); rintro e w3 ⟨rfl, hx3⟩; replace hBq := below_step hBq hx3))
            go_ret
            exact ⟨by rw [HE.out]; rfl, below_step HB0.out hBq⟩
        · have HE := Lib.hid (matAny_no (show matOk n X Y V m X' Y' V' a b s = false by simp [matOk, h4]))
          rw [h1] at HCh1
          rw [h2] at HCh2
          have y1 : ¬ s < 0 := by omega
          have y2 : 2000 < s := by omega
          clear h1 h2 h3 h4 hc1 hc2
          go_enter Try.func52, Try.ntmps52
          go_upto_region 1 with fail
          obtain ⟨L6, hL6⟩ : ∃ z, z = w.heap.size := ⟨_, rfl⟩
          rw [← hL6] at hbx ⊢
          clear hL6
          have HBB := Lib.hid hbx
          have HB0 := Lib.hid hB
          clear hB hbx
          generalize w.alloc (.cells #[.int .i64 a, .int .i64 b] 24) = wx at *
          have hBq := Below.refl wx.heap.size wx
          go_wp2_with (first
            | (go_at_call 23; (with_reducible refine (HCh1.out _ HC1.out).mono ?_); rintro e w1 ⟨rfl, hx1⟩; replace hBq := below_step hBq hx1; have HC2b := Lib.hid (HC2.out.below hx1))
            | (go_at_call 23; (with_reducible refine (HCh2.out _ HC2b.out).mono ?_); rintro e w2 ⟨rfl, hx2⟩; replace hBq := below_step hBq hx2; have r0 : w2.cell? ⟨L6, 0, none⟩ = some (.int .i64 a) := (box_step HBB.out hBq).cell 0; have r1 : w2.cell? ⟨L6, 1, none⟩ = some (.int .i64 b) := (box_step HBB.out hBq).cell 1; have r2 := (box_step HBB.out hBq).lt))
          go_ret
          exact ⟨by rw [HE.out]; rfl, below_step HB0.out hBq⟩
      · have HE := Lib.hid (matAny_no (show matOk n X Y V m X' Y' V' a b s = false by simp [matOk, h3]))
        rw [h1] at HCh1
        rw [h2] at HCh2
        have y1 : s < 0 := by omega
        clear h1 h2 h3 hc1 hc2
        go_enter Try.func52, Try.ntmps52
        go_upto_region 1 with fail
        obtain ⟨L6, hL6⟩ : ∃ z, z = w.heap.size := ⟨_, rfl⟩
        rw [← hL6] at hbx ⊢
        clear hL6
        have HBB := Lib.hid hbx
        have HB0 := Lib.hid hB
        clear hB hbx
        generalize w.alloc (.cells #[.int .i64 a, .int .i64 b] 24) = wx at *
        have hBq := Below.refl wx.heap.size wx
        go_wp2_with (first
          | (go_at_call 23; (with_reducible refine (HCh1.out _ HC1.out).mono ?_); rintro e w1 ⟨rfl, hx1⟩; replace hBq := below_step hBq hx1; have HC2b := Lib.hid (HC2.out.below hx1))
          | (go_at_call 23; (with_reducible refine (HCh2.out _ HC2b.out).mono ?_); rintro e w2 ⟨rfl, hx2⟩; replace hBq := below_step hBq hx2; have r0 : w2.cell? ⟨L6, 0, none⟩ = some (.int .i64 a) := (box_step HBB.out hBq).cell 0; have r1 : w2.cell? ⟨L6, 1, none⟩ = some (.int .i64 b) := (box_step HBB.out hBq).cell 1; have r2 := (box_step HBB.out hBq).lt))
        go_ret
        exact ⟨by rw [HE.out]; rfl, below_step HB0.out hBq⟩
    · have HE := Lib.hid (matAny_no (show matOk n X Y V m X' Y' V' a b s = false by simp [matOk, h2]))
      obtain ⟨z, hz⟩ : ∃ z, z = chkF m X' Y' V' := ⟨_, rfl⟩
      rw [← hz] at HCh2 h2
      rw [h1] at HCh1
      clear h1 hc1 hc2 hz
      go_enter Try.func52, Try.ntmps52
      go_upto_region 1 with fail
      obtain ⟨L6, hL6⟩ : ∃ z, z = w.heap.size := ⟨_, rfl⟩
      rw [← hL6] at hbx ⊢
      clear hL6
      have HBB := Lib.hid hbx
      have HB0 := Lib.hid hB
      clear hB hbx
      generalize w.alloc (.cells #[.int .i64 a, .int .i64 b] 24) = wx at *
      have hBq := Below.refl wx.heap.size wx
      go_wp2_with (first
        | (go_at_call 23; (with_reducible refine (HCh1.out _ HC1.out).mono ?_); rintro e w1 ⟨rfl, hx1⟩; replace hBq := below_step hBq hx1; have HC2b := Lib.hid (HC2.out.below hx1))
        | (go_at_call 23; (with_reducible refine (HCh2.out _ HC2b.out).mono ?_); rintro e w2 ⟨rfl, hx2⟩; replace hBq := below_step hBq hx2; have r0 : w2.cell? ⟨L6, 0, none⟩ = some (.int .i64 a) := (box_step HBB.out hBq).cell 0; have r1 : w2.cell? ⟨L6, 1, none⟩ = some (.int .i64 b) := (box_step HBB.out hBq).cell 1; have r2 := (box_step HBB.out hBq).lt))
      go_ret
      exact ⟨by rw [HE.out]; rfl, below_step HB0.out hBq⟩
  · have HE := Lib.hid (matAny_no (show matOk n X Y V m X' Y' V' a b s = false by simp [matOk, h1]))
    obtain ⟨z, hz⟩ : ∃ z, z = chkF n X Y V := ⟨_, rfl⟩
    rw [← hz] at HCh1 h1
    clear hc1 hc2 hz
    go_enter Try.func52, Try.ntmps52
    go_upto_region 1 with fail
    obtain ⟨L6, hL6⟩ : ∃ z, z = w.heap.size := ⟨_, rfl⟩
    rw [← hL6] at hbx ⊢
    clear hL6
    have HBB := Lib.hid hbx
    have HB0 := Lib.hid hB
    clear hB hbx
    generalize w.alloc (.cells #[.int .i64 a, .int .i64 b] 24) = wx at *
    have hBq := Below.refl wx.heap.size wx
    go_wp2_with (first
      | (go_at_call 23; (with_reducible refine (HCh1.out _ HC1.out).mono ?_); rintro e w1 ⟨rfl, hx1⟩; replace hBq := below_step hBq hx1; have HC2b := Lib.hid (HC2.out.below hx1)))
    go_ret
    exact ⟨by rw [HE.out]; rfl, below_step HB0.out hBq⟩
end Go.Proofs.Ytaehfildhmljeaa

namespace Go.Proofs.Ytaehfildhmljeaa

def inW (p : Pt) (win : Int) : Bool := decide (-win ≤ p.1) && decide (p.1 ≤ win) && (decide (-win ≤ p.2) && decide (p.2 ≤ win))
/-- Whether a candidate with c matches is better than the best so far. -/
def betB (p : Pt) (c : Nat) (st : Pt × Nat) : Bool := decide (st.2 < c) || (decide (c = st.2) && smpB p st.1)
section
variable (n : Nat) (X Y : Nat → Int) (m : Nat) (X' Y' : Nat → Int) (win s : Int)
def regStep (st : Pt × Nat) (p : Pt) : Pt × Nat :=
  if inW p win then (if betB p (matF n X Y m X' Y' p.1 p.2 s) st then (p, matF n X Y m X' Y' p.1 p.2 s) else st) else st
def regJ (st : Pt × Nat) (i : Nat) : Nat → Pt × Nat
  | 0 => st
  | j + 1 => regStep n X Y m X' Y' win s (regJ st i j) (X i - X' j, Y i - Y' j)
def regI : Nat → Pt × Nat
  | 0 => ((0, 0), matF n X Y m X' Y' 0 0 s)
  | i + 1 => regJ n X Y m X' Y' win s (regI i) i m
end
def regE (n : Nat) (X Y V : Nat → Int) (m : Nat) (X' Y' V' : Nat → Int) (win s : Int) : Int :=
  if chkF n X Y V ≠ 0 then chkF n X Y V else if chkF m X' Y' V' ≠ 0 then chkF m X' Y' V' else if 60 < n ∨ 60 < m then 8 else if 0 ≤ win ∧ win ≤ 2000 ∧ 0 ≤ s ∧ s ≤ 2000 then 0 else 2
/-- The best so far is a small shift. -/
def smlP (st : Pt × Nat) : Prop := (-2000 ≤ st.1.1 ∧ st.1.1 ≤ 2000) ∧ (-2000 ≤ st.1.2 ∧ st.1.2 ≤ 2000) ∧ st.2 ≤ 1000
theorem inW_iff (p : Pt) (win : Int) : inW p win = true ↔ (-win ≤ p.1 ∧ p.1 ≤ win) ∧ (-win ≤ p.2 ∧ p.2 ≤ win) := by
  unfold inW; simp
theorem matF_le (n : Nat) (X Y : Nat → Int) (m : Nat) (X' Y' : Nat → Int) (a b s : Int) : matF n X Y m X' Y' a b s ≤ m := cntB_le _ _
theorem regStep_sml {n : Nat} {X Y : Nat → Int} {m : Nat} {X' Y' : Nat → Int} {win s : Int} (hm : m ≤ 60) (hw : win ≤ 2000) {st : Pt × Nat} (h : smlP st) (p : Pt) : smlP (regStep n X Y m X' Y' win s st p) := by
  unfold regStep
  split
  · rename_i hi
    have := (inW_iff p win).1 hi
    split
    · have hh := matF_le n X Y m X' Y' p.1 p.2 s
      unfold smlP
      simp only
      omega
    · exact h
  · exact h
theorem regJ_sml {n : Nat} {X Y : Nat → Int} {m : Nat} {X' Y' : Nat → Int} {win s : Int} (hm : m ≤ 60) (hw : win ≤ 2000) {st : Pt × Nat} (h : smlP st) (i : Nat) : ∀ j, smlP (regJ n X Y m X' Y' win s st i j) := by
  intro j
  induction j with
  | zero => exact h
  | succ j ih => exact regStep_sml hm hw ih _
theorem regI_sml {n : Nat} {X Y : Nat → Int} {m : Nat} {X' Y' : Nat → Int} {win s : Int} (hm : m ≤ 60) (hw : win ≤ 2000) : ∀ i, smlP (regI n X Y m X' Y' win s i) := by
  intro i
  induction i with
  | zero =>
    have hh := matF_le n X Y m X' Y' 0 0 s
    unfold smlP regI
    simp only
    omega
  | succ i ih => exact regJ_sml hm hw ih i m
end Go.Proofs.Ytaehfildhmljeaa

namespace Go.Proofs.Ytaehfildhmljeaa
open Go.RowKit Go.Shelf

def RegPost (p : Pt) (c : Nat) (e0 : Int) (w : World) (e : Ending) (w' : World) : Prop :=
  e = .returned (.tuple #[sp p.1 p.2, .int .i64 (c : Int), .int .i64 e0]) ∧ Below w.heap.size w w'
theorem betB_lt {p : Pt} {c : Nat} {st : Pt × Nat} (h : st.2 < c) : betB p c st = true := by unfold betB; simp [h]
theorem betB_ne {p : Pt} {c : Nat} {st : Pt × Nat} (h : ¬ st.2 < c) (h' : c ≠ st.2) : betB p c st = false := by unfold betB; simp [h, h']
theorem betB_eq {p b : Pt} {c : Nat} : betB p c (b, c) = (decide (stpF p < stpF b) || (decide (stpF p = stpF b) && befB p b)) := by unfold betB; rw [smp_iff]; simp
theorem regStep_out {n : Nat} {X Y : Nat → Int} {m : Nat} {X' Y' : Nat → Int} {win s : Int} {st : Pt × Nat} {p : Pt} (h : inW p win = false) : regStep n X Y m X' Y' win s st p = st := by unfold regStep; rw [h]; rfl
theorem regStep_in {n : Nat} {X Y : Nat → Int} {m : Nat} {X' Y' : Nat → Int} {win s : Int} {st : Pt × Nat} {p : Pt} (h : inW p win = true) : regStep n X Y m X' Y' win s st p = if betB p (matF n X Y m X' Y' p.1 p.2 s) st then (p, matF n X Y m X' Y' p.1 p.2 s) else st := by unfold regStep; rw [if_pos h]
theorem bset2 {W : World} {g : Nat} {a b x y : Value} (h : BoxAt W g 24 #[x, y]) : BoxAt ((W.setCell ⟨g, 0, none⟩ a).setCell ⟨g, 1, none⟩ b) g 24 #[a, b] := (h.set 0 _).set 1 _
theorem bother2 {W : World} {g h : Nat} {a b : Value} {t : TypeId} {cs : Array Value} (hb : BoxAt W g t cs) (hne : g ≠ h) : BoxAt ((W.setCell ⟨h, 0, none⟩ a).setCell ⟨h, 1, none⟩ b) g t cs := (hb.other hne 0 a).other hne 1 b
theorem bbel2 {w W : World} {g : Nat} (h : Below w.heap.size w W) (hg : w.heap.size ≤ g) (a b : Value) : Below w.heap.size w ((W.setCell ⟨g, 0, none⟩ a).setCell ⟨g, 1, none⟩ b) := bset (p := ⟨g, 1, none⟩) hg (bset (p := ⟨g, 0, none⟩) hg h a) b
set_option maxRecDepth 100000 in
set_option maxHeartbeats 16000000 in
theorem rregister_good (A : Option Addr) (n c1 : Nat) (X Y V : Nat → Int) (B : Option Addr) (m c2 : Nat) (X' Y' V' : Nat → Int) (win s : Int) (hok : chkF n X Y V = 0) (hok' : chkF m X' Y' V' = 0)
    (hn : n ≤ 60) (hm : m ≤ 60) (w0 : 0 ≤ win) (w1 : win ≤ 2000) (s0 : 0 ≤ s) (s1 : s ≤ 2000) (w : World) (hc1 : Cloud w A n X Y V) (hc2 : Cloud w B m X' Y' V') :
    Calls Try.prog 50 #[.slice A n c1, .slice B m c2, .int .i64 win, .int .i64 s] w (RegPost (regI n X Y m X' Y' win s n).1 (regI n X Y m X' Y' win s n).2 0 w) := by
  have HO := Lib.hid (fun i (hi : i < n) => ok_at hok hi)
  have HO' := Lib.hid (fun i (hi : i < m) => ok_at hok' hi)
  have HCh1 := Lib.hid (fun W (h : Cloud W A n X Y V) => rcheck_any A n c1 X Y V W h)
  have HCh2 := Lib.hid (fun W (h : Cloud W B m X' Y' V') => rcheck_any B m c2 X' Y' V' W h)
  rw [hok] at HCh1
  rw [hok'] at HCh2
  have HM : Hid (∀ a b W, -2000 ≤ a → a ≤ 2000 → -2000 ≤ b → b ≤ 2000 → Cloud W A n X Y V → Cloud W B m X' Y' V' → Calls Try.prog 52 #[.slice A n c1, .slice B m c2, sp a b, .int .i64 s] W fun e w' => e = .returned (.int .i64 ((matF n X Y m X' Y' a b s : Nat) : Int)) ∧ Below W.heap.size W w') := Lib.hid (fun a b W a1 a2 b1 b2 h h' => by
    have hh : matOk n X Y V m X' Y' V' a b s = true := by
      unfold matOk nearB
      simp [hok, hok', s0, s1]
      omega
    have := rmatch_any A n c1 X Y V B m c2 X' Y' V' a b s W h h'
    rw [matAny_yes hh] at this
    exact this)
  have HSm := Lib.hid (fun i j => regJ_sml (n := n) (X := X) (Y := Y) (X' := X') (Y' := Y') (s := s) hm w1 (regI_sml (n := n) (X := X) (Y := Y) (X' := X') (Y' := Y') (s := s) hm w1 i) i j)
  have HMat := Lib.hid (matF_le n X Y m X' Y')
  have HC1 := Lib.hid hc1
  have HC2 := Lib.hid hc2
  have y1 : ¬ win < 0 := by omega
  have y2 : ¬ 2000 < win := by omega
  have y3 : ¬ s < 0 := by omega
  have y4 : ¬ 2000 < s := by omega
  have y5 : ¬ (60 : Int) < (n : Int) := by omega
  have y6 : ¬ (60 : Int) < (m : Int) := by omega
  clear hok hok' hc1 hc2
  go_enter Try.func50, Try.ntmps50
  go_upto_region 1 with fail
  have hb8 := BoxAt.new w 24 #[.int .i64 0, .int .i64 0]
  have hB : Below w.heap.size w (w.alloc (.cells #[.int .i64 0, .int .i64 0] 24)) := (Below.refl _ w).alloc (Nat.le_refl _) _
  obtain ⟨L8, hL8⟩ : ∃ z, z = w.heap.size := ⟨_, rfl⟩
  rw [← hL8] at hb8 ⊢
  have hl8 : w.heap.size ≤ L8 := by omega
  clear hL8
  have HB8 := Lib.hid hb8
  clear hb8
  generalize w.alloc (.cells #[.int .i64 0, .int .i64 0] 24) = wx at *
  go_upto_region 12 with (first
    | (go_at_call 23; (with_reducible refine (HCh1.out _ (HC1.out.below hB)).mono ?_); rintro e w2 ⟨rfl, hb2⟩; replace hB := below_step hB hb2; have HB82 := Lib.hid (box_step HB8.out hb2))
    | (go_at_call 23; (with_reducible refine (HCh2.out _ (HC2.out.below hB)).mono ?_); rintro e w3 ⟨rfl, hb3⟩; replace hB := below_step hB hb3; have HB83 := Lib.hid (box_step HB82.out hb3))
    | (go_at_call 52; (with_reducible refine (HM.out 0 0 _ (by omega) (by omega) (by omega) (by omega) (HC1.out.below hB) (HC2.out.below hB)).mono ?_); rintro e w4 ⟨rfl, hb4⟩; replace hB := below_step hB hb4; have HB84 := Lib.hid (box_step HB83.out hb4)))
  have hb13 := BoxAt.new w4 24 #[.int .i64 0, .int .i64 0]
  have hb5 : Below w4.heap.size w4 (w4.alloc (.cells #[.int .i64 0, .int .i64 0] 24)) := (Below.refl _ w4).alloc (Nat.le_refl _) _
  obtain ⟨L13, hL13⟩ : ∃ z, z = w4.heap.size := ⟨_, rfl⟩
  rw [← hL13] at hb13 ⊢
  have HB85 := Lib.hid (box_step HB84.out hb5)
  have h813 : L8 ≠ L13 := by have := HB84.out.lt; omega
  have hl13 : w.heap.size ≤ L13 := by have := hB.size; omega
  have HB5 := Lib.hid (below_step hB hb5)
  have HB13 := Lib.hid hb13
  clear hB hb2 hb3 hb4 hb5 hb13 hL13 HB82 HB83 HB84 HB8 HCh1 HCh2
  generalize w4.alloc (.cells #[.int .i64 0, .int .i64 0] 24) = w5 at *
  have I : ∃ (i : Nat) (st : Pt × Nat), i ≤ n ∧ (Value.int .i64 ((matF n X Y m X' Y' 0 0 s : Nat) : Int)) = .int .i64 ((st.2 : Nat) : Int) ∧ (Value.int .i64 0) = .int .i64 i ∧ Hid (st = regI n X Y m X' Y' win s i) ∧ Hid (BoxAt w5 L8 24 #[.int .i64 0, .int .i64 0]) ∧ Hid (BoxAt w5 L13 24 #[.int .i64 st.1.1, .int .i64 st.1.2]) ∧ Hid (Below w.heap.size w w5) :=
    ⟨0, ((0, 0), matF n X Y m X' Y' 0 0 s), Nat.zero_le _, rfl, rfl, Lib.hid rfl, HB85, HB13, HB5⟩
  clear HB85 HB13 HB5
  go_wp2
  go_loopw [14, 15] (fun tv iv wr => ∃ (i : Nat) (st : Pt × Nat), i ≤ n ∧ tv = .int .i64 ((st.2 : Nat) : Int) ∧ iv = .int .i64 i ∧ Hid (st = regI n X Y m X' Y' win s i) ∧ Hid (BoxAt wr L8 24 #[.int .i64 0, .int .i64 0]) ∧ Hid (BoxAt wr L13 24 #[.int .i64 st.1.1, .int .i64 st.1.2]) ∧ Hid (Below w.heap.size w wr)) (fun _ iv _ => n - (intOf iv).toNat)
  case atStart => exact I
  case round =>
    clear I
    obtain ⟨i, st0, hi, rfl, rfl, HS, HB8, HB13, HB⟩ := hrel
    by_cases hlt : i < n
    · have i0 : (0 : Int) ≤ (i : Int) := Int.natCast_nonneg _
      have i1 : (i : Int) < (n : Int) := by omega
      obtain ⟨b1, o1, e1, hp1⟩ := HC1.out (by omega)
      subst e1
      have HP1 := Lib.hid hp1
      have q1 := hp1.lt (by omega)
      have HS0 : Hid (regI n X Y m X' Y' win s (i + 1) = regJ n X Y m X' Y' win s st0 i m) := Lib.hid (by rw [regI, HS.out])
      have HSj : Hid (∀ j, smlP (regJ n X Y m X' Y' win s st0 i j)) := Lib.hid (fun j => by rw [HS.out]; exact HSm.out i j)
      have I : ∃ (j : Nat) (st : Pt × Nat), j ≤ m ∧ (Value.int .i64 ((st0.2 : Nat) : Int)) = .int .i64 ((st.2 : Nat) : Int) ∧ (Value.int .i64 0) = .int .i64 j ∧ Hid (st = regJ n X Y m X' Y' win s st0 i j) ∧ Hid (BoxAt wr L8 24 #[.int .i64 0, .int .i64 0]) ∧ Hid (BoxAt wr L13 24 #[.int .i64 st.1.1, .int .i64 st.1.2]) ∧ Hid (Below w.heap.size w wr) :=
        ⟨0, st0, Nat.zero_le _, rfl, rfl, Lib.hid rfl, HB8, HB13, HB⟩
      clear HS HB8 HB13 HB hp1
      have HI := Lib.hid I
      clear I
      go_wp2
      obtain ⟨wo, rfl⟩ : ∃ x : World, x = wr := ⟨_, rfl⟩
      go_loopw [14, 16] (fun tv jv wr => ∃ (j : Nat) (st : Pt × Nat), j ≤ m ∧ tv = .int .i64 ((st.2 : Nat) : Int) ∧ jv = .int .i64 j ∧ Hid (st = regJ n X Y m X' Y' win s st0 i j) ∧ Hid (BoxAt wr L8 24 #[.int .i64 0, .int .i64 0]) ∧ Hid (BoxAt wr L13 24 #[.int .i64 st.1.1, .int .i64 st.1.2]) ∧ Hid (Below w.heap.size w wr)) (fun _ jv _ => m - (intOf jv).toNat)
      case atStart => exact HI.out
      case round =>
        clear HI
        obtain ⟨j, st, hj, rfl, rfl, HS, HB8, HB13, HB⟩ := hrel
        by_cases hltj : j < m
        · have j0 : (0 : Int) ≤ (j : Int) := Int.natCast_nonneg _
          have j1 : (j : Int) < (m : Int) := by omega
          obtain ⟨b2, o2, e2, hp2⟩ := HC2.out (by omega)
          subst e2
          have HP2 := Lib.hid hp2
          have q2 := hp2.lt (by omega)
          have l1 : b1 < wr.heap.size := Nat.lt_of_lt_of_le q1 HB.out.size
          have l2 : b2 < wr.heap.size := Nat.lt_of_lt_of_le q2 HB.out.size
          have HPQ : Hid (∀ W, Below wr.heap.size wr W → W.cell? ⟨b1, o1 + i * 3, none⟩ = some (.int .i64 (X i)) ∧ W.cell? ⟨b1, o1 + i * 3 + 1, none⟩ = some (.int .i64 (Y i)) ∧ W.cell? ⟨b1, o1 + i * 3 + 2, none⟩ = some (.int .i64 (V i)) ∧ W.cell? ⟨b2, o2 + j * 3, none⟩ = some (.int .i64 (X' j)) ∧ W.cell? ⟨b2, o2 + j * 3 + 1, none⟩ = some (.int .i64 (Y' j)) ∧ W.cell? ⟨b2, o2 + j * 3 + 2, none⟩ = some (.int .i64 (V' j))) := Lib.hid (fun W hW => by
            obtain ⟨a1, a2, a3⟩ := (HP1.out.below (below_step HB.out hW) q1) i hlt
            obtain ⟨a4, a5, a6⟩ := (HP2.out.below (below_step HB.out hW) q2) j hltj
            exact ⟨a1, a2, a3, a4, a5, a6⟩)
          obtain ⟨p0, p1, p2, p3, p4, p5⟩ := HPQ.out wr (Below.refl _ _)
          have HMi := Lib.hid (fun W => rminus_any (X i) (Y i) (X' j) (Y' j) W (HO.out i hlt).1 (HO.out i hlt).2.1 (HO'.out j hltj).1 (HO'.out j hltj).2.1)
          have hbi := (HO.out i hlt).1
          have hbi2 := (HO.out i hlt).2.1
          have hbj := (HO'.out j hltj).1
          have hbj2 := (HO'.out j hltj).2.1
          unfold okc at hbi hbi2 hbj hbj2
          have HNext : Hid (regJ n X Y m X' Y' win s st0 i (j + 1) = regStep n X Y m X' Y' win s st (X i - X' j, Y i - Y' j)) := Lib.hid (by rw [regJ, HS.out])
          have hsm := HSj.out j
          rw [← HS.out] at hsm
          have HSML := Lib.hid hsm
          obtain ⟨p, hp⟩ : ∃ p, p = X i - X' j := ⟨_, rfl⟩
          obtain ⟨q, hq⟩ : ∃ q, q = Y i - Y' j := ⟨_, rfl⟩
          rw [← hp, ← hq] at HMi HNext
          have pq : (-33554432 ≤ p ∧ p ≤ 33554432) ∧ (-33554432 ≤ q ∧ q ≤ 33554432) := by omega
          obtain ⟨⟨pa, pb⟩, qa, qb⟩ := pq
          clear hp2 hbi hbi2 hbj hbj2 hp hq hsm
          go_upto_region 18 with fail
          go_cut [17] from 73 to 83 (fun v wz => ∃ g, v = .pointer (some ⟨g, 0, none⟩) ∧ BoxAt wz g 24 #[.int .i64 p, .int .i64 q] ∧ Below wr.heap.size wr wz)
          case first =>
            go_region_held3 (fun W => W.cell? ⟨b1, o1 + i * 3, none⟩ = some (.int .i64 (X i)) ∧ W.cell? ⟨b1, o1 + i * 3 + 1, none⟩ = some (.int .i64 (Y i)) ∧ W.cell? ⟨b1, o1 + i * 3 + 2, none⟩ = some (.int .i64 (V i)) ∧ W.cell? ⟨b2, o2 + j * 3, none⟩ = some (.int .i64 (X' j)) ∧ W.cell? ⟨b2, o2 + j * 3 + 1, none⟩ = some (.int .i64 (Y' j)) ∧ W.cell? ⟨b2, o2 + j * 3 + 2, none⟩ = some (.int .i64 (V' j)))
              (first | (with_reducible refine HPQ.out _ ?_; (repeat (first | (with_reducible exact Below.refl _ _) | ((with_reducible refine bset ?_ ?_ _); (first | exact Nat.le_refl _ | omega | (simp; omega) | simp)) | ((with_reducible refine balloc ?_ ?_ _); (first | exact Nat.le_refl _ | omega | (simp; omega) | simp)) | (with_reducible refine Below.drew ?_) | (with_reducible refine below_step ?_ hb5) | (with_reducible refine below_step ?_ hb4) | (with_reducible refine below_step ?_ hb3)))) | go_keep)
              (first
                | (go_at_call 63; (with_reducible refine (rspot_any (X i) (Y i) (V i) _).mono ?_); rintro e w3 ⟨rfl, hb3⟩; have hz3 := hb3.size; (try simp at hz3); obtain ⟨hc3, hf3⟩ := bcell hb3; (try have : wr.heap.size < w4.heap.size := by omega); (try have : wr.heap.size < w3.heap.size := by omega); (try have : w4.heap.size < w3.heap.size := by omega))
                | (go_at_call 63; (with_reducible refine (rspot_any (X' j) (Y' j) (V' j) _).mono ?_); rintro e w4 ⟨rfl, hb4⟩; have hz4 := hb4.size; (try simp at hz4); obtain ⟨hc4, hf4⟩ := bcell hb4; (try have : wr.heap.size < w3.heap.size := by omega); (try have : wr.heap.size < w4.heap.size := by omega); (try have : w3.heap.size < w4.heap.size := by omega))
                | (go_at_call 98; (with_reducible refine (HMi.out _).mono ?_); rintro e w5 ⟨rfl, hb5⟩; have hz5 := hb5.size; (try simp at hz5); obtain ⟨hc5, hf5⟩ := bcell hb5; (try have : wr.heap.size < w3.heap.size := by omega); (try have : wr.heap.size < w4.heap.size := by omega); (try have : wr.heap.size < w5.heap.size := by omega); (try have : w3.heap.size < w4.heap.size := by omega); (try have : w3.heap.size < w5.heap.size := by omega); (try have : w4.heap.size < w5.heap.size := by omega)))
            all_goals go_wp2
            all_goals go_meet
            all_goals (refine ⟨_, rfl, ?_, ?_⟩)
            all_goals (repeat (first
              | (with_reducible exact BoxAt.new _ _ _)
              | (with_reducible refine bset2 (x := .int .i64 0) (y := .int .i64 0) ?_)
              | (with_reducible refine box_step ?_ hb5)
              | (with_reducible refine box_step ?_ hb4)
              | (with_reducible refine box_step ?_ hb3)
              | (with_reducible refine BoxAt.drew ?_)
              | (with_reducible exact Below.refl _ _)
              | ((with_reducible refine bset ?_ ?_ _); (first | exact Nat.le_refl _ | omega | (simp; omega) | simp))
              | ((with_reducible refine balloc ?_ ?_ _); (first | exact Nat.le_refl _ | omega | (simp; omega) | simp))
              | (with_reducible refine Below.drew ?_)
              | (with_reducible refine below_step ?_ hb5)
              | (with_reducible refine below_step ?_ hb4)
              | (with_reducible refine below_step ?_ hb3)))
          case rest =>
            obtain ⟨wd, rfl⟩ : ∃ x : World, x = wc := ⟨_, rfl⟩
            obtain ⟨g, rfl, hbg, hbw⟩ := hcut
            have HBd := Lib.hid (below_step HB.out hbw)
            have HBG := Lib.hid hbg
            have HB8d := Lib.hid (box_step HB8.out hbw)
            have HB13d := Lib.hid (box_step HB13.out hbw)
            have g0 : wd.cell? ⟨g, 0, none⟩ = some (.int .i64 p) := hbg.cell 0
            have g1 : wd.cell? ⟨g, 1, none⟩ = some (.int .i64 q) := hbg.cell 1
            have lg := hbg.lt
            have wneg : IntKind.i64.wrap (-win) = -win := IntWalk.i64_in _ (by omega)
            clear p0 p1 p2 p3 p4 p5 HPQ HMi HB HB8 HB13 hbg hbw l1 l2 HP2
            by_cases u1 : p < -win
            · have HOut : Hid (inW (p, q) win = false) := Lib.hid (by unfold inW; simp; omega)
              have HN : Hid (st = regJ n X Y m X' Y' win s st0 i (j + 1)) := Lib.hid (by rw [HNext.out, regStep_out HOut.out])
              go_wp2
              go_roundw
              case rel => exact ⟨j + 1, st, by omega, rfl, by go_num, HN, HB8d, HB13d, HBd⟩
              case measure => simp [intOf]; omega
            · by_cases u2 : win < p
              · have HOut : Hid (inW (p, q) win = false) := Lib.hid (by unfold inW; simp; omega)
                have HN : Hid (st = regJ n X Y m X' Y' win s st0 i (j + 1)) := Lib.hid (by rw [HNext.out, regStep_out HOut.out])
                go_wp2
                go_roundw
                case rel => exact ⟨j + 1, st, by omega, rfl, by go_num, HN, HB8d, HB13d, HBd⟩
                case measure => simp [intOf]; omega
              · by_cases u3 : q < -win
                · have HOut : Hid (inW (p, q) win = false) := Lib.hid (by unfold inW; simp; omega)
                  have HN : Hid (st = regJ n X Y m X' Y' win s st0 i (j + 1)) := Lib.hid (by rw [HNext.out, regStep_out HOut.out])
                  go_wp2
                  go_roundw
                  case rel => exact ⟨j + 1, st, by omega, rfl, by go_num, HN, HB8d, HB13d, HBd⟩
                  case measure => simp [intOf]; omega
                · by_cases u4 : win < q
                  · have HOut : Hid (inW (p, q) win = false) := Lib.hid (by unfold inW; simp; omega)
                    have HN : Hid (st = regJ n X Y m X' Y' win s st0 i (j + 1)) := Lib.hid (by rw [HNext.out, regStep_out HOut.out])
                    go_wp2
                    go_roundw
                    case rel => exact ⟨j + 1, st, by omega, rfl, by go_num, HN, HB8d, HB13d, HBd⟩
                    case measure => simp [intOf]; omega
                  · have HIn : Hid (inW (p, q) win = true) := Lib.hid (by unfold inW; simp; omega)
                    obtain ⟨c, hc⟩ : ∃ c, c = matF n X Y m X' Y' p q s := ⟨_, rfl⟩
                    have HNx : Hid (regJ n X Y m X' Y' win s st0 i (j + 1) = if betB (p, q) c st then ((p, q), c) else st) := Lib.hid (by rw [HNext.out, regStep_in HIn.out, hc])
                    have bp : (-2000 ≤ p ∧ p ≤ 2000) ∧ (-2000 ≤ q ∧ q ≤ 2000) := by omega
                    have HMpq : Hid (∀ W, Below w.heap.size w W → Calls Try.prog 52 #[.slice (some ⟨b1, o1, none⟩) n c1, .slice (some ⟨b2, o2, none⟩) m c2, sp p q, .int .i64 s] W fun e w' => e = .returned (.int .i64 ((c : Nat) : Int)) ∧ Below W.heap.size W w') := Lib.hid (fun W hW => by
                      subst hc
                      exact HM.out p q W bp.1.1 bp.1.2 bp.2.1 bp.2.2 (HC1.out.below hW) (HC2.out.below hW))
                    have hcm : c ≤ 60 := by rw [hc]; exact Nat.le_trans (HMat.out p q s) hm
                    have HBd0 := HBd.out
                    clear hc HNext HIn
                    obtain ⟨⟨bx, bz⟩, mo⟩ := st
                    have hs1 : (-2000 ≤ bx ∧ bx ≤ 2000) ∧ (-2000 ≤ bz ∧ bz ≤ 2000) ∧ mo ≤ 1000 := HSML.out
                    have HS1 := Lib.hid (fun W => rsize_any p q W (by omega) (by omega) (by omega) (by omega))
                    have HS2 := Lib.hid (fun W => rsize_any bx bz W (by omega) (by omega) (by omega) (by omega))
                    go_upto_region 20 with fail
                    clear u1 u2 u3 u4 wneg
                    go_upto_region 21 with (first | (go_at_call 52; (with_reducible refine (HMpq.out _ HBd0).mono ?_); rintro e we ⟨rfl, hbe⟩))
                    have HBe := Lib.hid (below_step HBd.out hbe)
                    have hbg := box_step HBG.out hbe
                    have HBGe := Lib.hid hbg
                    have HB8e := Lib.hid (box_step HB8d.out hbe)
                    have hb13 := box_step HB13d.out hbe
                    have HB13e := Lib.hid hb13
                    have g0 : we.cell? ⟨g, 0, none⟩ = some (.int .i64 p) := hbg.cell 0
                    have g1 : we.cell? ⟨g, 1, none⟩ = some (.int .i64 q) := hbg.cell 1
                    have t0 : we.cell? ⟨L13, 0, none⟩ = some (.int .i64 bx) := hb13.cell 0
                    have t1 : we.cell? ⟨L13, 1, none⟩ = some (.int .i64 bz) := hb13.cell 1
                    have lg := hbg.lt
                    have l13 := hb13.lt
                    clear hbg hb13 hbe HB8d HB13d HBG HBd HBd0 HMpq HM
                    go_cut [139] from 113 to 139 (fun v w' => ∃ bb : Bool, v = .bool bb ∧ Hid (betB (p, q) c ((bx, bz), mo) = bb) ∧ Below we.heap.size we w')
                    case first =>
                      have f0 : ∀ n os, (grd we n os).cell? ⟨g, 0, none⟩ = some (.int .i64 p) := cell_grd g0
                      have f1 : ∀ n os, (grd we n os).cell? ⟨g, 1, none⟩ = some (.int .i64 q) := cell_grd g1
                      have f2 : ∀ n os, (grd we n os).cell? ⟨L13, 0, none⟩ = some (.int .i64 bx) := cell_grd t0
                      have f3 : ∀ n os, (grd we n os).cell? ⟨L13, 1, none⟩ = some (.int .i64 bz) := cell_grd t1
                      clear g0 g1 t0 t1
                      by_cases k1 : mo < c
                      · have HV := Lib.hid (betB_lt (p := (p, q)) (st := ((bx, bz), mo)) k1)
                        have k2 : (mo : Int) < (c : Int) := by omega
                        refine wp_region_quiet_grd (by kernel_rfl) (by kernel_rfl) ?_
                        repeat (go_big_quiet_step (first
                          | (go_at_call 99; with_reducible exact Calls.grd_of (HS1.out _))
                          | (go_at_call 99; with_reducible exact Calls.grd_of (HS2.out _))
                          | (go_at_call 85; with_reducible exact Calls.grd_of (HBf.out _))))
                        refine wpQuiet_nil ?_
                        intro _ hw'
                        obtain ⟨⟨nq, osq⟩, rfl⟩ := hw'
                        have hBq := below_grd we nq osq
                        generalize grd we nq osq = wq at *
                        go_wp2
                        go_meet
                        exact ⟨_, rfl, HV, hBq⟩
                      · have k2 : decide ((mo : Int) < (c : Int)) = false := decide_eq_false (by omega)
                        by_cases k3 : c = mo
                        · subst k3
                          have k2' : decide ((c : Int) < (c : Int)) = false := k2
                          have HV0 := Lib.hid (betB_eq (p := (p, q)) (b := (bx, bz)) (c := c))
                          obtain ⟨S, hS⟩ : ∃ S, S = stpF (p, q) := ⟨_, rfl⟩
                          obtain ⟨T, hT⟩ : ∃ T, T = stpF (bx, bz) := ⟨_, rfl⟩
                          rw [← hS] at HS1 HV0
                          rw [← hT] at HS2 HV0
                          clear hS hT
                          rcases Int.lt_trichotomy S T with k4 | k4 | k4
                          · have HV : Hid (betB (p, q) c ((bx, bz), c) = true) := Lib.hid (by rw [HV0.out]; simp [k4])
                            refine wp_region_quiet_grd (by kernel_rfl) (by kernel_rfl) ?_
                            repeat (go_big_quiet_step (first
                              | (go_at_call 99; with_reducible exact Calls.grd_of (HS1.out _))
                              | (go_at_call 99; with_reducible exact Calls.grd_of (HS2.out _))
                              | (go_at_call 85; with_reducible exact Calls.grd_of (HBf.out _))))
                            refine wpQuiet_nil ?_
                            intro _ hw'
                            obtain ⟨⟨nq, osq⟩, rfl⟩ := hw'
                            have hBq := below_grd we nq osq
                            generalize grd we nq osq = wq at *
                            go_wp2
                            go_meet
                            exact ⟨_, rfl, HV, hBq⟩
                          · subst k4
                            have k5 : decide (S < S) = false := decide_eq_false (by omega)
                            obtain ⟨r, hr⟩ : ∃ r, befB (p, q) (bx, bz) = r := ⟨_, rfl⟩
                            have HBf := Lib.hid (fun W => before_any p q bx bz r (Lib.hid hr) W)
                            have HV : Hid (betB (p, q) c ((bx, bz), c) = r) := Lib.hid (by rw [HV0.out, hr]; simp)
                            clear hr
                            refine wp_region_quiet_grd (by kernel_rfl) (by kernel_rfl) ?_
                            repeat (go_big_quiet_step (first
                              | (go_at_call 99; with_reducible exact Calls.grd_of (HS1.out _))
                              | (go_at_call 99; with_reducible exact Calls.grd_of (HS2.out _))
                              | (go_at_call 85; with_reducible exact Calls.grd_of (HBf.out _))))
                            refine wpQuiet_nil ?_
                            intro _ hw'
                            obtain ⟨⟨nq, osq⟩, rfl⟩ := hw'
                            have hBq := below_grd we nq osq
                            generalize grd we nq osq = wq at *
                            go_wp2
                            go_meet
                            exact ⟨_, rfl, HV, hBq⟩
                          · have k5 : decide (S < T) = false := decide_eq_false (by omega)
                            have k6 : (S == T) = false := by simp; omega
                            have HV : Hid (betB (p, q) c ((bx, bz), c) = false) := Lib.hid (by rw [HV0.out, k5, decide_eq_false (show ¬ S = T by omega)]; rfl)
                            refine wp_region_quiet_grd (by kernel_rfl) (by kernel_rfl) ?_
                            repeat (go_big_quiet_step (first
                              | (go_at_call 99; with_reducible exact Calls.grd_of (HS1.out _))
                              | (go_at_call 99; with_reducible exact Calls.grd_of (HS2.out _))
                              | (go_at_call 85; with_reducible exact Calls.grd_of (HBf.out _))))
                            refine wpQuiet_nil ?_
                            intro _ hw'
                            obtain ⟨⟨nq, osq⟩, rfl⟩ := hw'
                            have hBq := below_grd we nq osq
                            generalize grd we nq osq = wq at *
                            go_wp2
                            go_meet
                            exact ⟨_, rfl, HV, hBq⟩
                        · have k4 : ((c : Int) == (mo : Int)) = false := by simp; omega
                          have HV := Lib.hid (betB_ne (p := (p, q)) (st := ((bx, bz), mo)) k1 k3)
                          refine wp_region_quiet_grd (by kernel_rfl) (by kernel_rfl) ?_
                          repeat (go_big_quiet_step (first
                            | (go_at_call 99; with_reducible exact Calls.grd_of (HS1.out _))
                            | (go_at_call 99; with_reducible exact Calls.grd_of (HS2.out _))
                            | (go_at_call 85; with_reducible exact Calls.grd_of (HBf.out _))))
                          refine wpQuiet_nil ?_
                          intro _ hw'
                          obtain ⟨⟨nq, osq⟩, rfl⟩ := hw'
                          have hBq := below_grd we nq osq
                          generalize grd we nq osq = wq at *
                          go_wp2
                          go_meet
                          exact ⟨_, rfl, HV, hBq⟩
                    case rest =>
                      obtain ⟨wf, rfl⟩ : ∃ x : World, x = wc := ⟨_, rfl⟩
                      obtain ⟨bb, rfl, HBB, hbf⟩ := hcut
                      have HBf := Lib.hid (below_step HBe.out hbf)
                      have HB8f := Lib.hid (box_step HB8e.out hbf)
                      have hb13 := box_step HB13e.out hbf
                      have HB13f := Lib.hid hb13
                      have hbg := box_step HBGe.out hbf
                      have g0 : wf.cell? ⟨g, 0, none⟩ = some (.int .i64 p) := hbg.cell 0
                      have g1 : wf.cell? ⟨g, 1, none⟩ = some (.int .i64 q) := hbg.cell 1
                      have t0 : wf.cell? ⟨L13, 0, none⟩ = some (.int .i64 bx) := hb13.cell 0
                      have t1 : wf.cell? ⟨L13, 1, none⟩ = some (.int .i64 bz) := hb13.cell 1
                      have v0 : wf.frozen? ⟨L13, 0, none⟩ = false := hb13.frozen 0
                      have v1 : wf.frozen? ⟨L13, 1, none⟩ = false := hb13.frozen 1
                      have lg := hbg.lt
                      have l13 := hb13.lt
                      clear hb13 hbg hbf HB8e HB13e HBGe HBe HS1 HS2
                      cases bb with
                      | true =>
                        have HN : Hid (((p, q), c) = regJ n X Y m X' Y' win s st0 i (j + 1)) := Lib.hid (by rw [HNx.out, HBB.out]; rfl)
                        have HB13z := Lib.hid (bset2 (a := .int .i64 p) (b := .int .i64 q) HB13f.out)
                        have HB8z := Lib.hid (bother2 (a := .int .i64 p) (b := .int .i64 q) HB8f.out h813)
                        have HBz := Lib.hid (bbel2 HBf.out hl13 (.int .i64 p) (.int .i64 q))
                        go_wp2
                        go_roundw
                        case rel => exact ⟨j + 1, ((p, q), c), by omega, rfl, by go_num, HN, HB8z, HB13z, HBz⟩
                        case measure => simp [intOf]; omega
                      | false =>
                        have HN : Hid (((bx, bz), mo) = regJ n X Y m X' Y' win s st0 i (j + 1)) := Lib.hid (by rw [HNx.out, HBB.out]; rfl)
                        go_wp2
                        go_roundw
                        case rel => exact ⟨j + 1, ((bx, bz), mo), by omega, rfl, by go_num, HN, HB8f, HB13f, HBf⟩
                        case measure => simp [intOf]; omega
        · obtain rfl : j = m := by omega
          have j1 : ¬ (j : Int) < (j : Int) := by omega
          have HN : Hid (st = regI n X Y j X' Y' win s (i + 1)) := Lib.hid (by rw [HS0.out, HS.out])
          go_wp2
          go_roundw
          case rel => exact ⟨i + 1, st, by omega, rfl, by go_num, HN, HB8, HB13, HB⟩
          case measure => simp [intOf]; omega
    · obtain rfl : i = n := by omega
      have i1 : ¬ (i : Int) < (i : Int) := by omega
      obtain ⟨⟨bx, bz⟩, mo⟩ := st0
      have h8 := HB8.out
      have h13 := HB13.out
      have t0 : wr.cell? ⟨L13, 0, none⟩ = some (.int .i64 bx) := h13.cell 0
      have t1 : wr.cell? ⟨L13, 1, none⟩ = some (.int .i64 bz) := h13.cell 1
      have v0 : wr.frozen? ⟨L8, 0, none⟩ = false := h8.frozen 0
      have v1 : wr.frozen? ⟨L8, 1, none⟩ = false := h8.frozen 1
      have s0' : wr.cell? ⟨L8, 0, none⟩ = some (.int .i64 0) := h8.cell 0
      have s1' : wr.cell? ⟨L8, 1, none⟩ = some (.int .i64 0) := h8.cell 1
      have l13 := h13.lt
      have l8 := h8.lt
      have HB8z := Lib.hid (bset2 (a := .int .i64 bx) (b := .int .i64 bz) h8)
      have HBz := Lib.hid (bbel2 HB.out hl8 (.int .i64 bx) (.int .i64 bz))
      clear h8 h13 HB8 HB13 HB
      go_wp2
      have z0 := HB8z.out.cell 0
      have z1 := HB8z.out.cell 1
      generalize ((wr.setCell ⟨L8, 0, none⟩ (.int .i64 bx)).setCell ⟨L8, 1, none⟩ (.int .i64 bz)) = wz at *
      replace z0 : wz.cell? ⟨L8, 0, none⟩ = some (.int .i64 bx) := z0
      replace z1 : wz.cell? ⟨L8, 1, none⟩ = some (.int .i64 bz) := z1
      refine bodyPost_ret (v := .tuple #[.agg #[.int .i64 bx, .int .i64 bz], .int .i64 ((mo : Nat) : Int), .int .i64 0]) (by simp [results, Try.results50, go_sem, z0, z1]) rfl ⟨?_, HBz.out⟩
      rw [← HS.out]
end Go.Proofs.Ytaehfildhmljeaa

namespace Go.Proofs.Ytaehfildhmljeaa
open Go.RowKit Go.Shelf

section
variable {n : Nat} {X Y V : Nat → Int} {m : Nat} {X' Y' V' : Nat → Int} {win s : Int}
theorem regE_a (h : chkF n X Y V ≠ 0) : regE n X Y V m X' Y' V' win s = chkF n X Y V := by unfold regE; rw [if_pos h]
theorem regE_b (h : chkF n X Y V = 0) (h' : chkF m X' Y' V' ≠ 0) : regE n X Y V m X' Y' V' win s = chkF m X' Y' V' := by unfold regE; rw [if_neg (fun k => k h), if_pos h']
theorem regE_c (h : chkF n X Y V = 0) (h' : chkF m X' Y' V' = 0) (k : 60 < n ∨ 60 < m) : regE n X Y V m X' Y' V' win s = 8 := by unfold regE; rw [if_neg (fun k => k h), if_neg (fun k => k h'), if_pos k]
theorem regE_d (h : chkF n X Y V = 0) (h' : chkF m X' Y' V' = 0) (k : ¬ (60 < n ∨ 60 < m)) (u : ¬ (0 ≤ win ∧ win ≤ 2000 ∧ 0 ≤ s ∧ s ≤ 2000)) : regE n X Y V m X' Y' V' win s = 2 := by unfold regE; rw [if_neg (fun k => k h), if_neg (fun k => k h'), if_neg k, if_neg u]
theorem regE_e (h : chkF n X Y V = 0) (h' : chkF m X' Y' V' = 0) (k : ¬ (60 < n ∨ 60 < m)) (u : 0 ≤ win ∧ win ≤ 2000 ∧ 0 ≤ s ∧ s ≤ 2000) : regE n X Y V m X' Y' V' win s = 0 := by unfold regE; rw [if_neg (fun k => k h), if_neg (fun k => k h'), if_neg k, if_pos u]
end

set_option maxRecDepth 100000 in
set_option maxHeartbeats 8000000 in
theorem ckreg_any (A : Option Addr) (n c1 : Nat) (X Y V : Nat → Int) (B : Option Addr) (m c2 : Nat) (X' Y' V' : Nat → Int) (win s : Int) (w : World) (hc1 : Cloud w A n X Y V) (hc2 : Cloud w B m X' Y' V') :
    Calls Try.prog 94 #[.slice A n c1, .slice B m c2, .int .i64 win, .int .i64 s] w fun e w' => e = .returned (.int .i64 (regE n X Y V m X' Y' V' win s)) ∧ Below w.heap.size w w' := by
  have HC1 := Lib.hid hc1
  have HC2 := Lib.hid hc2
  have HCh1 := Lib.hid (fun W (h : Cloud W A n X Y V) => check_any A n c1 X Y V W h)
  have HCh2 := Lib.hid (fun W (h : Cloud W B m X' Y' V') => check_any B m c2 X' Y' V' W h)
  by_cases h1 : chkF n X Y V = 0
  · by_cases h2 : chkF m X' Y' V' = 0
    · rw [h1] at HCh1
      rw [h2] at HCh2
      by_cases k1 : 60 < n
      · have k2 : (60 : Int) < (n : Int) := by omega
        have HE := Lib.hid (regE_c (win := win) (s := s) h1 h2 (Or.inl k1))
        clear hc1 hc2
        go_enter Try.func94, Try.ntmps94
        have hBq := Below.refl w.heap.size w
        go_wp2_with (first
          | (go_at_call 22; (with_reducible refine (HCh1.out _ HC1.out).mono ?_); rintro e w1 ⟨rfl, hx1⟩; replace hBq := below_step hBq hx1; have HC2b := Lib.hid (HC2.out.below hx1))
          | (go_at_call 22; (with_reducible refine (HCh2.out _ HC2b.out).mono ?_); rintro e w2 ⟨rfl, hx2⟩; replace hBq := below_step hBq hx2))
        go_ret
        exact ⟨by rw [HE.out]; rfl, hBq⟩
      · have k2 : ¬ (60 : Int) < (n : Int) := by omega
        by_cases k3 : 60 < m
        · have k4 : (60 : Int) < (m : Int) := by omega
          have HE := Lib.hid (regE_c (win := win) (s := s) h1 h2 (Or.inr k3))
          clear hc1 hc2
          go_enter Try.func94, Try.ntmps94
          have hBq := Below.refl w.heap.size w
          go_wp2_with (first
            | (go_at_call 22; (with_reducible refine (HCh1.out _ HC1.out).mono ?_); rintro e w1 ⟨rfl, hx1⟩; replace hBq := below_step hBq hx1; have HC2b := Lib.hid (HC2.out.below hx1))
            | (go_at_call 22; (with_reducible refine (HCh2.out _ HC2b.out).mono ?_); rintro e w2 ⟨rfl, hx2⟩; replace hBq := below_step hBq hx2))
          go_ret
          exact ⟨by rw [HE.out]; rfl, hBq⟩
        · have k4 : ¬ (60 : Int) < (m : Int) := by omega
          by_cases u1 : 0 ≤ win ∧ win ≤ 2000
          · have HW1 : Hid (∀ W, Calls Try.prog 100 #[.int .i64 win] W fun e w' => e = .returned (.bool true) ∧ w' = W) := Lib.hid (fun W => vwin_any win true (by simp [u1]) W)
            by_cases u2 : 0 ≤ s ∧ s ≤ 2000
            · have HW2 : Hid (∀ W, Calls Try.prog 100 #[.int .i64 s] W fun e w' => e = .returned (.bool true) ∧ w' = W) := Lib.hid (fun W => vwin_any s true (by simp [u2]) W)
              have HE := Lib.hid (regE_e (win := win) (s := s) h1 h2 (fun h => h.elim k1 k3) ⟨u1.1, u1.2, u2.1, u2.2⟩)
              clear hc1 hc2
              go_enter Try.func94, Try.ntmps94
              have hBq := Below.refl w.heap.size w
              go_wp2_with (first
                | (go_at_call 22; (with_reducible refine (HCh1.out _ HC1.out).mono ?_); rintro e w1 ⟨rfl, hx1⟩; replace hBq := below_step hBq hx1; have HC2b := Lib.hid (HC2.out.below hx1))
                | (go_at_call 22; (with_reducible refine (HCh2.out _ HC2b.out).mono ?_); rintro e w2 ⟨rfl, hx2⟩; replace hBq := below_step hBq hx2)
                | (go_at_call 100; (with_reducible refine (HW1.out _).mono ?_); rintro e w3 ⟨rfl, rfl⟩)
                | (go_at_call 100; (with_reducible refine (HW2.out _).mono ?_); rintro e w4 ⟨rfl, rfl⟩))
              go_ret
              exact ⟨by rw [HE.out]; rfl, hBq⟩
            · have HW2 : Hid (∀ W, Calls Try.prog 100 #[.int .i64 s] W fun e w' => e = .returned (.bool false) ∧ w' = W) := Lib.hid (fun W => vwin_any s false (by simp [u2]) W)
              have HE := Lib.hid (regE_d (win := win) (s := s) h1 h2 (fun h => h.elim k1 k3) (fun h => u2 ⟨h.2.2.1, h.2.2.2⟩))
              clear hc1 hc2
              go_enter Try.func94, Try.ntmps94
              have hBq := Below.refl w.heap.size w
              go_wp2_with (first
                | (go_at_call 22; (with_reducible refine (HCh1.out _ HC1.out).mono ?_); rintro e w1 ⟨rfl, hx1⟩; replace hBq := below_step hBq hx1; have HC2b := Lib.hid (HC2.out.below hx1))
                | (go_at_call 22; (with_reducible refine (HCh2.out _ HC2b.out).mono ?_); rintro e w2 ⟨rfl, hx2⟩; replace hBq := below_step hBq hx2)
                | (go_at_call 100; (with_reducible refine (HW1.out _).mono ?_); rintro e w3 ⟨rfl, rfl⟩)
                | (go_at_call 100; (with_reducible refine (HW2.out _).mono ?_); rintro e w4 ⟨rfl, rfl⟩))
              go_ret
              exact ⟨by rw [HE.out]; rfl, hBq⟩
          · have HW1 : Hid (∀ W, Calls Try.prog 100 #[.int .i64 win] W fun e w' => e = .returned (.bool false) ∧ w' = W) := Lib.hid (fun W => vwin_any win false (by simp [u1]) W)
            have HE := Lib.hid (regE_d (win := win) (s := s) h1 h2 (fun h => h.elim k1 k3) (fun h => u1 ⟨h.1, h.2.1⟩))
            clear hc1 hc2
            go_enter Try.func94, Try.ntmps94
            have hBq := Below.refl w.heap.size w
            go_wp2_with (first
              | (go_at_call 22; (with_reducible refine (HCh1.out _ HC1.out).mono ?_); rintro e w1 ⟨rfl, hx1⟩; replace hBq := below_step hBq hx1; have HC2b := Lib.hid (HC2.out.below hx1))
              | (go_at_call 22; (with_reducible refine (HCh2.out _ HC2b.out).mono ?_); rintro e w2 ⟨rfl, hx2⟩; replace hBq := below_step hBq hx2)
              | (go_at_call 100; (with_reducible refine (HW1.out _).mono ?_); rintro e w3 ⟨rfl, rfl⟩))
            go_ret
            exact ⟨by rw [HE.out]; rfl, hBq⟩
    · rw [h1] at HCh1
      have hE2 := regE_b (win := win) (s := s) h1 h2
      obtain ⟨z, hz⟩ : ∃ z, z = chkF m X' Y' V' := ⟨_, rfl⟩
      rw [← hz] at HCh2 h2 hE2
      clear hz h1
      have HE := Lib.hid (hE2)
      clear hc1 hc2
      go_enter Try.func94, Try.ntmps94
      have hBq := Below.refl w.heap.size w
      go_wp2_with (first
        | (go_at_call 22; (with_reducible refine (HCh1.out _ HC1.out).mono ?_); rintro e w1 ⟨rfl, hx1⟩; replace hBq := below_step hBq hx1; have HC2b := Lib.hid (HC2.out.below hx1))
        | (go_at_call 22; (with_reducible refine (HCh2.out _ HC2b.out).mono ?_); rintro e w2 ⟨rfl, hx2⟩; replace hBq := below_step hBq hx2))
      go_ret
      exact ⟨by rw [HE.out]; rfl, hBq⟩
  · have hE2 := regE_a (m := m) (X' := X') (Y' := Y') (V' := V') (win := win) (s := s) h1
    obtain ⟨z, hz⟩ : ∃ z, z = chkF n X Y V := ⟨_, rfl⟩
    rw [← hz] at HCh1 h1 hE2
    clear hz
    have HE := Lib.hid (hE2)
    clear hc1 hc2
    go_enter Try.func94, Try.ntmps94
    have hBq := Below.refl w.heap.size w
    go_wp2_with (first
      | (go_at_call 22; (with_reducible refine (HCh1.out _ HC1.out).mono ?_); rintro e w1 ⟨rfl, hx1⟩; replace hBq := below_step hBq hx1; have HC2b := Lib.hid (HC2.out.below hx1)))
    go_ret
    exact ⟨by rw [HE.out]; rfl, hBq⟩
set_option maxRecDepth 100000 in
set_option maxHeartbeats 8000000 in
theorem rregister_bad (A : Option Addr) (n c1 : Nat) (X Y V : Nat → Int) (B : Option Addr) (m c2 : Nat) (X' Y' V' : Nat → Int) (win s : Int) (w : World) (hc1 : Cloud w A n X Y V) (hc2 : Cloud w B m X' Y' V') (hne : regE n X Y V m X' Y' V' win s ≠ 0) :
    Calls Try.prog 50 #[.slice A n c1, .slice B m c2, .int .i64 win, .int .i64 s] w fun e w' => e = .returned (.tuple #[sp 0 0, .int .i64 0, .int .i64 (regE n X Y V m X' Y' V' win s)]) ∧ Below w.heap.size w w' := by
  have HC10 := Lib.hid hc1
  have HC20 := Lib.hid hc2
  have HCh1 := Lib.hid (fun W (h : Cloud W A n X Y V) => rcheck_any A n c1 X Y V W h)
  have HCh2 := Lib.hid (fun W (h : Cloud W B m X' Y' V') => rcheck_any B m c2 X' Y' V' W h)
  by_cases h1 : chkF n X Y V = 0
  · by_cases h2 : chkF m X' Y' V' = 0
    · rw [h1] at HCh1
      rw [h2] at HCh2
      by_cases k1 : 60 < n
      · have k2 : (60 : Int) < (n : Int) := by omega
        have HE := Lib.hid (regE_c (win := win) (s := s) h1 h2 (Or.inl k1))
        clear hc1 hc2 hne
        go_enter Try.func50, Try.ntmps50
        go_upto_region 1 with fail
        have hbx := BoxAt.new w 24 #[.int .i64 0, .int .i64 0]
        have hB : Below w.heap.size w (w.alloc (.cells #[.int .i64 0, .int .i64 0] 24)) := (Below.refl _ w).alloc (Nat.le_refl _) _
        have HC1 := Lib.hid (HC10.out.below hB)
        have HC2 := Lib.hid (HC20.out.below hB)
        obtain ⟨L8, hL8⟩ : ∃ z, z = w.heap.size := ⟨_, rfl⟩
        rw [← hL8] at hbx ⊢
        have hl8 : w.heap.size ≤ L8 := by omega
        clear hL8
        have HBB := Lib.hid hbx
        have HB0 := Lib.hid hB
        clear hB hbx
        generalize w.alloc (.cells #[.int .i64 0, .int .i64 0] 24) = wx at *
        have hBq := Below.refl wx.heap.size wx
        go_wp2_with (first
          | (go_at_call 23; (with_reducible refine (HCh1.out _ HC1.out).mono ?_); rintro e w1 ⟨rfl, hx1⟩; replace hBq := below_step hBq hx1; have HC2b := Lib.hid (HC2.out.below hx1))
          | (go_at_call 23; (with_reducible refine (HCh2.out _ HC2b.out).mono ?_); rintro e w2 ⟨rfl, hx2⟩; replace hBq := below_step hBq hx2; have r0 : w2.cell? ⟨L8, 0, none⟩ = some (.int .i64 0) := (box_step HBB.out hBq).cell 0; have r1 : w2.cell? ⟨L8, 1, none⟩ = some (.int .i64 0) := (box_step HBB.out hBq).cell 1; have f0 : w2.frozen? ⟨L8, 0, none⟩ = false := (box_step HBB.out hBq).frozen 0; have f1 : w2.frozen? ⟨L8, 1, none⟩ = false := (box_step HBB.out hBq).frozen 1; have r2 := (box_step HBB.out hBq).lt))
        have HBz := Lib.hid (bbel2 (below_step HB0.out hBq) hl8 (.int .i64 0) (.int .i64 0))
        have hzz := bset2 (a := .int .i64 0) (b := .int .i64 0) (box_step HBB.out hBq)
        have z0 := hzz.cell 0
        have z1 := hzz.cell 1
        generalize ((w2.setCell ⟨L8, 0, none⟩ (.int .i64 0)).setCell ⟨L8, 1, none⟩ (.int .i64 0)) = wz at *
        replace z0 : wz.cell? ⟨L8, 0, none⟩ = some (.int .i64 0) := z0
        replace z1 : wz.cell? ⟨L8, 1, none⟩ = some (.int .i64 0) := z1
        exact bodyPost_ret (v := .tuple #[.agg #[.int .i64 0, .int .i64 0], .int .i64 0, .int .i64 8]) (by simp [results, Try.results50, go_sem, z0, z1]) rfl ⟨by rw [HE.out], HBz.out⟩
      · have k2 : ¬ (60 : Int) < (n : Int) := by omega
        by_cases k3 : 60 < m
        · have k4 : (60 : Int) < (m : Int) := by omega
          have HE := Lib.hid (regE_c (win := win) (s := s) h1 h2 (Or.inr k3))
          clear hc1 hc2 hne
          go_enter Try.func50, Try.ntmps50
          go_upto_region 1 with fail
          have hbx := BoxAt.new w 24 #[.int .i64 0, .int .i64 0]
          have hB : Below w.heap.size w (w.alloc (.cells #[.int .i64 0, .int .i64 0] 24)) := (Below.refl _ w).alloc (Nat.le_refl _) _
          have HC1 := Lib.hid (HC10.out.below hB)
          have HC2 := Lib.hid (HC20.out.below hB)
          obtain ⟨L8, hL8⟩ : ∃ z, z = w.heap.size := ⟨_, rfl⟩
          rw [← hL8] at hbx ⊢
          have hl8 : w.heap.size ≤ L8 := by omega
          clear hL8
          have HBB := Lib.hid hbx
          have HB0 := Lib.hid hB
          clear hB hbx
          generalize w.alloc (.cells #[.int .i64 0, .int .i64 0] 24) = wx at *
          have hBq := Below.refl wx.heap.size wx
          go_wp2_with (first
            | (go_at_call 23; (with_reducible refine (HCh1.out _ HC1.out).mono ?_); rintro e w1 ⟨rfl, hx1⟩; replace hBq := below_step hBq hx1; have HC2b := Lib.hid (HC2.out.below hx1))
            | (go_at_call 23; (with_reducible refine (HCh2.out _ HC2b.out).mono ?_); rintro e w2 ⟨rfl, hx2⟩; replace hBq := below_step hBq hx2; have r0 : w2.cell? ⟨L8, 0, none⟩ = some (.int .i64 0) := (box_step HBB.out hBq).cell 0; have r1 : w2.cell? ⟨L8, 1, none⟩ = some (.int .i64 0) := (box_step HBB.out hBq).cell 1; have f0 : w2.frozen? ⟨L8, 0, none⟩ = false := (box_step HBB.out hBq).frozen 0; have f1 : w2.frozen? ⟨L8, 1, none⟩ = false := (box_step HBB.out hBq).frozen 1; have r2 := (box_step HBB.out hBq).lt))
          have HBz := Lib.hid (bbel2 (below_step HB0.out hBq) hl8 (.int .i64 0) (.int .i64 0))
          have hzz := bset2 (a := .int .i64 0) (b := .int .i64 0) (box_step HBB.out hBq)
          have z0 := hzz.cell 0
          have z1 := hzz.cell 1
          generalize ((w2.setCell ⟨L8, 0, none⟩ (.int .i64 0)).setCell ⟨L8, 1, none⟩ (.int .i64 0)) = wz at *
          replace z0 : wz.cell? ⟨L8, 0, none⟩ = some (.int .i64 0) := z0
          replace z1 : wz.cell? ⟨L8, 1, none⟩ = some (.int .i64 0) := z1
          exact bodyPost_ret (v := .tuple #[.agg #[.int .i64 0, .int .i64 0], .int .i64 0, .int .i64 8]) (by simp [results, Try.results50, go_sem, z0, z1]) rfl ⟨by rw [HE.out], HBz.out⟩
        · have k4 : ¬ (60 : Int) < (m : Int) := by omega
          by_cases u1 : win < 0
          · have HE := Lib.hid (regE_d (win := win) (s := s) h1 h2 (fun h => h.elim k1 k3) (by omega))
            clear hc1 hc2 hne
            go_enter Try.func50, Try.ntmps50
            go_upto_region 1 with fail
            have hbx := BoxAt.new w 24 #[.int .i64 0, .int .i64 0]
            have hB : Below w.heap.size w (w.alloc (.cells #[.int .i64 0, .int .i64 0] 24)) := (Below.refl _ w).alloc (Nat.le_refl _) _
            have HC1 := Lib.hid (HC10.out.below hB)
            have HC2 := Lib.hid (HC20.out.below hB)
            obtain ⟨L8, hL8⟩ : ∃ z, z = w.heap.size := ⟨_, rfl⟩
            rw [← hL8] at hbx ⊢
            have hl8 : w.heap.size ≤ L8 := by omega
            clear hL8
            have HBB := Lib.hid hbx
            have HB0 := Lib.hid hB
            clear hB hbx
            generalize w.alloc (.cells #[.int .i64 0, .int .i64 0] 24) = wx at *
            have hBq := Below.refl wx.heap.size wx
            go_wp2_with (first
              | (go_at_call 23; (with_reducible refine (HCh1.out _ HC1.out).mono ?_); rintro e w1 ⟨rfl, hx1⟩; replace hBq := below_step hBq hx1; have HC2b := Lib.hid (HC2.out.below hx1))
              | (go_at_call 23; (with_reducible refine (HCh2.out _ HC2b.out).mono ?_); rintro e w2 ⟨rfl, hx2⟩; replace hBq := below_step hBq hx2; have r0 : w2.cell? ⟨L8, 0, none⟩ = some (.int .i64 0) := (box_step HBB.out hBq).cell 0; have r1 : w2.cell? ⟨L8, 1, none⟩ = some (.int .i64 0) := (box_step HBB.out hBq).cell 1; have f0 : w2.frozen? ⟨L8, 0, none⟩ = false := (box_step HBB.out hBq).frozen 0; have f1 : w2.frozen? ⟨L8, 1, none⟩ = false := (box_step HBB.out hBq).frozen 1; have r2 := (box_step HBB.out hBq).lt))
            have HBz := Lib.hid (bbel2 (below_step HB0.out hBq) hl8 (.int .i64 0) (.int .i64 0))
            have hzz := bset2 (a := .int .i64 0) (b := .int .i64 0) (box_step HBB.out hBq)
            have z0 := hzz.cell 0
            have z1 := hzz.cell 1
            generalize ((w2.setCell ⟨L8, 0, none⟩ (.int .i64 0)).setCell ⟨L8, 1, none⟩ (.int .i64 0)) = wz at *
            replace z0 : wz.cell? ⟨L8, 0, none⟩ = some (.int .i64 0) := z0
            replace z1 : wz.cell? ⟨L8, 1, none⟩ = some (.int .i64 0) := z1
            exact bodyPost_ret (v := .tuple #[.agg #[.int .i64 0, .int .i64 0], .int .i64 0, .int .i64 2]) (by simp [results, Try.results50, go_sem, z0, z1]) rfl ⟨by rw [HE.out], HBz.out⟩
          · by_cases u2 : 2000 < win
            · have HE := Lib.hid (regE_d (win := win) (s := s) h1 h2 (fun h => h.elim k1 k3) (by omega))
              clear hc1 hc2 hne
              go_enter Try.func50, Try.ntmps50
              go_upto_region 1 with fail
              have hbx := BoxAt.new w 24 #[.int .i64 0, .int .i64 0]
              have hB : Below w.heap.size w (w.alloc (.cells #[.int .i64 0, .int .i64 0] 24)) := (Below.refl _ w).alloc (Nat.le_refl _) _
              have HC1 := Lib.hid (HC10.out.below hB)
              have HC2 := Lib.hid (HC20.out.below hB)
              obtain ⟨L8, hL8⟩ : ∃ z, z = w.heap.size := ⟨_, rfl⟩
              rw [← hL8] at hbx ⊢
              have hl8 : w.heap.size ≤ L8 := by omega
              clear hL8
              have HBB := Lib.hid hbx
              have HB0 := Lib.hid hB
              clear hB hbx
              generalize w.alloc (.cells #[.int .i64 0, .int .i64 0] 24) = wx at *
              have hBq := Below.refl wx.heap.size wx
              go_wp2_with (first
                | (go_at_call 23; (with_reducible refine (HCh1.out _ HC1.out).mono ?_); rintro e w1 ⟨rfl, hx1⟩; replace hBq := below_step hBq hx1; have HC2b := Lib.hid (HC2.out.below hx1))
                | (go_at_call 23; (with_reducible refine (HCh2.out _ HC2b.out).mono ?_); rintro e w2 ⟨rfl, hx2⟩; replace hBq := below_step hBq hx2; have r0 : w2.cell? ⟨L8, 0, none⟩ = some (.int .i64 0) := (box_step HBB.out hBq).cell 0; have r1 : w2.cell? ⟨L8, 1, none⟩ = some (.int .i64 0) := (box_step HBB.out hBq).cell 1; have f0 : w2.frozen? ⟨L8, 0, none⟩ = false := (box_step HBB.out hBq).frozen 0; have f1 : w2.frozen? ⟨L8, 1, none⟩ = false := (box_step HBB.out hBq).frozen 1; have r2 := (box_step HBB.out hBq).lt))
              have HBz := Lib.hid (bbel2 (below_step HB0.out hBq) hl8 (.int .i64 0) (.int .i64 0))
              have hzz := bset2 (a := .int .i64 0) (b := .int .i64 0) (box_step HBB.out hBq)
              have z0 := hzz.cell 0
              have z1 := hzz.cell 1
              generalize ((w2.setCell ⟨L8, 0, none⟩ (.int .i64 0)).setCell ⟨L8, 1, none⟩ (.int .i64 0)) = wz at *
              replace z0 : wz.cell? ⟨L8, 0, none⟩ = some (.int .i64 0) := z0
              replace z1 : wz.cell? ⟨L8, 1, none⟩ = some (.int .i64 0) := z1
              exact bodyPost_ret (v := .tuple #[.agg #[.int .i64 0, .int .i64 0], .int .i64 0, .int .i64 2]) (by simp [results, Try.results50, go_sem, z0, z1]) rfl ⟨by rw [HE.out], HBz.out⟩
            · by_cases u3 : s < 0
              · have HE := Lib.hid (regE_d (win := win) (s := s) h1 h2 (fun h => h.elim k1 k3) (by omega))
                clear hc1 hc2 hne
                go_enter Try.func50, Try.ntmps50
                go_upto_region 1 with fail
                have hbx := BoxAt.new w 24 #[.int .i64 0, .int .i64 0]
                have hB : Below w.heap.size w (w.alloc (.cells #[.int .i64 0, .int .i64 0] 24)) := (Below.refl _ w).alloc (Nat.le_refl _) _
                have HC1 := Lib.hid (HC10.out.below hB)
                have HC2 := Lib.hid (HC20.out.below hB)
                obtain ⟨L8, hL8⟩ : ∃ z, z = w.heap.size := ⟨_, rfl⟩
                rw [← hL8] at hbx ⊢
                have hl8 : w.heap.size ≤ L8 := by omega
                clear hL8
                have HBB := Lib.hid hbx
                have HB0 := Lib.hid hB
                clear hB hbx
                generalize w.alloc (.cells #[.int .i64 0, .int .i64 0] 24) = wx at *
                have hBq := Below.refl wx.heap.size wx
                go_wp2_with (first
                  | (go_at_call 23; (with_reducible refine (HCh1.out _ HC1.out).mono ?_); rintro e w1 ⟨rfl, hx1⟩; replace hBq := below_step hBq hx1; have HC2b := Lib.hid (HC2.out.below hx1))
                  | (go_at_call 23; (with_reducible refine (HCh2.out _ HC2b.out).mono ?_); rintro e w2 ⟨rfl, hx2⟩; replace hBq := below_step hBq hx2; have r0 : w2.cell? ⟨L8, 0, none⟩ = some (.int .i64 0) := (box_step HBB.out hBq).cell 0; have r1 : w2.cell? ⟨L8, 1, none⟩ = some (.int .i64 0) := (box_step HBB.out hBq).cell 1; have f0 : w2.frozen? ⟨L8, 0, none⟩ = false := (box_step HBB.out hBq).frozen 0; have f1 : w2.frozen? ⟨L8, 1, none⟩ = false := (box_step HBB.out hBq).frozen 1; have r2 := (box_step HBB.out hBq).lt))
                have HBz := Lib.hid (bbel2 (below_step HB0.out hBq) hl8 (.int .i64 0) (.int .i64 0))
                have hzz := bset2 (a := .int .i64 0) (b := .int .i64 0) (box_step HBB.out hBq)
                have z0 := hzz.cell 0
                have z1 := hzz.cell 1
                generalize ((w2.setCell ⟨L8, 0, none⟩ (.int .i64 0)).setCell ⟨L8, 1, none⟩ (.int .i64 0)) = wz at *
                replace z0 : wz.cell? ⟨L8, 0, none⟩ = some (.int .i64 0) := z0
                replace z1 : wz.cell? ⟨L8, 1, none⟩ = some (.int .i64 0) := z1
                exact bodyPost_ret (v := .tuple #[.agg #[.int .i64 0, .int .i64 0], .int .i64 0, .int .i64 2]) (by simp [results, Try.results50, go_sem, z0, z1]) rfl ⟨by rw [HE.out], HBz.out⟩
              · by_cases u4 : 2000 < s
                · have HE := Lib.hid (regE_d (win := win) (s := s) h1 h2 (fun h => h.elim k1 k3) (by omega))
                  clear hc1 hc2 hne
                  go_enter Try.func50, Try.ntmps50
                  go_upto_region 1 with fail
                  have hbx := BoxAt.new w 24 #[.int .i64 0, .int .i64 0]
                  have hB : Below w.heap.size w (w.alloc (.cells #[.int .i64 0, .int .i64 0] 24)) := (Below.refl _ w).alloc (Nat.le_refl _) _
                  have HC1 := Lib.hid (HC10.out.below hB)
                  have HC2 := Lib.hid (HC20.out.below hB)
                  obtain ⟨L8, hL8⟩ : ∃ z, z = w.heap.size := ⟨_, rfl⟩
                  rw [← hL8] at hbx ⊢
                  have hl8 : w.heap.size ≤ L8 := by omega
                  clear hL8
                  have HBB := Lib.hid hbx
                  have HB0 := Lib.hid hB
                  clear hB hbx
                  generalize w.alloc (.cells #[.int .i64 0, .int .i64 0] 24) = wx at *
                  have hBq := Below.refl wx.heap.size wx
                  go_wp2_with (first
                    | (go_at_call 23; (with_reducible refine (HCh1.out _ HC1.out).mono ?_); rintro e w1 ⟨rfl, hx1⟩; replace hBq := below_step hBq hx1; have HC2b := Lib.hid (HC2.out.below hx1))
                    | (go_at_call 23; (with_reducible refine (HCh2.out _ HC2b.out).mono ?_); rintro e w2 ⟨rfl, hx2⟩; replace hBq := below_step hBq hx2; have r0 : w2.cell? ⟨L8, 0, none⟩ = some (.int .i64 0) := (box_step HBB.out hBq).cell 0; have r1 : w2.cell? ⟨L8, 1, none⟩ = some (.int .i64 0) := (box_step HBB.out hBq).cell 1; have f0 : w2.frozen? ⟨L8, 0, none⟩ = false := (box_step HBB.out hBq).frozen 0; have f1 : w2.frozen? ⟨L8, 1, none⟩ = false := (box_step HBB.out hBq).frozen 1; have r2 := (box_step HBB.out hBq).lt))
                  have HBz := Lib.hid (bbel2 (below_step HB0.out hBq) hl8 (.int .i64 0) (.int .i64 0))
                  have hzz := bset2 (a := .int .i64 0) (b := .int .i64 0) (box_step HBB.out hBq)
                  have z0 := hzz.cell 0
                  have z1 := hzz.cell 1
                  generalize ((w2.setCell ⟨L8, 0, none⟩ (.int .i64 0)).setCell ⟨L8, 1, none⟩ (.int .i64 0)) = wz at *
                  replace z0 : wz.cell? ⟨L8, 0, none⟩ = some (.int .i64 0) := z0
                  replace z1 : wz.cell? ⟨L8, 1, none⟩ = some (.int .i64 0) := z1
                  exact bodyPost_ret (v := .tuple #[.agg #[.int .i64 0, .int .i64 0], .int .i64 0, .int .i64 2]) (by simp [results, Try.results50, go_sem, z0, z1]) rfl ⟨by rw [HE.out], HBz.out⟩
                · exact absurd (regE_e h1 h2 (fun h => h.elim k1 k3) ⟨by omega, by omega, by omega, by omega⟩) hne
    · rw [h1] at HCh1
      have hE2 := regE_b (win := win) (s := s) h1 h2
      obtain ⟨z, hz⟩ : ∃ z, z = chkF m X' Y' V' := ⟨_, rfl⟩
      rw [← hz] at HCh2 h2 hE2
      clear hz h1
      have HE := Lib.hid (hE2)
      clear hc1 hc2 hne
      go_enter Try.func50, Try.ntmps50
      go_upto_region 1 with fail
      have hbx := BoxAt.new w 24 #[.int .i64 0, .int .i64 0]
      have hB : Below w.heap.size w (w.alloc (.cells #[.int .i64 0, .int .i64 0] 24)) := (Below.refl _ w).alloc (Nat.le_refl _) _
      have HC1 := Lib.hid (HC10.out.below hB)
      have HC2 := Lib.hid (HC20.out.below hB)
      obtain ⟨L8, hL8⟩ : ∃ z, z = w.heap.size := ⟨_, rfl⟩
      rw [← hL8] at hbx ⊢
      have hl8 : w.heap.size ≤ L8 := by omega
      clear hL8
      have HBB := Lib.hid hbx
      have HB0 := Lib.hid hB
      clear hB hbx
      generalize w.alloc (.cells #[.int .i64 0, .int .i64 0] 24) = wx at *
      have hBq := Below.refl wx.heap.size wx
      go_wp2_with (first
        | (go_at_call 23; (with_reducible refine (HCh1.out _ HC1.out).mono ?_); rintro e w1 ⟨rfl, hx1⟩; replace hBq := below_step hBq hx1; have HC2b := Lib.hid (HC2.out.below hx1))
        | (go_at_call 23; (with_reducible refine (HCh2.out _ HC2b.out).mono ?_); rintro e w2 ⟨rfl, hx2⟩; replace hBq := below_step hBq hx2; have r0 : w2.cell? ⟨L8, 0, none⟩ = some (.int .i64 0) := (box_step HBB.out hBq).cell 0; have r1 : w2.cell? ⟨L8, 1, none⟩ = some (.int .i64 0) := (box_step HBB.out hBq).cell 1; have f0 : w2.frozen? ⟨L8, 0, none⟩ = false := (box_step HBB.out hBq).frozen 0; have f1 : w2.frozen? ⟨L8, 1, none⟩ = false := (box_step HBB.out hBq).frozen 1; have r2 := (box_step HBB.out hBq).lt))
      have HBz := Lib.hid (bbel2 (below_step HB0.out hBq) hl8 (.int .i64 0) (.int .i64 0))
      have hzz := bset2 (a := .int .i64 0) (b := .int .i64 0) (box_step HBB.out hBq)
      have z0 := hzz.cell 0
      have z1 := hzz.cell 1
      generalize ((w2.setCell ⟨L8, 0, none⟩ (.int .i64 0)).setCell ⟨L8, 1, none⟩ (.int .i64 0)) = wz at *
      replace z0 : wz.cell? ⟨L8, 0, none⟩ = some (.int .i64 0) := z0
      replace z1 : wz.cell? ⟨L8, 1, none⟩ = some (.int .i64 0) := z1
      exact bodyPost_ret (v := .tuple #[.agg #[.int .i64 0, .int .i64 0], .int .i64 0, .int .i64 z]) (by simp [results, Try.results50, go_sem, z0, z1]) rfl ⟨by rw [HE.out], HBz.out⟩
  · have hE2 := regE_a (m := m) (X' := X') (Y' := Y') (V' := V') (win := win) (s := s) h1
    obtain ⟨z, hz⟩ : ∃ z, z = chkF n X Y V := ⟨_, rfl⟩
    rw [← hz] at HCh1 h1 hE2
    clear hz
    have HE := Lib.hid (hE2)
    clear hc1 hc2 hne
    go_enter Try.func50, Try.ntmps50
    go_upto_region 1 with fail
    have hbx := BoxAt.new w 24 #[.int .i64 0, .int .i64 0]
    have hB : Below w.heap.size w (w.alloc (.cells #[.int .i64 0, .int .i64 0] 24)) := (Below.refl _ w).alloc (Nat.le_refl _) _
    have HC1 := Lib.hid (HC10.out.below hB)
    have HC2 := Lib.hid (HC20.out.below hB)
    obtain ⟨L8, hL8⟩ : ∃ z, z = w.heap.size := ⟨_, rfl⟩
    rw [← hL8] at hbx ⊢
    have hl8 : w.heap.size ≤ L8 := by omega
    clear hL8
    have HBB := Lib.hid hbx
    have HB0 := Lib.hid hB
    clear hB hbx
    generalize w.alloc (.cells #[.int .i64 0, .int .i64 0] 24) = wx at *
    have hBq := Below.refl wx.heap.size wx
    go_wp2_with (first
      | (go_at_call 23; (with_reducible refine (HCh1.out _ HC1.out).mono ?_); rintro e w1 ⟨rfl, hx1⟩; replace hBq := below_step hBq hx1; have r0 : w1.cell? ⟨L8, 0, none⟩ = some (.int .i64 0) := (box_step HBB.out hBq).cell 0; have r1 : w1.cell? ⟨L8, 1, none⟩ = some (.int .i64 0) := (box_step HBB.out hBq).cell 1; have f0 : w1.frozen? ⟨L8, 0, none⟩ = false := (box_step HBB.out hBq).frozen 0; have f1 : w1.frozen? ⟨L8, 1, none⟩ = false := (box_step HBB.out hBq).frozen 1; have r2 := (box_step HBB.out hBq).lt))
    have HBz := Lib.hid (bbel2 (below_step HB0.out hBq) hl8 (.int .i64 0) (.int .i64 0))
    have hzz := bset2 (a := .int .i64 0) (b := .int .i64 0) (box_step HBB.out hBq)
    have z0 := hzz.cell 0
    have z1 := hzz.cell 1
    generalize ((w1.setCell ⟨L8, 0, none⟩ (.int .i64 0)).setCell ⟨L8, 1, none⟩ (.int .i64 0)) = wz at *
    replace z0 : wz.cell? ⟨L8, 0, none⟩ = some (.int .i64 0) := z0
    replace z1 : wz.cell? ⟨L8, 1, none⟩ = some (.int .i64 0) := z1
    exact bodyPost_ret (v := .tuple #[.agg #[.int .i64 0, .int .i64 0], .int .i64 0, .int .i64 z]) (by simp [results, Try.results50, go_sem, z0, z1]) rfl ⟨by rw [HE.out], HBz.out⟩
end Go.Proofs.Ytaehfildhmljeaa

namespace Go.Proofs.Ytaehfildhmljeaa
open Go.RowKit Go.Shelf
attribute [local go_sem] Oper.semAt_some

/-- A shift within the window. -/
abbrev Cw (win : Int) := { p : Pt // inW p win = true }
def cnd (win : Int) (p : Pt) : List (Cw win) := if h : inW p win = true then [⟨p, h⟩] else []
section
variable (X Y X' Y' : Nat → Int) (m : Nat) (win : Int)
def cndJ (i : Nat) : Nat → List (Cw win)
  | 0 => []
  | j + 1 => cndJ i j ++ cnd win (X i - X' j, Y i - Y' j)
def cndI : Nat → List (Cw win)
  | 0 => []
  | i + 1 => cndI i ++ cndJ X Y X' Y' win i m
end
theorem cnd_yes {win : Int} {p : Pt} (h : inW p win = true) : cnd win p = [⟨p, h⟩] := by unfold cnd; rw [dif_pos h]
theorem cnd_no {win : Int} {p : Pt} (h : inW p win = false) : cnd win p = [] := by unfold cnd; rw [dif_neg (by simp [h])]
theorem cnd_len (win : Int) (p : Pt) : (cnd win p).length ≤ 1 := by unfold cnd; split <;> simp
theorem cndJ_len (X Y X' Y' : Nat → Int) (win : Int) (i : Nat) : ∀ j, (cndJ X Y X' Y' win i j).length ≤ j := by
  intro j
  induction j with
  | zero => simp [cndJ]
  | succ j ih =>
    have := cnd_len win (X i - X' j, Y i - Y' j)
    rw [cndJ, List.length_append]
    omega
theorem cndI_len (X Y X' Y' : Nat → Int) (m : Nat) (win : Int) (hm : m ≤ 60) : ∀ i, (cndI X Y X' Y' m win i).length ≤ i * 60 := by
  intro i
  induction i with
  | zero => simp [cndI]
  | succ i ih =>
    have := cndJ_len X Y X' Y' win i m
    rw [cndI, List.length_append]
    omega
theorem agr_in (p : Pt) (win : Int) : agrB p (0, 0) win = inW p win := by
  have h : ∀ a : Int, decide (dsF a 0 ≤ win) = (decide (-win ≤ a) && decide (a ≤ win)) := fun a => by
    rw [← Bool.decide_and]
    apply decide_eq_decide.2
    unfold dsF
    omega
  unfold agrB inW
  rw [h, h]

/-- What a round keeps: whatever lay below n₀; and the cells of all blocks from D on. -/
structure Kp2 (n₀ D : Nat) (W W' : World) : Prop where
  below : Below n₀ W W'
  cells : ∀ (k : Nat) (cs : Array Value) (t : TypeId) (fr : Nat × Nat), D ≤ k → W.heap[k]? = some (.cells cs t fr) → W'.heap[k]? = some (.cells cs t fr)
theorem Kp2.refl (n₀ D : Nat) (W : World) : Kp2 n₀ D W W := ⟨Below.refl _ _, fun _ _ _ _ _ h => h⟩
theorem Kp2.trans {n₀ D : Nat} {A B C : World} (h : Kp2 n₀ D A B) (k : Kp2 n₀ D B C) : Kp2 n₀ D A C := ⟨h.below.trans k.below, fun i cs t fr hi hA => k.cells i cs t fr hi (h.cells i cs t fr hi hA)⟩
theorem Kp2.of_below {n₀ D : Nat} {W W' : World} (h : Below W.heap.size W W') (hn : n₀ ≤ W.heap.size) : Kp2 n₀ D W W' :=
  ⟨h.mono hn, fun k _ _ _ _ hk => (h.block k (Array.getElem?_eq_some_iff.1 hk).1).trans hk⟩
theorem Kp2.setCell {n₀ D : Nat} {A W : World} (h : Kp2 n₀ D A W) {p : Addr} (hp : n₀ ≤ p.block) (hD : p.block < D) (u : Value) : Kp2 n₀ D A (W.setCell p u) :=
  ⟨h.below.setCell hp u, fun k cs t fr hk hA => (Below.heap_setCell W p u k (by omega)).trans (h.cells k cs t fr hk hA)⟩
theorem Kp2.alloc {n₀ D : Nat} {A W : World} (h : Kp2 n₀ D A W) (hn : n₀ ≤ W.heap.size) (o : Obj) : Kp2 n₀ D A (W.alloc o) :=
  ⟨h.below.alloc hn o, fun k cs t fr hk hA => by
    have := h.cells k cs t fr hk hA
    exact (Below.heap_alloc W o k (Array.getElem?_eq_some_iff.1 this).1).trans this⟩
theorem kp2_b {n₀ D : Nat} {w : World} (hn : n₀ ≤ w.heap.size) (W : World) (l : Nat) (o o' : Obj) (hl : w.heap.size ≤ l) (h : W.heap[l]? = some o) (hc : o.isCells = false) (hw : o.isWalk = false) : Kp2 n₀ D W (W.putObj l o') :=
  ⟨belowK_b hn W l o o' hl h hc hw, fun k cs t fr _ hk => by
    have hne : k ≠ l := by rintro rfl; rw [hk] at h; cases h; cases hc
    exact (World.putObj_heap_other hne).trans hk⟩
theorem Kp2.box {n₀ D : Nat} {W W' : World} (h : Kp2 n₀ D W W') {g : Nat} {t : TypeId} {cs : Array Value} (hg : D ≤ g) (hb : BoxAt W g t cs) : BoxAt W' g t cs := h.cells g cs t (0, 0) hg hb

set_option maxRecDepth 100000 in
set_option maxHeartbeats 8000000 in
theorem cand_in (f : Nat) (hf : 1 ≤ f) (l Ba n₀ D : Nat) (A : Option Addr) (n c1 : Nat) (X Y V : Nat → Int) (B : Option Addr) (m c2 : Nat) (X' Y' V' : Nat → Int) (win : Int) (hn : n ≤ 60) (hm : m ≤ 60)
    (ho : ∀ i, i < n → okc (X i) ∧ okc (Y i)) (ho' : ∀ i, i < m → okc (X' i) ∧ okc (Y' i)) (J Jx : List (Cw win) → World → Prop)
    (W : World) (HCa : Hid (∀ W', Below n₀ W W' → Cloud W' A n X Y V)) (HCb : Hid (∀ W', Below n₀ W W' → Cloud W' B m X' Y' V')) (hJ : AbidesFrom W.heap.size J)
    (hY : ∀ pre (x : Cw win) W, J pre W → pre.length < 3600 → YieldAt Fence.wide (f - 1) Try.prog l #[sp x.1.1 x.1.2] W fun e W' =>
      (e = .returned (.bool true) ∧ J (pre ++ [x]) W' ∧ Kp2 n₀ D W W') ∨ (e = .returned (.bool false) ∧ Jx (pre ++ [x]) W'))
    (hBa : BoxAt W Ba 22 #[.slice A n c1]) (hBb : BoxAt W (Ba + 1) 22 #[.slice B m c2]) (hBw : BoxAt W (Ba + 2) 2 #[.int .i64 win]) (hBn : D ≤ Ba) (hW : n₀ ≤ W.heap.size) (h0 : J [] W) :
    CallsIn Fence.wide f Try.prog 123 #[.func (.yield l) #[] #[], .pointer (some ⟨Ba, 0, none⟩), .pointer (some ⟨Ba + 1, 0, none⟩), .pointer (some ⟨Ba + 2, 0, none⟩)] W fun e W' => (∃ v, e = .returned v) ∧
      ((∃ ys, ys = cndI X Y X' Y' m win n ∧ J ys W') ∨ (∃ pre, True ∧ Jx pre W')) := by
  have HO := Lib.hid ho
  have HO' := Lib.hid ho'
  have HJ := Lib.hid hJ
  have HY := Lib.hid hY
  have n0 : (0 : Int) ≤ (n : Int) := Int.natCast_nonneg _
  have m0 : (0 : Int) ≤ (m : Int) := Int.natCast_nonneg _
  clear ho ho' hJ hY
  refine callsIn_of_wp Try.func123 rfl trivial ?_ rfl
  simp only [Try.ntmps123, List.size_toArray, List.length_cons, List.length_nil, Nat.reduceAdd, Nat.reduceSub, Array.replicate_succ, Array.replicate_zero, List.push_toArray, List.append_toArray, List.nil_append, List.cons_append]
  have a0 : W.cell? ⟨Ba, 0, none⟩ = some (.slice A n c1) := hBa.cell 0
  have HBb := Lib.hid hBb
  have HBw := Lib.hid hBw
  clear hBb hBw hBa
  gi_wp2
  gi_loopw [12] (fun iv wr => ∃ i : Nat, i ≤ n ∧ iv = .int .i64 i ∧ Hid (J (cndI X Y X' Y' m win i) wr) ∧ W.heap.size ≤ wr.heap.size ∧ Hid (Below n₀ W wr) ∧ Hid (BoxAt wr (Ba + 1) 22 #[.slice B m c2]) ∧ Hid (BoxAt wr (Ba + 2) 2 #[.int .i64 win])) (fun iv _ => n - (intOf iv).toNat)
  case atStart => exact ⟨0, Nat.zero_le _, rfl, Lib.hid h0, Nat.le_refl _, Lib.hid (Below.refl _ _), HBb, HBw⟩
  case round =>
    clear HBb HBw h0 a0
    obtain ⟨i, hi, rfl, HJi, hsz, HB, HBb, HBw⟩ := hrel
    by_cases hlt : i < n
    · have i0 : (0 : Int) ≤ (i : Int) := Int.natCast_nonneg _
      have i1 : (i : Int) < (n : Int) := by omega
      obtain ⟨b1, o1, e1, hp1⟩ := HCa.out wr HB.out (by omega)
      subst e1
      obtain ⟨p0, p1, p2⟩ := hp1 i hlt
      have hq1 := hp1.lt (by omega)
      have b0 : wr.cell? ⟨Ba + 1, 0, none⟩ = some (.slice B m c2) := HBb.out.cell 0
      have lb := HBb.out.lt
      have HI : ∃ j : Nat, j ≤ m ∧ (Value.int .i64 0) = .int .i64 j ∧ Hid (J (cndI X Y X' Y' m win i ++ cndJ X Y X' Y' win i j) (wr.alloc (.cells #[.int .i64 (X i), .int .i64 (Y i), .int .i64 (V i)] 69))) ∧ W.heap.size ≤ (wr.alloc (.cells #[.int .i64 (X i), .int .i64 (Y i), .int .i64 (V i)] 69)).heap.size ∧ Hid (Below n₀ W (wr.alloc (.cells #[.int .i64 (X i), .int .i64 (Y i), .int .i64 (V i)] 69))) ∧ Hid (BoxAt (wr.alloc (.cells #[.int .i64 (X i), .int .i64 (Y i), .int .i64 (V i)] 69)) (Ba + 1) 22 #[.slice B m c2]) ∧ Hid (BoxAt (wr.alloc (.cells #[.int .i64 (X i), .int .i64 (Y i), .int .i64 (V i)] 69)) (Ba + 2) 2 #[.int .i64 win]) ∧ Hid (BoxAt (wr.alloc (.cells #[.int .i64 (X i), .int .i64 (Y i), .int .i64 (V i)] 69)) wr.heap.size 69 #[.int .i64 (X i), .int .i64 (Y i), .int .i64 (V i)]) :=
        ⟨0, Nat.zero_le _, rfl, Lib.hid (by rw [cndJ, List.append_nil]; exact HJ.out _ _ _ none HJi.out (grown_of_below ((Below.refl _ wr).alloc (Nat.le_refl _) _)) (fun r e => by cases e)), by simp; omega, Lib.hid (HB.out.alloc (by omega) _), Lib.hid (HBb.out.alloc _), Lib.hid (HBw.out.alloc _), Lib.hid (BoxAt.new _ _ _)⟩
      have HIh := Lib.hid HI
      clear HI hp1
      gi_wp2
      obtain ⟨L6, hL6⟩ : ∃ z, z = wr.heap.size := ⟨_, rfl⟩
      have hL6D : D ≤ L6 := by omega
      rw [← hL6] at HIh ⊢
      generalize wr.alloc (.cells #[.int .i64 (X i), .int .i64 (Y i), .int .i64 (V i)] 69) = wx at *
      clear hL6
      gi_loopw [18] (fun jv wr => ∃ j : Nat, j ≤ m ∧ jv = .int .i64 j ∧ Hid (J (cndI X Y X' Y' m win i ++ cndJ X Y X' Y' win i j) wr) ∧ W.heap.size ≤ wr.heap.size ∧ Hid (Below n₀ W wr) ∧ Hid (BoxAt wr (Ba + 1) 22 #[.slice B m c2]) ∧ Hid (BoxAt wr (Ba + 2) 2 #[.int .i64 win]) ∧ Hid (BoxAt wr L6 69 #[.int .i64 (X i), .int .i64 (Y i), .int .i64 (V i)])) (fun jv _ => m - (intOf jv).toNat)
      case atStart => exact HIh.out
      case round =>
        clear HIh HBb HBw HB HJi hsz p0 p1 p2 b0 lb hq1
        obtain ⟨j, hj, rfl, HJj, hsz, HB, HBb, HBw, HB6⟩ := hrel
        by_cases hltj : j < m
        · have j0 : (0 : Int) ≤ (j : Int) := Int.natCast_nonneg _
          have j1 : (j : Int) < (m : Int) := by omega
          obtain ⟨b2, o2, e2, hp2⟩ := HCb.out wr HB.out (by omega)
          subst e2
          obtain ⟨p3, p4, p5⟩ := hp2 j hltj
          have hq2 := hp2.lt (by omega)
          have h6 := HB6.out
          have q0 : wr.cell? ⟨L6, 0, none⟩ = some (.int .i64 (X i)) := h6.cell 0
          have q1 : wr.cell? ⟨L6, 1, none⟩ = some (.int .i64 (Y i)) := h6.cell 1
          have l6 := h6.lt
          have hw := HBw.out
          have r0 : wr.cell? ⟨Ba + 2, 0, none⟩ = some (.int .i64 win) := hw.cell 0
          have lw := hw.lt
          have oi := HO.out i hlt
          have oj := HO'.out j hltj
          unfold okc at oi oj
          have w1 : wrap64 (X i - X' j) = X i - X' j := by unfold wrap64; omega
          have w2 : wrap64 (Y i - Y' j) = Y i - Y' j := by unfold wrap64; omega
          have HNx : Hid (cndJ X Y X' Y' win i (j + 1) = cndJ X Y X' Y' win i j ++ cnd win (X i - X' j, Y i - Y' j)) := Lib.hid rfl
          have hlen : (cndI X Y X' Y' m win i ++ cndJ X Y X' Y' win i j).length < 3600 := by
            have a1 := cndI_len X Y X' Y' m win hm i
            have a2 := cndJ_len X Y X' Y' win i j
            rw [List.length_append]
            omega
          have pb : (-1073741824 ≤ X i - X' j ∧ X i - X' j ≤ 1073741824) ∧ (-1073741824 ≤ Y i - Y' j ∧ Y i - Y' j ≤ 1073741824) := by omega
          obtain ⟨p, hp⟩ : ∃ p, p = X i - X' j := ⟨_, rfl⟩
          obtain ⟨q, hq⟩ : ∃ q, q = Y i - Y' j := ⟨_, rfl⟩
          rw [← hp, ← hq] at HNx pb
          replace w1 : wrap64 (X i - X' j) = p := by rw [w1, hp]
          replace w2 : wrap64 (Y i - Y' j) = q := by rw [w2, hq]
          obtain ⟨r, hr⟩ : ∃ r, inW (p, q) win = r := ⟨_, rfl⟩
          have HAg := Lib.hid (fun W => agree_any p q 0 0 win r (Lib.hid ((agr_in (p, q) win).trans hr)) W (by omega) (by omega) (by omega) (by omega))
          have hbel : Below wr.heap.size wr ((wr.alloc (.cells #[.int .i64 (X' j), .int .i64 (Y' j), .int .i64 (V' j)] 69)).alloc (.cells #[.int .i64 p, .int .i64 q] 24)) := ((Below.refl _ wr).alloc (Nat.le_refl _) _).alloc (by simp) _
          have h9 : BoxAt ((wr.alloc (.cells #[.int .i64 (X' j), .int .i64 (Y' j), .int .i64 (V' j)] 69)).alloc (.cells #[.int .i64 p, .int .i64 q] 24)) (wr.heap.size + 1) 24 #[.int .i64 p, .int .i64 q] := by
            have := BoxAt.new (wr.alloc (.cells #[.int .i64 (X' j), .int .i64 (Y' j), .int .i64 (V' j)] 69)) 24 #[.int .i64 p, .int .i64 q]
            rwa [World.size_alloc] at this
          have Hbel := Lib.hid hbel
          have H9 := Lib.hid h9
          have HR := Lib.hid hr
          clear hbel h9 hp2 hp hq oi oj pb hr h6 hw
          cases r with
          | false =>
            have HN : Hid (cndI X Y X' Y' m win i ++ cndJ X Y X' Y' win i (j + 1) = cndI X Y X' Y' m win i ++ cndJ X Y X' Y' win i j) := Lib.hid (by rw [HNx.out, cnd_no HR.out, List.append_nil])
            gi_wp2
            refine And.intro trivial ?_
            gi_at_call 122
            refine (callsIn_wide.2 (HAg.out _)).mono ?_
            rintro e w3 ⟨rfl, hb3⟩
            have HB3 := Lib.hid (below_step Hbel.out hb3)
            have hz3 := HB3.out.size
            gi_wp2
            refine And.intro (fun _ h => by cases h) ?_
            gi_wp2
            go_roundw
            case rel => exact ⟨j + 1, by omega, by go_num, Lib.hid (by rw [HN.out]; exact HJ.out _ _ _ none HJj.out (grown_of_below HB3.out) (fun r e => by cases e)), by omega, Lib.hid (HB.out.trans (HB3.out.mono (by omega))), Lib.hid (box_step HBb.out HB3.out), Lib.hid (box_step HBw.out HB3.out), Lib.hid (box_step HB6.out HB3.out)⟩
            case measure => simp [intOf]; omega
          | true =>
            have HN : Hid (cndI X Y X' Y' m win i ++ cndJ X Y X' Y' win i (j + 1) = (cndI X Y X' Y' m win i ++ cndJ X Y X' Y' win i j) ++ [⟨(p, q), HR.out⟩]) := Lib.hid (by rw [HNx.out, cnd_yes HR.out, List.append_assoc])
            have HYY : Hid (∀ w3, Below wr.heap.size wr w3 → YieldAt Fence.wide (f - 1) Try.prog l #[sp p q] w3 fun e W' => (e = .returned (.bool true) ∧ J ((cndI X Y X' Y' m win i ++ cndJ X Y X' Y' win i j) ++ [⟨(p, q), HR.out⟩]) W' ∧ Kp2 n₀ D w3 W') ∨ (e = .returned (.bool false) ∧ Jx ((cndI X Y X' Y' m win i ++ cndJ X Y X' Y' win i j) ++ [⟨(p, q), HR.out⟩]) W')) :=
              Lib.hid (fun w3 hb => HY.out _ ⟨(p, q), HR.out⟩ w3 (HJ.out _ _ _ none HJj.out (grown_of_below hb) (fun r e => by cases e)) hlen)
            clear hlen HNx
            gi_wp2
            refine And.intro trivial ?_
            gi_at_call 122
            refine (callsIn_wide.2 (HAg.out _)).mono ?_
            rintro e w3 ⟨rfl, hb3⟩
            have HB3 := Lib.hid (below_step Hbel.out hb3)
            have hz3 := HB3.out.size
            have H93 := Lib.hid (box_step H9.out hb3)
            have z0 : w3.cell? ⟨wr.heap.size + 1, 0, none⟩ = some (.int .i64 p) := H93.out.cell 0
            have z1 : w3.cell? ⟨wr.heap.size + 1, 1, none⟩ = some (.int .i64 q) := H93.out.cell 1
            have l9 := H93.out.lt
            obtain ⟨fn, tmps, assign, body, hy, hR⟩ := HYY.out w3 HB3.out
            gi_wp2
            refine hR.mono ?_
            rintro e W4 (⟨rfl, hJ4, hk4⟩ | ⟨rfl, hJx4⟩)
            · have hz4 := hk4.below.size
              have HB4 := Lib.hid ((HB.out.trans (HB3.out.mono (by omega))).trans hk4.below)
              gi_wp2
              go_roundw
              case rel => exact ⟨j + 1, by omega, by go_num, Lib.hid (by rw [HN.out]; exact hJ4), by omega, HB4, Lib.hid (hk4.box (by omega) (box_step HBb.out HB3.out)), Lib.hid (hk4.box (by omega) (box_step HBw.out HB3.out)), Lib.hid (hk4.box hL6D (box_step HB6.out HB3.out))⟩
              case measure => simp [intOf]; omega
            · gi_wp2
              refine bodyPost_ret (results_none rfl _ _ _) rfl ?_
              exact ⟨⟨_, rfl⟩, .inr ⟨_, trivial, hJx4⟩⟩
        · obtain rfl : j = m := by omega
          have j1 : ¬ (j : Int) < (j : Int) := by omega
          gi_wp2
          go_roundw
          case rel => exact ⟨i + 1, by omega, by go_num, HJj, hsz, HB, HBb, HBw⟩
          case measure => simp [intOf]; omega
    · obtain rfl : i = n := by omega
      have i1 : ¬ (i : Int) < (i : Int) := by omega
      gi_wp2
      go_end0
      exact ⟨⟨_, rfl⟩, .inl HJi.out⟩

/-- The iterator has its contract: all shifts within the window, in their order. -/
theorem cand_stops (f : Nat) (hf : 1 ≤ f) (Ba n₀ D : Nat) (A : Option Addr) (n c1 : Nat) (X Y V : Nat → Int) (B : Option Addr) (m c2 : Nat) (X' Y' V' : Nat → Int) (win : Int) (hn : n ≤ 60) (hm : m ≤ 60)
    (ho : ∀ i, i < n → okc (X i) ∧ okc (Y i)) (ho' : ∀ i, i < m → okc (X' i) ∧ okc (Y' i)) (w : World) (HCa : Hid (∀ W', Below n₀ w W' → Cloud W' A n X Y V)) (HCb : Hid (∀ W', Below n₀ w W' → Cloud W' B m X' Y' V'))
    (hBa : BoxAt w Ba 22 #[.slice A n c1]) (hBb : BoxAt w (Ba + 1) 22 #[.slice B m c2]) (hBw : BoxAt w (Ba + 2) 2 #[.int .i64 win]) (hBn : D ≤ Ba) (hW : n₀ ≤ w.heap.size) :
    SeqStopsK Fence.wide f Try.prog 123 #[.pointer (some ⟨Ba, 0, none⟩), .pointer (some ⟨Ba + 1, 0, none⟩), .pointer (some ⟨Ba + 2, 0, none⟩)] (fun x : Cw win => #[sp x.1.1 x.1.2]) (Kp2 n₀ D)
      (fun ys => ys = cndI X Y X' Y' m win n) (fun _ => True) 3600 w := fun l J Jx W hWW hJ hJx hY h0 =>
  cand_in f hf l Ba n₀ D A n c1 X Y V B m c2 X' Y' V' win hn hm ho ho' J Jx W (Lib.hid (fun W' h => HCa.out W' ((hWW.mono hW).trans h))) (Lib.hid (fun W' h => HCb.out W' ((hWW.mono hW).trans h))) hJ hY
    (box_step hBa hWW) (box_step hBb hWW) (box_step hBw hWW) hBn (by have := hWW.size; omega) h0
theorem candidates_any (A : Option Addr) (n c1 : Nat) (B : Option Addr) (m c2 : Nat) (win : Int) (w : World) :
    Calls Try.prog 96 #[.slice A n c1, .slice B m c2, .int .i64 win] w fun e w' => e = .returned (.func (.func 123) #[] #[.pointer (some ⟨w.heap.size, 0, none⟩), .pointer (some ⟨w.heap.size + 1, 0, none⟩), .pointer (some ⟨w.heap.size + 1 + 1, 0, none⟩)]) ∧ w' = ((w.alloc (.cells #[.slice A n c1] 22)).alloc (.cells #[.slice B m c2] 22)).alloc (.cells #[.int .i64 win] 2) := by
  go_enter Try.func96, Try.ntmps96
  go_wp2
  go_ret
  exact ⟨rfl, rfl⟩
end Go.Proofs.Ytaehfildhmljeaa

namespace Go.Proofs.Ytaehfildhmljeaa
open Go.RowKit Go.Shelf
attribute [local go_sem] Oper.semAt_some

theorem boxAt_own {β : Type} (g : Nat) (t : TypeId) (f : β → Array Value) : Own (fun s W => BoxAt W g t (f s)) := by
  intro s W W' row h hg hr
  refine h.grown hg (fun e => ?_)
  obtain ⟨o, ho, hc⟩ := hr g e.symm
  rw [show W.heap[g]? = _ from h] at ho
  cases ho; cases hc
theorem own_and {β : Type} {I I' : β → World → Prop} (h : Own I) (h' : Own I') : Own (fun s W => I s W ∧ I' s W) := fun s W W' row hs hg hr => ⟨h s W W' row hs.1 hg hr, h' s W W' row hs.2 hg hr⟩

section
variable (n : Nat) (X Y : Nat → Int) (m : Nat) (X' Y' : Nat → Int) (win s : Int)
def stepL (st : Pt × Nat) (x : Cw win) : Pt × Nat := if betB x.1 (matF n X Y m X' Y' x.1.1 x.1.2 s) st then (x.1, matF n X Y m X' Y' x.1.1 x.1.2 s) else st
def foldL (pre : List (Cw win)) : Pt × Nat := pre.foldl (stepL n X Y m X' Y' win s) ((0, 0), matF n X Y m X' Y' 0 0 s)
end
section
variable {n : Nat} {X Y : Nat → Int} {m : Nat} {X' Y' : Nat → Int} {win s : Int}
theorem foldL_snoc (pre : List (Cw win)) (x : Cw win) : foldL n X Y m X' Y' win s (pre ++ [x]) = stepL n X Y m X' Y' win s (foldL n X Y m X' Y' win s pre) x := by
  unfold foldL; rw [List.foldl_append]; rfl
theorem step_cnd (st : Pt × Nat) (p : Pt) : (cnd win p).foldl (stepL n X Y m X' Y' win s) st = regStep n X Y m X' Y' win s st p := by
  cases h : inW p win with
  | true => rw [cnd_yes h, regStep_in h]; rfl
  | false => rw [cnd_no h, regStep_out h]; rfl
theorem foldJ (st : Pt × Nat) (i : Nat) : ∀ j, (cndJ X Y X' Y' win i j).foldl (stepL n X Y m X' Y' win s) st = regJ n X Y m X' Y' win s st i j := by
  intro j
  induction j with
  | zero => rfl
  | succ j ih => rw [cndJ, List.foldl_append, ih, step_cnd, regJ]
theorem foldI : ∀ i, foldL n X Y m X' Y' win s (cndI X Y X' Y' m win i) = regI n X Y m X' Y' win s i := by
  intro i
  induction i with
  | zero => rfl
  | succ i ih =>
    unfold foldL at ih ⊢
    rw [cndI, List.foldl_append, ih, foldJ, regI]
theorem stepL_sml (hm : m ≤ 60) (hw : win ≤ 2000) {st : Pt × Nat} (h : smlP st) (x : Cw win) : smlP (stepL n X Y m X' Y' win s st x) := by
  unfold stepL
  split
  · have := (inW_iff x.1 win).1 x.2
    have hh := matF_le n X Y m X' Y' x.1.1 x.1.2 s
    unfold smlP
    simp only
    omega
  · exact h
theorem foldL_sml (hm : m ≤ 60) (hw : win ≤ 2000) (pre : List (Cw win)) : smlP (foldL n X Y m X' Y' win s pre) := by
  rcases List.eq_nil_or_concat pre with rfl | ⟨ini, x, rfl⟩
  · have hh := matF_le n X Y m X' Y' 0 0 s
    unfold smlP foldL
    simp only [List.foldl_nil]
    omega
  · have hl : ∀ (l : List (Cw win)) st, smlP st → smlP (l.foldl (stepL n X Y m X' Y' win s) st) := by
      intro l
      induction l with
      | nil => intro st h; exact h
      | cons y r ih => intro st h; exact ih _ (stepL_sml hm hw h y)
    have hh := matF_le n X Y m X' Y' 0 0 s
    exact hl _ _ (by unfold smlP; simp only; omega)
end

theorem after_loop {w W : World} {D : Nat} (hB : Below w.heap.size w W) (hD : w.heap.size ≤ D) (hK : W.heap[D]? = some (.deferred (some []))) : Below w.heap.size w (W.putObj D (.deferred none)) :=
  hB.trans (belowK_b (w := w) (Nat.le_refl _) W D _ _ hD hK rfl rfl)

/-- The four boxes that Register lays first. -/
structure Fst (W : World) (z : Nat) (A : Option Addr) (n c1 : Nat) (B : Option Addr) (m c2 : Nat) (s : Int) : Prop where
  a : BoxAt W z 22 #[.slice A n c1]
  b : BoxAt W (z + 1) 22 #[.slice B m c2]
  s : BoxAt W (z + 2) 2 #[.int .i64 s]
  r : BoxAt W (z + 3) 24 #[.int .i64 0, .int .i64 0]
theorem Fst.below {W W' : World} {z k : Nat} {A : Option Addr} {n c1 : Nat} {B : Option Addr} {m c2 : Nat} {s : Int} (h : Fst W z A n c1 B m c2 s) (hb : Below k W W') (hz : z + 3 < k) : Fst W' z A n c1 B m c2 s :=
  ⟨h.a.below hb (by omega), h.b.below hb (by omega), h.s.below hb (by omega), h.r.below hb (by omega)⟩
theorem Fst.new (w : World) (A : Option Addr) (n c1 : Nat) (B : Option Addr) (m c2 : Nat) (s : Int) :
    Fst ((((w.alloc (.cells #[.slice A n c1] 22)).alloc (.cells #[.slice B m c2] 22)).alloc (.cells #[.int .i64 s] 2)).alloc (.cells #[.int .i64 0, .int .i64 0] 24)) w.heap.size A n c1 B m c2 s := by
  refine ⟨(((BoxAt.new w 22 _).alloc _).alloc _).alloc _, ?_, ?_, ?_⟩
  · have := ((BoxAt.new (w.alloc (.cells #[.slice A n c1] 22)) 22 #[.slice B m c2]).alloc (.cells #[.int .i64 s] 2)).alloc (.cells #[.int .i64 0, .int .i64 0] 24)
    rwa [World.size_alloc] at this
  · have := (BoxAt.new ((w.alloc (.cells #[.slice A n c1] 22)).alloc (.cells #[.slice B m c2] 22)) 2 #[.int .i64 s]).alloc (.cells #[.int .i64 0, .int .i64 0] 24)
    rwa [World.size_alloc, World.size_alloc] at this
  · have := BoxAt.new (((w.alloc (.cells #[.slice A n c1] 22)).alloc (.cells #[.slice B m c2] 22)).alloc (.cells #[.int .i64 s] 2)) 24 #[.int .i64 0, .int .i64 0]
    rwa [World.size_alloc, World.size_alloc, World.size_alloc] at this

set_option maxRecDepth 100000 in
set_option maxHeartbeats 16000000 in
theorem register_in (f : Nat) (hf : 3 ≤ f) (A : Option Addr) (n c1 : Nat) (X Y V : Nat → Int) (B : Option Addr) (m c2 : Nat) (X' Y' V' : Nat → Int) (win s : Int) (hok : chkF n X Y V = 0) (hok' : chkF m X' Y' V' = 0)
    (hn : n ≤ 60) (hm : m ≤ 60) (w0 : 0 ≤ win) (w1 : win ≤ 2000) (s0 : 0 ≤ s) (s1 : s ≤ 2000) (w : World) (hc1 : Cloud w A n X Y V) (hc2 : Cloud w B m X' Y' V') :
    CallsIn Fence.wide f Try.prog 49 #[.slice A n c1, .slice B m c2, .int .i64 win, .int .i64 s] w (RegPost (regI n X Y m X' Y' win s n).1 (regI n X Y m X' Y' win s n).2 0 w) := by
  have HO : Hid (∀ i, i < n → okc (X i) ∧ okc (Y i)) := Lib.hid (fun i hi => ⟨(ok_at hok hi).1, (ok_at hok hi).2.1⟩)
  have HO' : Hid (∀ i, i < m → okc (X' i) ∧ okc (Y' i)) := Lib.hid (fun i hi => ⟨(ok_at hok' hi).1, (ok_at hok' hi).2.1⟩)
  have HC1 := Lib.hid hc1
  have HC2 := Lib.hid hc2
  have HE : regE n X Y V m X' Y' V' win s = 0 := regE_e hok hok' (by omega) ⟨w0, w1, s0, s1⟩
  have HK : Hid (∀ W, Below w.heap.size w W → Calls Try.prog 94 #[.slice A n c1, .slice B m c2, .int .i64 win, .int .i64 s] W fun e w' => e = .returned (.int .i64 0) ∧ Below W.heap.size W w') := Lib.hid (fun W hW => by
    have := ckreg_any A n c1 X Y V B m c2 X' Y' V' win s W (HC1.out.below hW) (HC2.out.below hW)
    rwa [HE] at this)
  have HM : Hid (∀ a b W, -2000 ≤ a → a ≤ 2000 → -2000 ≤ b → b ≤ 2000 → Below w.heap.size w W → Calls Try.prog 95 #[.slice A n c1, .slice B m c2, sp a b, .int .i64 s] W fun e w' => e = .returned (.int .i64 ((matF n X Y m X' Y' a b s : Nat) : Int)) ∧ Below W.heap.size W w') := Lib.hid (fun a b W a1 a2 b1 b2 hW =>
    matches_any A n c1 X Y V B m c2 X' Y' V' a b s (by omega) (by omega) HO.out HO'.out (by omega) (by omega) (by omega) (by omega) W (HC1.out.below hW) (HC2.out.below hW))
  have HF := Lib.hid (Fst.new w A n c1 B m c2 s)
  have hB0 : Below w.heap.size w ((((w.alloc (.cells #[.slice A n c1] 22)).alloc (.cells #[.slice B m c2] 22)).alloc (.cells #[.int .i64 s] 2)).alloc (.cells #[.int .i64 0, .int .i64 0] 24)) := ((((Below.refl _ w).alloc (Nat.le_refl _) _).alloc (by simp) _).alloc (by simp; omega) _).alloc (by simp; omega) _
  have hS0 : ((((w.alloc (.cells #[.slice A n c1] 22)).alloc (.cells #[.slice B m c2] 22)).alloc (.cells #[.int .i64 s] 2)).alloc (.cells #[.int .i64 0, .int .i64 0] 24)).heap.size = w.heap.size + 4 := by simp
  have HB0 := Lib.hid hB0
  have HS0 := Lib.hid hS0
  clear hc1 hc2 hok hok' HE hB0 hS0
  refine callsIn_of_wp_marks Try.func49 rfl trivial ?_ rfl
  simp only [Try.ntmps49, List.size_toArray, List.length_cons, List.length_nil, Nat.reduceAdd, Nat.reduceSub, Array.replicate_succ, Array.replicate_zero, List.push_toArray, List.append_toArray, List.nil_append, List.cons_append]
  gi_wp2
  obtain ⟨z, hz⟩ : ∃ z, z = w.heap.size := ⟨_, rfl⟩
  rw [show w.heap.size + 1 + 1 + 1 = w.heap.size + 3 from rfl, show w.heap.size + 1 + 1 = w.heap.size + 2 from rfl]
  rw [← hz] at HF HS0 ⊢
  have HZ := Lib.hid hz
  clear hz
  generalize ((((w.alloc (.cells #[.slice A n c1] 22)).alloc (.cells #[.slice B m c2] 22)).alloc (.cells #[.int .i64 s] 2)).alloc (.cells #[.int .i64 0, .int .i64 0] 24)) = wa at *
  refine ⟨trivial, fun _ => by omega, ?_⟩
  gi_at_call 94
  refine (callsIn_wide.2 (HK.out _ HB0.out)).mono ?_
  rintro e wb ⟨rfl, hb1⟩
  have hFb := HF.out.below hb1 (by have := HS0.out; omega)
  have HFb := Lib.hid hFb
  have HBb := Lib.hid (below_step HB0.out hb1)
  have hsb : z + 4 ≤ wb.heap.size := by have := hb1.size; have := HS0.out; omega
  have k4 : wb.cell? ⟨z, 0, none⟩ = some (.slice A n c1) := hFb.a.cell 0
  have k5 : wb.cell? ⟨z + 1, 0, none⟩ = some (.slice B m c2) := hFb.b.cell 0
  have k7 : wb.cell? ⟨z + 2, 0, none⟩ = some (.int .i64 s) := hFb.s.cell 0
  have l4 : z < wb.heap.size := by omega
  have l5 : z + 1 < wb.heap.size := by omega
  have l7 : z + 2 < wb.heap.size := by omega
  clear HF hb1 HS0 HB0 hFb HK
  gi_wp2
  refine ⟨trivial, fun _ => by omega, ?_⟩
  gi_at_call 95
  refine (callsIn_wide.2 (HM.out 0 0 _ (by omega) (by omega) (by omega) (by omega) (HBb.out.alloc HBb.out.size _))).mono ?_
  rintro e wd ⟨rfl, hb2⟩
  obtain ⟨L12, hL12⟩ : ∃ L, L = wb.heap.size := ⟨_, rfl⟩
  have hbd : Below wb.heap.size wb wd := ((Below.refl _ wb).alloc (Nat.le_refl _) _).trans (hb2.mono (by simp))
  have H12 := Lib.hid (box_step (BoxAt.new wb 24 #[.int .i64 0, .int .i64 0]) hb2)
  have HFd := Lib.hid (HFb.out.below hbd (by omega))
  have HBd := Lib.hid (below_step HBb.out hbd)
  have hsd : L12 + 1 ≤ wd.heap.size := by have := hb2.size; simp at this; omega
  rw [← hL12] at H12 ⊢
  have k4 : wd.cell? ⟨z, 0, none⟩ = some (.slice A n c1) := HFd.out.a.cell 0
  have k5 : wd.cell? ⟨z + 1, 0, none⟩ = some (.slice B m c2) := HFd.out.b.cell 0
  have l4 : z < wd.heap.size := by omega
  have l5 : z + 1 < wd.heap.size := by omega
  have hz12 : z + 4 ≤ L12 := by omega
  clear HFb hb2 hbd k7 l7 hsb hL12 HBb
  gi_wp2
  refine ⟨trivial, fun _ => by omega, ?_⟩
  gi_at_call 96
  refine (callsIn_wide.2 (candidates_any A n c1 B m c2 win _)).mono ?_
  rintro e we ⟨rfl, rfl⟩
  gi_wp2
  obtain ⟨L13, hL13⟩ : ∃ L, L = wd.heap.size := ⟨_, rfl⟩
  have s13 : BoxAt ((((wd.alloc (.cells #[.int .i64 ((matF n X Y m X' Y' 0 0 s : Nat) : Int)] 3)).alloc (.cells #[.slice A n c1] 22)).alloc (.cells #[.slice B m c2] 22)).alloc (.cells #[.int .i64 win] 2)) wd.heap.size 3 #[.int .i64 ((matF n X Y m X' Y' 0 0 s : Nat) : Int)] := (((BoxAt.new wd 3 _).alloc _).alloc _).alloc _
  have sA := ((BoxAt.new (wd.alloc (.cells #[.int .i64 ((matF n X Y m X' Y' 0 0 s : Nat) : Int)] 3)) 22 #[.slice A n c1]).alloc (.cells #[.slice B m c2] 22)).alloc (.cells #[.int .i64 win] 2)
  have sB := (BoxAt.new ((wd.alloc (.cells #[.int .i64 ((matF n X Y m X' Y' 0 0 s : Nat) : Int)] 3)).alloc (.cells #[.slice A n c1] 22)) 22 #[.slice B m c2]).alloc (.cells #[.int .i64 win] 2)
  have sW := BoxAt.new (((wd.alloc (.cells #[.int .i64 ((matF n X Y m X' Y' 0 0 s : Nat) : Int)] 3)).alloc (.cells #[.slice A n c1] 22)).alloc (.cells #[.slice B m c2] 22)) 2 #[.int .i64 win]
  have hbe : Below wd.heap.size wd ((((wd.alloc (.cells #[.int .i64 ((matF n X Y m X' Y' 0 0 s : Nat) : Int)] 3)).alloc (.cells #[.slice A n c1] 22)).alloc (.cells #[.slice B m c2] 22)).alloc (.cells #[.int .i64 win] 2)) := ((((Below.refl _ wd).alloc (Nat.le_refl _) _).alloc (by simp) _).alloc (by simp; omega) _).alloc (by simp; omega) _
  have hse : ((((wd.alloc (.cells #[.int .i64 ((matF n X Y m X' Y' 0 0 s : Nat) : Int)] 3)).alloc (.cells #[.slice A n c1] 22)).alloc (.cells #[.slice B m c2] 22)).alloc (.cells #[.int .i64 win] 2)).heap.size = wd.heap.size + 4 := by simp
  simp only [World.size_alloc] at sA sB sW
  have sF := HFd.out.below hbe (by omega)
  have s12 := box_step H12.out hbe
  have HB0 := Lib.hid (below_step HBd.out hbe)
  rw [← hL13] at s13 sA sB sW hse hsd ⊢
  generalize ((((wd.alloc (.cells #[.int .i64 ((matF n X Y m X' Y' 0 0 s : Nat) : Int)] 3)).alloc (.cells #[.slice A n c1] 22)).alloc (.cells #[.slice B m c2] 22)).alloc (.cells #[.int .i64 win] 2)) = W0 at *
  clear hL13 hbe H12 HFd HBd k4 k5 l4 l5
  have hzw : w.heap.size ≤ L12 := by have := HZ.out; omega
  have HCa : Hid (∀ W', Below L12 W0 W' → Cloud W' A n X Y V) := Lib.hid (fun W' h => HC1.out.below (HB0.out.trans (h.mono hzw)))
  have HCb : Hid (∀ W', Below L12 W0 W' → Cloud W' B m X' Y' V') := Lib.hid (fun W' h => HC2.out.below (HB0.out.trans (h.mono hzw)))
  refine wpIn_rangeFunc_ownH rfl (by omega) (gf := 123) (lb := #[.pointer (some ⟨L13 + 1, 0, none⟩), .pointer (some ⟨L13 + 1 + 1, 0, none⟩), .pointer (some ⟨L13 + 1 + 2, 0, none⟩)]) rfl trivial (enters_of Try.func123 (by kernel_rfl) rfl)
    (cand_stops (f - 1) (by omega) (L13 + 1) L12 (L13 + 1) A n c1 X Y V B m c2 X' Y' V' win hn hm HO.out HO'.out W0 HCa HCb sA sB sW (Nat.le_refl _) (by omega)) Kp2.trans (kp2_b (w := W0) (by omega)) (Below.refl _ _) (fun _ => rfl)
    (fun pre W => (BoxAt W L12 24 #[.int .i64 (foldL n X Y m X' Y' win s pre).1.1, .int .i64 (foldL n X Y m X' Y' win s pre).1.2] ∧ BoxAt W L13 3 #[.int .i64 (((foldL n X Y m X' Y' win s pre).2 : Nat) : Int)]) ∧ Below L12 W0 W)
    (fun _ _ _ => False)
    (OwnFrom.and (Own.from (own_and (boxAt_own _ _ _) (boxAt_own _ _ _)) _) (ownFrom_below (by omega) (by omega)))
    (fun _ _ _ _ _ hs _ _ => hs)
    ⟨⟨s12, s13⟩, Below.refl _ _⟩
    (fun x a' W => ∃ Bx, BoxAt W Bx 24 #[.int .i64 x.1.1, .int .i64 x.1.2] ∧
      a' = { tmps := #[.slice A n c1, .slice B m c2, .int .i64 win, .int .i64 s, .pointer (some ⟨z, 0, none⟩), .pointer (some ⟨z + 1, 0, none⟩), undef, .pointer (some ⟨z + 2, 0, none⟩), .pointer (some ⟨z + 3, 0, none⟩), .int .i64 0, .int .i64 0, .int .i64 0, .pointer (some ⟨L12, 0, none⟩), .pointer (some ⟨L13, 0, none⟩),
          .pointer (some ⟨Bx, 0, none⟩), undef, .slice A n c1, .slice B m c2, .int .i64 win, .int .i64 s, .int .i64 0, .int .i64 0, .bool false, undef, undef, .slice A n c1, .slice B m c2, .agg #[.int .i64 0, .int .i64 0], .int .i64 s, .int .i64 ((matF n X Y m X' Y' 0 0 s : Nat) : Int), .slice A n c1, .slice B m c2, .int .i64 win,
          .func (.func 123) #[] #[.pointer (some ⟨L13 + 1, 0, none⟩), .pointer (some ⟨L13 + 1 + 1, 0, none⟩), .pointer (some ⟨L13 + 1 + 2, 0, none⟩)], sp x.1.1 x.1.2, undef, undef, undef, undef, undef, undef, undef, undef, undef, undef, undef, undef, undef, undef, undef, undef, undef, undef, undef, undef, undef, undef], defers := [] })
    (fun x a' => Own.from (fun _ A B row hs hg hr => by obtain ⟨Bx, h2, h3⟩ := hs; exact ⟨Bx, boxAt_own (β := Unit) _ _ (fun _ => _) () A B row h2 hg hr, h3⟩) _) ?assign ?body ?done ?stop
  case assign =>
    rintro l pre x W K ⟨⟨h1, h2⟩, hB⟩ hK
    gi_wp2
    exact hK _ _ ((KeepsOthers.alloc _ _).from _) ((Kp2.refl _ _ _).alloc (by have := hB.size; omega) _) ⟨⟨h1.alloc _, h2.alloc _⟩, hB.alloc (by have := hB.size; omega) _⟩ ⟨W.heap.size, BoxAt.new _ _ _, rfl⟩
  case body =>
    rintro l pre ⟨⟨p, q⟩, hx⟩ a' W hl hr ⟨⟨h12, h13⟩, hB⟩ ⟨Bx, hbx, rfl⟩ hlt
    have hxb := (inW_iff (p, q) win).1 hx
    have hsm := foldL_sml (n := n) (X := X) (Y := Y) (X' := X') (Y' := Y') (s := s) hm w1 pre
    have HSN : Hid (foldL n X Y m X' Y' win s (pre ++ [⟨(p, q), hx⟩]) = if betB (p, q) (matF n X Y m X' Y' p q s) (foldL n X Y m X' Y' win s pre) then ((p, q), matF n X Y m X' Y' p q s) else foldL n X Y m X' Y' win s pre) := Lib.hid (by rw [foldL_snoc]; rfl)
    have hFW := sF.below hB (by omega)
    have HBW := Lib.hid (HB0.out.trans (hB.mono hzw))
    have hpb : (-2000 ≤ p ∧ p ≤ 2000) ∧ (-2000 ≤ q ∧ q ≤ 2000) := by simp only at hxb; omega
    have HMp : Hid (∀ W, Below w.heap.size w W → Calls Try.prog 95 #[.slice A n c1, .slice B m c2, sp p q, .int .i64 s] W fun e w' => e = .returned (.int .i64 ((matF n X Y m X' Y' p q s : Nat) : Int)) ∧ Below W.heap.size W w') := Lib.hid (fun W h => HM.out p q W hpb.1.1 hpb.1.2 hpb.2.1 hpb.2.2 h)
    have hcm := matF_le n X Y m X' Y' p q s
    generalize foldL n X Y m X' Y' win s pre = st at h12 h13 hsm HSN
    generalize matF n X Y m X' Y' p q s = c at HSN HMp hcm
    obtain ⟨⟨bx, bz⟩, mo⟩ := st
    simp only at h12 h13 hbx
    have hs1 : (-2000 ≤ bx ∧ bx ≤ 2000) ∧ (-2000 ≤ bz ∧ bz ≤ 2000) ∧ mo ≤ 1000 := hsm
    have HSi : Hid (∀ r, smpB (p, q) (bx, bz) = r → ∀ W, Calls Try.prog 97 #[sp p q, sp bx bz] W fun e w' => e = .returned (.bool r) ∧ Below W.heap.size W w') := Lib.hid (fun r h W => simpler_any p q bx bz r (Lib.hid h) W (by omega) (by omega) (by omega) (by omega))
    have k4 : W.cell? ⟨z, 0, none⟩ = some (.slice A n c1) := hFW.a.cell 0
    have k5 : W.cell? ⟨z + 1, 0, none⟩ = some (.slice B m c2) := hFW.b.cell 0
    have k7 : W.cell? ⟨z + 2, 0, none⟩ = some (.int .i64 s) := hFW.s.cell 0
    have kx : W.cell? ⟨Bx, 0, none⟩ = some (.int .i64 p) := hbx.cell 0
    have ky : W.cell? ⟨Bx, 1, none⟩ = some (.int .i64 q) := hbx.cell 1
    have hzW := hB.size
    have HBB := Lib.hid hB
    have H12 := Lib.hid h12
    have H13 := Lib.hid h13
    have HX := Lib.hid hbx
    clear hbx h12 h13 hB hsm hxb hFW sF s12 s13 sA sB sW HM HC1 HC2 HCa HCb HB0
    gi_wp2
    refine ⟨trivial, fun _ => by omega, ?_⟩
    gi_at_call 95
    refine (CallsIn.inRound l (callsIn_wide.2 (HMp.out W HBW.out))).mono ?_
    rintro e W2 ⟨rfl, hb⟩
    have h12 := box_step H12.out hb
    have h13 := box_step H13.out hb
    have hbx := box_step HX.out hb
    have HB2 := Lib.hid (HBB.out.trans (hb.mono (by omega)))
    have HK2 := Lib.hid (Kp2.of_below (n₀ := L12) (D := L13 + 1) hb (by omega))
    have HKo := Lib.hid (KeepsFrom.of_grownBy (B := W0.heap.size) (grown_of_below hb) (fun j e => by cases e))
    have kx : W2.cell? ⟨Bx, 0, none⟩ = some (.int .i64 p) := hbx.cell 0
    have ky : W2.cell? ⟨Bx, 1, none⟩ = some (.int .i64 q) := hbx.cell 1
    have t0 : W2.cell? ⟨L12, 0, none⟩ = some (.int .i64 bx) := h12.cell 0
    have t1 : W2.cell? ⟨L12, 1, none⟩ = some (.int .i64 bz) := h12.cell 1
    have t2 : W2.cell? ⟨L13, 0, none⟩ = some (.int .i64 (mo : Int)) := h13.cell 0
    have f0 : W2.frozen? ⟨L12, 0, none⟩ = false := h12.frozen 0
    have f1 : W2.frozen? ⟨L12, 1, none⟩ = false := h12.frozen 1
    have f2 : W2.frozen? ⟨L13, 0, none⟩ = false := h13.frozen 0
    have l12 := h12.lt
    have l13 := h13.lt
    have lx := hbx.lt
    have h1213 : L12 + 1 ≤ L13 := hsd
    by_cases y1 : mo < c
    · have y2 : decide ((mo : Int) < (c : Int)) = true := decide_eq_true (by omega)
      have HN : Hid (foldL n X Y m X' Y' win s (pre ++ [⟨(p, q), hx⟩]) = ((p, q), c)) := Lib.hid (by rw [HSN.out, betB_lt (p := (p, q)) (st := ((bx, bz), mo)) y1]; rfl)
      gi_wp2
      all_goals (try (rename_i hz1 hz2; cases hz1; done))
      refine And.intro trivial ?_
      gi_wp2
      exact ⟨HKo.out.trans (((KeepsOthers.setCell _ _ _).trans ((KeepsOthers.setCell _ _ _).trans (KeepsOthers.setCell _ _ _))).from _), ((HK2.out.setCell (p := ⟨L12, 0, none⟩) (by show L12 ≤ L12; omega) (by show L12 < L13 + 1; omega) _).setCell (p := ⟨L12, 1, none⟩) (by show L12 ≤ L12; omega) (by show L12 < L13 + 1; omega) _).setCell (p := ⟨L13, 0, none⟩) (by show L12 ≤ L13; omega) (by show L13 < L13 + 1; omega) _,
          ⟨by rw [HN.out]; exact (bset2 h12).other (by omega) 0 _, by rw [HN.out]; exact (bother2 h13 (by omega)).set 0 _⟩, ((HB2.out.setCell (p := ⟨L12, 0, none⟩) (by show L12 ≤ L12; omega) _).setCell (p := ⟨L12, 1, none⟩) (by show L12 ≤ L12; omega) _).setCell (p := ⟨L13, 0, none⟩) (by show L12 ≤ L13; omega) _⟩
    · have y2 : decide ((mo : Int) < (c : Int)) = false := decide_eq_false (by omega)
      by_cases y3 : c = mo
      · subst y3
        have y4 : ((c : Int) == (c : Int)) = true := by simp
        obtain ⟨r, hr⟩ : ∃ r, smpB (p, q) (bx, bz) = r := ⟨_, rfl⟩
        have HSr := Lib.hid (HSi.out r hr)
        have HBt : Hid (betB (p, q) c ((bx, bz), c) = r) := Lib.hid (by unfold betB; simp [hr])
        clear hr
        gi_wp2
        refine ⟨trivial, fun _ => by omega, ?_⟩
        gi_at_call 97
        refine (CallsIn.inRound l (callsIn_wide.2 (HSr.out W2))).mono ?_
        rintro e W3 ⟨rfl, hb3⟩
        replace h12 := box_step h12 hb3
        replace h13 := box_step h13 hb3
        replace hbx := box_step hbx hb3
        replace HB2 := Lib.hid (HB2.out.trans (hb3.mono (by have := hb.size; omega)))
        replace HK2 := Lib.hid (HK2.out.trans (Kp2.of_below (n₀ := L12) (D := L13 + 1) hb3 (by have := hb.size; omega)))
        replace HKo := Lib.hid (HKo.out.trans (KeepsFrom.of_grownBy (B := W0.heap.size) (grown_of_below hb3) (fun j e => by cases e)))
        clear kx ky t0 t1 t2 f0 f1 f2 l12 l13 lx
        have kx : W3.cell? ⟨Bx, 0, none⟩ = some (.int .i64 p) := hbx.cell 0
        have ky : W3.cell? ⟨Bx, 1, none⟩ = some (.int .i64 q) := hbx.cell 1
        have t0 : W3.cell? ⟨L12, 0, none⟩ = some (.int .i64 bx) := h12.cell 0
        have t1 : W3.cell? ⟨L12, 1, none⟩ = some (.int .i64 bz) := h12.cell 1
        have t2 : W3.cell? ⟨L13, 0, none⟩ = some (.int .i64 (c : Int)) := h13.cell 0
        have f0 : W3.frozen? ⟨L12, 0, none⟩ = false := h12.frozen 0
        have f1 : W3.frozen? ⟨L12, 1, none⟩ = false := h12.frozen 1
        have f2 : W3.frozen? ⟨L13, 0, none⟩ = false := h13.frozen 0
        have l12 := h12.lt
        have l13 := h13.lt
        have lx := hbx.lt
        cases r with
        | true =>
          have HN : Hid (foldL n X Y m X' Y' win s (pre ++ [⟨(p, q), hx⟩]) = ((p, q), c)) := Lib.hid (by rw [HSN.out, HBt.out]; rfl)
          gi_wp2
          exact ⟨HKo.out.trans (((KeepsOthers.setCell _ _ _).trans ((KeepsOthers.setCell _ _ _).trans (KeepsOthers.setCell _ _ _))).from _), ((HK2.out.setCell (p := ⟨L12, 0, none⟩) (by show L12 ≤ L12; omega) (by show L12 < L13 + 1; omega) _).setCell (p := ⟨L12, 1, none⟩) (by show L12 ≤ L12; omega) (by show L12 < L13 + 1; omega) _).setCell (p := ⟨L13, 0, none⟩) (by show L12 ≤ L13; omega) (by show L13 < L13 + 1; omega) _,
          ⟨by rw [HN.out]; exact (bset2 h12).other (by omega) 0 _, by rw [HN.out]; exact (bother2 h13 (by omega)).set 0 _⟩, ((HB2.out.setCell (p := ⟨L12, 0, none⟩) (by show L12 ≤ L12; omega) _).setCell (p := ⟨L12, 1, none⟩) (by show L12 ≤ L12; omega) _).setCell (p := ⟨L13, 0, none⟩) (by show L12 ≤ L13; omega) _⟩
        | false =>
          have HN : Hid (foldL n X Y m X' Y' win s (pre ++ [⟨(p, q), hx⟩]) = ((bx, bz), c)) := Lib.hid (by rw [HSN.out, HBt.out]; rfl)
          gi_wp2
          exact ⟨HKo.out, HK2.out, ⟨by rw [HN.out]; exact h12, by rw [HN.out]; exact h13⟩, HB2.out⟩
      · have y4 : ((c : Int) == (mo : Int)) = false := by simp; omega
        have HN : Hid (foldL n X Y m X' Y' win s (pre ++ [⟨(p, q), hx⟩]) = ((bx, bz), mo)) := Lib.hid (by rw [HSN.out, betB_ne (p := (p, q)) (st := ((bx, bz), mo)) y1 y3]; rfl)
        gi_wp2
        refine And.intro trivial ?_
        gi_wp2
        exact ⟨HKo.out, HK2.out, ⟨by rw [HN.out]; exact h12, by rw [HN.out]; exact h13⟩, HB2.out⟩
  case done =>
    rintro D ys W hD rfl ⟨⟨h12, h13⟩, hB⟩ hK
    rw [foldI] at h12 h13
    have hFW := sF.below hB (by omega)
    generalize regI n X Y m X' Y' win s n = st at *
    obtain ⟨⟨bx, bz⟩, mo⟩ := st
    simp only at h12 h13
    have t0 : W.cell? ⟨L12, 0, none⟩ = some (.int .i64 bx) := h12.cell 0
    have t1 : W.cell? ⟨L12, 1, none⟩ = some (.int .i64 bz) := h12.cell 1
    have t2 : W.cell? ⟨L13, 0, none⟩ = some (.int .i64 (mo : Int)) := h13.cell 0
    have v0 : W.frozen? ⟨z + 3, 0, none⟩ = false := hFW.r.frozen 0
    have v1 : W.frozen? ⟨z + 3, 1, none⟩ = false := hFW.r.frozen 1
    have r0 : W.cell? ⟨z + 3, 0, none⟩ = some (.int .i64 0) := hFW.r.cell 0
    have r1 : W.cell? ⟨z + 3, 1, none⟩ = some (.int .i64 0) := hFW.r.cell 1
    have lr := hFW.r.lt
    have l12 := h12.lt
    have l13 := h13.lt
    gi_wp2
    refine wpIn_wide.2 ?_
    go_region
    gi_wp2
    have hK2 : (((W.setCell ⟨z + 3, 0, none⟩ (.int .i64 bx)).setCell ⟨z + 3, 1, none⟩ (.int .i64 bz)).drew).heap[D]? = some (.deferred (some [])) := (((KeepsOthers.setCell W ⟨z + 3, 0, none⟩ (.int .i64 bx)).trans (KeepsOthers.setCell _ ⟨z + 3, 1, none⟩ (.int .i64 bz))).trans (KeepsOthers.drew _)).same D _ hK rfl
    have hbz : Below w.heap.size w (((W.setCell ⟨z + 3, 0, none⟩ (.int .i64 bx)).setCell ⟨z + 3, 1, none⟩ (.int .i64 bz)).drew) := (bbel2 (HB0.out.trans (hB.mono hzw)) (by have := HZ.out; omega) _ _).drew
    have hrz : BoxAt (((W.setCell ⟨z + 3, 0, none⟩ (.int .i64 bx)).setCell ⟨z + 3, 1, none⟩ (.int .i64 bz)).drew) (z + 3) 24 #[.int .i64 bx, .int .i64 bz] := BoxAt.drew (bset2 hFW.r)
    have hrz2 : BoxAt ((((W.setCell ⟨z + 3, 0, none⟩ (.int .i64 bx)).setCell ⟨z + 3, 1, none⟩ (.int .i64 bz)).drew).putObj D (.deferred none)) (z + 3) 24 #[.int .i64 bx, .int .i64 bz] := (World.putObj_heap_other (by omega)).trans hrz
    refine ⟨by simp, .inl ⟨_, _, rfl, run_takeDeferred hK2, ?_⟩⟩
    have hbz2 := after_loop hbz (by omega) hK2
    generalize (((W.setCell ⟨z + 3, 0, none⟩ (.int .i64 bx)).setCell ⟨z + 3, 1, none⟩ (.int .i64 bz)).drew).putObj D (.deferred none) = Wz at *
    have z0 : Wz.cell? ⟨z + 3, 0, none⟩ = some (.int .i64 bx) := hrz2.cell 0
    have z1 : Wz.cell? ⟨z + 3, 1, none⟩ = some (.int .i64 bz) := hrz2.cell 1
    exact ⟨.tuple #[.agg #[.int .i64 bx, .int .i64 bz], .int .i64 ((mo : Nat) : Int), .int .i64 0], by simp [results, Try.results49, go_sem, z0, z1], rfl, hbz2⟩
  case stop =>
    rintro D cd pre W _ _ h _
    exact h.elim

theorem register_good (A : Option Addr) (n c1 : Nat) (X Y V : Nat → Int) (B : Option Addr) (m c2 : Nat) (X' Y' V' : Nat → Int) (win s : Int) (hok : chkF n X Y V = 0) (hok' : chkF m X' Y' V' = 0)
    (hn : n ≤ 60) (hm : m ≤ 60) (w0 : 0 ≤ win) (w1 : win ≤ 2000) (s0 : 0 ≤ s) (s1 : s ≤ 2000) (w : World) (hc1 : Cloud w A n X Y V) (hc2 : Cloud w B m X' Y' V') :
    Calls Try.prog 49 #[.slice A n c1, .slice B m c2, .int .i64 win, .int .i64 s] w (RegPost (regI n X Y m X' Y' win s n).1 (regI n X Y m X' Y' win s n).2 0 w) :=
  callsIn_wide.1 (register_in 3 (Nat.le_refl _) A n c1 X Y V B m c2 X' Y' V' win s hok hok' hn hm w0 w1 s0 s1 w hc1 hc2)
end Go.Proofs.Ytaehfildhmljeaa

namespace Go.Proofs.Ytaehfildhmljeaa
open Go.RowKit Go.Shelf

set_option maxRecDepth 100000 in
set_option maxHeartbeats 4000000 in
theorem register_bad (A : Option Addr) (n c1 : Nat) (X Y V : Nat → Int) (B : Option Addr) (m c2 : Nat) (X' Y' V' : Nat → Int) (win s : Int) (w : World) (hc1 : Cloud w A n X Y V) (hc2 : Cloud w B m X' Y' V') (hne : regE n X Y V m X' Y' V' win s ≠ 0) :
    Calls Try.prog 49 #[.slice A n c1, .slice B m c2, .int .i64 win, .int .i64 s] w fun e w' => e = .returned (.tuple #[sp 0 0, .int .i64 0, .int .i64 (regE n X Y V m X' Y' V' win s)]) ∧ Below w.heap.size w w' := by
  have HF := Lib.hid (Fst.new w A n c1 B m c2 s)
  have hB0 : Below w.heap.size w ((((w.alloc (.cells #[.slice A n c1] 22)).alloc (.cells #[.slice B m c2] 22)).alloc (.cells #[.int .i64 s] 2)).alloc (.cells #[.int .i64 0, .int .i64 0] 24)) := ((((Below.refl _ w).alloc (Nat.le_refl _) _).alloc (by simp) _).alloc (by simp; omega) _).alloc (by simp; omega) _
  have HK := Lib.hid (ckreg_any A n c1 X Y V B m c2 X' Y' V' win s _ (hc1.below hB0) (hc2.below hB0))
  have hS0 : ((((w.alloc (.cells #[.slice A n c1] 22)).alloc (.cells #[.slice B m c2] 22)).alloc (.cells #[.int .i64 s] 2)).alloc (.cells #[.int .i64 0, .int .i64 0] 24)).heap.size = w.heap.size + 4 := by simp
  have HB0 := Lib.hid hB0
  have HS0 := Lib.hid hS0
  obtain ⟨r, hr⟩ : ∃ r, r = regE n X Y V m X' Y' V' win s := ⟨_, rfl⟩
  rw [← hr] at HK hne ⊢
  have hrb : (r == 0) = false := by simp [hne]
  have hrn : (r != 0) = true := by simp [hne]
  clear hc1 hc2 hB0 hS0 hr
  go_enter Try.func49, Try.ntmps49
  go_upto_region 1 with fail
  obtain ⟨z, hz⟩ : ∃ z, z = w.heap.size := ⟨_, rfl⟩
  rw [show w.heap.size + 1 + 1 + 1 = w.heap.size + 3 from rfl, show w.heap.size + 1 + 1 = w.heap.size + 2 from rfl]
  rw [← hz] at HF HS0 ⊢
  have HZ := Lib.hid hz
  clear hz
  generalize ((((w.alloc (.cells #[.slice A n c1] 22)).alloc (.cells #[.slice B m c2] 22)).alloc (.cells #[.int .i64 s] 2)).alloc (.cells #[.int .i64 0, .int .i64 0] 24)) = wa at *
  have k4 : wa.cell? ⟨z, 0, none⟩ = some (.slice A n c1) := HF.out.a.cell 0
  have k5 : wa.cell? ⟨z + 1, 0, none⟩ = some (.slice B m c2) := HF.out.b.cell 0
  have k7 : wa.cell? ⟨z + 2, 0, none⟩ = some (.int .i64 s) := HF.out.s.cell 0
  have HLL := Lib.hid (show z + 3 < wa.heap.size by have := HS0.out; omega)
  go_upto_region 2 with (go_at_call 94; (with_reducible refine HK.out.mono ?_); rintro e wb ⟨rfl, hb1⟩)
  have hr1 := (HF.out.below hb1 HLL.out).r
  have HBb := Lib.hid (below_step HB0.out hb1)
  have r0 : wb.cell? ⟨z + 3, 0, none⟩ = some (.int .i64 0) := hr1.cell 0
  have r1 : wb.cell? ⟨z + 3, 1, none⟩ = some (.int .i64 0) := hr1.cell 1
  have v0 : wb.frozen? ⟨z + 3, 0, none⟩ = false := hr1.frozen 0
  have v1 : wb.frozen? ⟨z + 3, 1, none⟩ = false := hr1.frozen 1
  have lr := hr1.lt
  have HBz := Lib.hid (bbel2 HBb.out (by have := HZ.out; omega : w.heap.size ≤ z + 3) (.int .i64 0) (.int .i64 0))
  have HR := Lib.hid (bset2 (a := .int .i64 0) (b := .int .i64 0) hr1)
  clear hb1 hr1 k4 k5 k7 HF HK
  go_wp2
  have z0 := HR.out.cell 0
  have z1 := HR.out.cell 1
  generalize ((wb.setCell ⟨z + 3, 0, none⟩ (.int .i64 0)).setCell ⟨z + 3, 1, none⟩ (.int .i64 0)) = wz at *
  replace z0 : wz.cell? ⟨z + 3, 0, none⟩ = some (.int .i64 0) := z0
  replace z1 : wz.cell? ⟨z + 3, 1, none⟩ = some (.int .i64 0) := z1
  exact bodyPost_ret (v := .tuple #[.agg #[.int .i64 0, .int .i64 0], .int .i64 0, .int .i64 r]) (by simp [results, Try.results49, go_sem, z0, z1]) rfl ⟨rfl, HBz.out⟩

/-- What Register answers. -/
def rgV (n : Nat) (X Y V : Nat → Int) (m : Nat) (X' Y' V' : Nat → Int) (win s : Int) : Pt × Nat := if regE n X Y V m X' Y' V' win s = 0 then regI n X Y m X' Y' win s n else ((0, 0), 0)
theorem regE_zero {n : Nat} {X Y V : Nat → Int} {m : Nat} {X' Y' V' : Nat → Int} {win s : Int} (h : regE n X Y V m X' Y' V' win s = 0) :
    chkF n X Y V = 0 ∧ chkF m X' Y' V' = 0 ∧ n ≤ 60 ∧ m ≤ 60 ∧ 0 ≤ win ∧ win ≤ 2000 ∧ 0 ≤ s ∧ s ≤ 2000 := by
  by_cases h1 : chkF n X Y V = 0
  · by_cases h2 : chkF m X' Y' V' = 0
    · by_cases h3 : 60 < n ∨ 60 < m
      · rw [regE_c h1 h2 h3] at h; cases h
      · by_cases h4 : 0 ≤ win ∧ win ≤ 2000 ∧ 0 ≤ s ∧ s ≤ 2000
        · exact ⟨h1, h2, by omega, by omega, h4⟩
        · rw [regE_d h1 h2 h3 h4] at h; cases h
    · rw [regE_b h1 h2] at h; exact absurd h h2
  · rw [regE_a h1] at h; exact absurd h h1
theorem register_any (A : Option Addr) (n c1 : Nat) (X Y V : Nat → Int) (B : Option Addr) (m c2 : Nat) (X' Y' V' : Nat → Int) (win s : Int) (w : World) (hc1 : Cloud w A n X Y V) (hc2 : Cloud w B m X' Y' V') :
    Calls Try.prog 49 #[.slice A n c1, .slice B m c2, .int .i64 win, .int .i64 s] w (RegPost (rgV n X Y V m X' Y' V' win s).1 (rgV n X Y V m X' Y' V' win s).2 (regE n X Y V m X' Y' V' win s) w) := by
  by_cases h : regE n X Y V m X' Y' V' win s = 0
  · obtain ⟨h1, h2, h3, h4, h5, h6, h7, h8⟩ := regE_zero h
    have := register_good A n c1 X Y V B m c2 X' Y' V' win s h1 h2 h3 h4 h5 h6 h7 h8 w hc1 hc2
    unfold rgV
    rw [if_pos h, h]
    exact this
  · have := register_bad A n c1 X Y V B m c2 X' Y' V' win s w hc1 hc2 h
    unfold rgV
    rw [if_neg h]
    exact this
theorem rregister_any (A : Option Addr) (n c1 : Nat) (X Y V : Nat → Int) (B : Option Addr) (m c2 : Nat) (X' Y' V' : Nat → Int) (win s : Int) (w : World) (hc1 : Cloud w A n X Y V) (hc2 : Cloud w B m X' Y' V') :
    Calls Try.prog 50 #[.slice A n c1, .slice B m c2, .int .i64 win, .int .i64 s] w (RegPost (rgV n X Y V m X' Y' V' win s).1 (rgV n X Y V m X' Y' V' win s).2 (regE n X Y V m X' Y' V' win s) w) := by
  by_cases h : regE n X Y V m X' Y' V' win s = 0
  · obtain ⟨h1, h2, h3, h4, h5, h6, h7, h8⟩ := regE_zero h
    have := rregister_good A n c1 X Y V B m c2 X' Y' V' win s h1 h2 h3 h4 h5 h6 h7 h8 w hc1 hc2
    unfold rgV
    rw [if_pos h, h]
    exact this
  · have := rregister_bad A n c1 X Y V B m c2 X' Y' V' win s w hc1 hc2 h
    unfold rgV
    rw [if_neg h]
    exact this
end Go.Proofs.Ytaehfildhmljeaa
