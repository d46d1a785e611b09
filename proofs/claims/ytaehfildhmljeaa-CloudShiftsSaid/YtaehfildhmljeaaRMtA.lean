/- Agreeing spots. How many points match a shift. The reference's Matches, and the program's, of any clouds. Matches of any clouds, any shift and slack: the program's and the reference's. The reference's Matches of any clouds, any shift and slack. -/
import Derived.Test.YtaehfildhmljeaaCmp
import Derived.Test.YtaehfildhmljeaaShfA
import Derived.Test.YtaehfildhmljeaaShfW
import Derived.Test.YtaehfildhmljeaaRChC
namespace Go.Proofs.Ytaehfildhmljeaa
open Go.RowKit Go.Shelf

/-- Two spots agree. -/
def agrB (p q : Pt) (s : Int) : Bool := decide (dsF p.1 q.1 ≤ s) && decide (dsF p.2 q.2 ≤ s)
set_option maxRecDepth 100000 in
set_option maxHeartbeats 2000000 in
theorem agree_any (a b c d s : Int) (r : Bool) (hr : Hid (agrB (a, b) (c, d) s = r)) (w : World) (h1 : -1073741824 ≤ a - c) (h2 : a - c ≤ 1073741824) (h3 : -1073741824 ≤ b - d) (h4 : b - d ≤ 1073741824) :
    Calls Try.prog 122 #[sp a b, sp c d, .int .i64 s] w fun e w' => e = .returned (.bool r) ∧ Below w.heap.size w w' := by
  have HX := Lib.hid (fun W => dist1_any a c W h1 h2)
  have HY := Lib.hid (fun W => dist1_any b d W h3 h4)
  have HE : Hid (r = (decide (dsF a c ≤ s) && decide (dsF b d ≤ s))) := Lib.hid hr.out.symm
  obtain ⟨u, hu⟩ : ∃ u, u = dsF a c := ⟨_, rfl⟩
  obtain ⟨v, hv⟩ : ∃ v, v = dsF b d := ⟨_, rfl⟩
  rw [← hu] at HX HE
  rw [← hv] at HY HE
  clear hu hv hr h1 h2 h3 h4
  have ha := (BoxAt.new w 24 #[.int .i64 a, .int .i64 b]).alloc (.cells #[.int .i64 c, .int .i64 d] 24)
  have hb := BoxAt.new (w.alloc (.cells #[.int .i64 a, .int .i64 b] 24)) 24 #[.int .i64 c, .int .i64 d]
  have HB := Lib.hid (((Below.refl w.heap.size w).alloc (Nat.le_refl _) (.cells #[.int .i64 a, .int .i64 b] 24)).alloc (by simp) (.cells #[.int .i64 c, .int .i64 d] 24))
  simp only [World.size_alloc] at hb
  by_cases hu : u ≤ s
  · by_cases hv : v ≤ s
    · obtain rfl : r = true := by rw [HE.out]; simp [hu, hv]
      clear HE
      go_enter Try.func122, Try.ntmps122
      go_upto_region 1 with fail
      obtain ⟨L, hL⟩ : ∃ z, z = w.heap.size := ⟨_, rfl⟩
      rw [← hL] at ha hb ⊢
      clear hL
      generalize (w.alloc (.cells #[.int .i64 a, .int .i64 b] 24)).alloc (.cells #[.int .i64 c, .int .i64 d] 24) = wx at *
      have p0 : wx.cell? ⟨L, 0, none⟩ = some (.int .i64 a) := ha.cell 0
      have p1 : wx.cell? ⟨L, 1, none⟩ = some (.int .i64 b) := ha.cell 1
      have p2 : wx.cell? ⟨L + 1, 0, none⟩ = some (.int .i64 c) := hb.cell 0
      have p3 : wx.cell? ⟨L + 1, 1, none⟩ = some (.int .i64 d) := hb.cell 1
      have l1 := ha.lt
      have l2 := hb.lt
      go_wp2_with (first
        | (go_at_call 137; (with_reducible refine (HX.out _).mono ?_); rintro e w1 ⟨rfl, rfl⟩)
        | (go_at_call 137; (with_reducible refine (HY.out _).mono ?_); rintro e w1 ⟨rfl, rfl⟩))
      go_ret
      exact ⟨rfl, HB.out⟩
    · obtain rfl : r = false := by rw [HE.out]; simp [hv]
      have HNV := Lib.hid hv
      clear HE hv
      go_enter Try.func122, Try.ntmps122
      go_upto_region 1 with fail
      obtain ⟨L, hL⟩ : ∃ z, z = w.heap.size := ⟨_, rfl⟩
      rw [← hL] at ha hb ⊢
      clear hL
      generalize (w.alloc (.cells #[.int .i64 a, .int .i64 b] 24)).alloc (.cells #[.int .i64 c, .int .i64 d] 24) = wx at *
      have p0 : wx.cell? ⟨L, 0, none⟩ = some (.int .i64 a) := ha.cell 0
      have p1 : wx.cell? ⟨L, 1, none⟩ = some (.int .i64 b) := ha.cell 1
      have p2 : wx.cell? ⟨L + 1, 0, none⟩ = some (.int .i64 c) := hb.cell 0
      have p3 : wx.cell? ⟨L + 1, 1, none⟩ = some (.int .i64 d) := hb.cell 1
      have l1 := ha.lt
      have l2 := hb.lt
      have hvd : decide (v ≤ s) = false := decide_eq_false HNV.out
      go_wp2_with (first
        | (go_at_call 137; (with_reducible refine (HX.out _).mono ?_); rintro e w1 ⟨rfl, rfl⟩)
        | (go_at_call 137; (with_reducible refine (HY.out _).mono ?_); rintro e w1 ⟨rfl, rfl⟩))
      go_ret
      exact ⟨rfl, HB.out⟩
  · obtain rfl : r = false := by rw [HE.out]; simp [hu]
    have HNV := Lib.hid hu
    clear HE hu
    go_enter Try.func122, Try.ntmps122
    go_upto_region 1 with fail
    obtain ⟨L, hL⟩ : ∃ z, z = w.heap.size := ⟨_, rfl⟩
    rw [← hL] at ha hb ⊢
    clear hL
    generalize (w.alloc (.cells #[.int .i64 a, .int .i64 b] 24)).alloc (.cells #[.int .i64 c, .int .i64 d] 24) = wx at *
    have p0 : wx.cell? ⟨L, 0, none⟩ = some (.int .i64 a) := ha.cell 0
    have p1 : wx.cell? ⟨L, 1, none⟩ = some (.int .i64 b) := ha.cell 1
    have p2 : wx.cell? ⟨L + 1, 0, none⟩ = some (.int .i64 c) := hb.cell 0
    have p3 : wx.cell? ⟨L + 1, 1, none⟩ = some (.int .i64 d) := hb.cell 1
    have l1 := ha.lt
    have l2 := hb.lt
    have hvd : decide (u ≤ s) = false := decide_eq_false HNV.out
    go_wp2_with (first
      | (go_at_call 137; (with_reducible refine (HX.out _).mono ?_); rintro e w1 ⟨rfl, rfl⟩)
      | (go_at_call 137; (with_reducible refine (HY.out _).mono ?_); rintro e w1 ⟨rfl, rfl⟩))
    go_ret
    exact ⟨rfl, HB.out⟩

end Go.Proofs.Ytaehfildhmljeaa

namespace Go.Proofs.Ytaehfildhmljeaa
open Go.RowKit Go.Shelf

def anyB (p : Nat → Bool) : Nat → Bool
  | 0 => false
  | k + 1 => anyB p k || p k
def cntB (p : Nat → Bool) : Nat → Nat
  | 0 => 0
  | k + 1 => cntB p k + if p k then 1 else 0
theorem cntB_le (p : Nat → Bool) (k : Nat) : cntB p k ≤ k := by
  induction k with
  | zero => exact Nat.le_refl _
  | succ k ih => unfold cntB; split <;> omega
/-- Some one of the n points agrees with the place. -/
def hitB (n : Nat) (X Y : Nat → Int) (p q s : Int) : Bool := anyB (fun i => agrB (p, q) (X i, Y i) s) n
/-- How many of the m points match. -/
def matF (n : Nat) (X Y : Nat → Int) (m : Nat) (X' Y' : Nat → Int) (a b s : Int) : Nat := cntB (fun j => hitB n X Y (X' j + a) (Y' j + b) s) m
theorem anyB_hit {p : Nat → Bool} {i n : Nat} (hi : i < n) (h : p i = true) : anyB p n = true := by
  induction n with
  | zero => omega
  | succ n ih =>
    unfold anyB
    by_cases he : i = n
    · subst he; rw [h]; simp
    · rw [ih (by omega)]; rfl

set_option maxRecDepth 100000 in
set_option maxHeartbeats 16000000 in
theorem matches_any (A : Option Addr) (n c1 : Nat) (X Y V : Nat → Int) (B : Option Addr) (m c2 : Nat) (X' Y' V' : Nat → Int) (a b s : Int) (hn : n ≤ 1000) (hm : m ≤ 1000) (ho : ∀ i, i < n → okc (X i) ∧ okc (Y i)) (ho' : ∀ i, i < m → okc (X' i) ∧ okc (Y' i))
    (ha1 : -33554432 ≤ a) (ha2 : a ≤ 33554432) (hb1 : -33554432 ≤ b) (hb2 : b ≤ 33554432) (w : World) (hc1 : Cloud w A n X Y V) (hc2 : Cloud w B m X' Y' V') :
    Calls Try.prog 95 #[.slice A n c1, .slice B m c2, sp a b, .int .i64 s] w fun e w' => e = .returned (.int .i64 ((matF n X Y m X' Y' a b s : Nat) : Int)) ∧ Below w.heap.size w w' := by
  have HO := Lib.hid ho
  have HO' := Lib.hid ho'
  have HC1 := Lib.hid hc1
  have HC2 := Lib.hid hc2
  clear ho ho' hc1 hc2
  go_enter Try.func95, Try.ntmps95
  go_upto_region 1 with fail
  have hbx := BoxAt.new w 24 #[.int .i64 a, .int .i64 b]
  have hB : Below w.heap.size w (w.alloc (.cells #[.int .i64 a, .int .i64 b] 24)) := (Below.refl _ w).alloc (Nat.le_refl _) _
  obtain ⟨L6, hL6⟩ : ∃ z, z = w.heap.size := ⟨_, rfl⟩
  rw [← hL6] at hbx ⊢
  clear hL6
  have HC1x := Lib.hid (HC1.out.below hB)
  have HC2x := Lib.hid (HC2.out.below hB)
  have HBx := Lib.hid hB
  have HBB := Lib.hid hbx
  clear hB hbx HC1 HC2
  generalize w.alloc (.cells #[.int .i64 a, .int .i64 b] 24) = wx at *
  have I : ∃ (k t : Nat), k ≤ m ∧ (Value.int .i64 0) = .int .i64 t ∧ (Value.int .i64 0) = .int .i64 k ∧ Hid (t = cntB (fun j => hitB n X Y (X' j + a) (Y' j + b) s) k) ∧ Hid (Below wx.heap.size wx wx) := ⟨0, 0, Nat.zero_le _, rfl, rfl, Lib.hid rfl, Lib.hid (Below.refl _ _)⟩
  go_wp2
  go_loopw [9, 17] (fun tv kv wr => ∃ (k t : Nat), k ≤ m ∧ tv = .int .i64 t ∧ kv = .int .i64 k ∧ Hid (t = cntB (fun j => hitB n X Y (X' j + a) (Y' j + b) s) k) ∧ Hid (Below wx.heap.size wx wr)) (fun _ kv _ => m + 1 - (intOf kv).toNat)
  case atStart => exact I
  case round =>
    clear I
    obtain ⟨k, t, hk, rfl, rfl, HT, HB⟩ := hrel
    by_cases hlt : k < m
    · have k0 : (0 : Int) ≤ (k : Int) := Int.natCast_nonneg _
      have k1 : (k : Int) < (m : Int) := by omega
      obtain ⟨b2, o2, e2, hp2⟩ := HC2x.out (by omega)
      subst e2
      have q2 := hp2.lt (by omega)
      have l2 : b2 < wr.heap.size := Nat.lt_of_lt_of_le q2 HB.out.size
      obtain ⟨d0, d1, d2⟩ := (hp2.below HB.out q2) k hlt
      have HPl := Lib.hid (fun W => moved_any (X' k) (Y' k) (V' k) a b W (HO'.out k hlt).1 (HO'.out k hlt).2 ha1 ha2 hb1 hb2)
      have hbq := (HO'.out k hlt)
      have ht := cntB_le (fun j => hitB n X Y (X' j + a) (Y' j + b) s) k
      have htt : t ≤ k := by rw [HT.out]; exact ht
      clear hp2 ht
      go_upto_region 5 with fail
      have hb3 : Below wr.heap.size wr (wr.alloc (.cells #[.int .i64 (X' k), .int .i64 (Y' k), .int .i64 (V' k)] 69)) := (Below.refl _ wr).alloc (Nat.le_refl _) _
      have hbp := BoxAt.new wr 69 #[.int .i64 (X' k), .int .i64 (Y' k), .int .i64 (V' k)]
      have HB3 := Lib.hid (below_step HB.out hb3)
      have HBB3 := Lib.hid (box_step HBB.out HB3.out)
      obtain ⟨Lq, hLq⟩ : ∃ z, z = wr.heap.size := ⟨_, rfl⟩
      rw [← hLq] at hbp ⊢
      clear d0 d1 d2 l2 hLq hb3 HB
      obtain ⟨wo, rfl⟩ : ∃ x : World, x = wr := ⟨_, rfl⟩
      generalize wo.alloc (.cells #[.int .i64 (X' k), .int .i64 (Y' k), .int .i64 (V' k)] 69) = w3 at *
      have p0 : w3.cell? ⟨Lq, 0, none⟩ = some (.int .i64 (X' k)) := hbp.cell 0
      have p1 : w3.cell? ⟨Lq, 1, none⟩ = some (.int .i64 (Y' k)) := hbp.cell 1
      have p2 : w3.cell? ⟨Lq, 2, none⟩ = some (.int .i64 (V' k)) := hbp.cell 2
      have p3 : w3.cell? ⟨L6, 0, none⟩ = some (.int .i64 a) := HBB3.out.cell 0
      have p4 : w3.cell? ⟨L6, 1, none⟩ = some (.int .i64 b) := HBB3.out.cell 1
      have p5 := hbp.lt
      have p6 := HBB3.out.lt
      go_upto_region 6 with (go_at_call 59; (with_reducible refine (HPl.out _).mono ?_); rintro e w4 ⟨rfl, hb4⟩)
      have hb5 : Below w4.heap.size w4 (w4.alloc (.cells #[.int .i64 (X' k + a), .int .i64 (Y' k + b)] 24)) := (Below.refl _ w4).alloc (Nat.le_refl _) _
      have hbr := BoxAt.new w4 24 #[.int .i64 (X' k + a), .int .i64 (Y' k + b)]
      have HB5 := Lib.hid (below_step (below_step HB3.out hb4) hb5)
      obtain ⟨Lr, hLr⟩ : ∃ z, z = w4.heap.size := ⟨_, rfl⟩
      rw [← hLr] at hbr ⊢
      clear p0 p1 p2 p3 p4 p5 p6 hLr hb4 hb5 HB3 hbp HBB3
      generalize w4.alloc (.cells #[.int .i64 (X' k + a), .int .i64 (Y' k + b)] 24) = w5 at *
      have HBR := Lib.hid hbr
      have HBq2 := Lib.hid hbq
      have HT2 : Hid (∀ r, hitB n X Y (X' k + a) (Y' k + b) s = r → cntB (fun j => hitB n X Y (X' j + a) (Y' j + b) s) (k + 1) = t + if r = true then 1 else 0) := Lib.hid (fun r hr => by
        unfold cntB
        rw [← HT.out, hr])
      clear hbr hbq HPl
      go_wp2
      go_loopw [9, 26] (fun tv iv wr => ∃ i : Nat, i ≤ n ∧ tv = .int .i64 t ∧ iv = .int .i64 i ∧ Hid (anyB (fun i => agrB (X' k + a, Y' k + b) (X i, Y i) s) i = false) ∧ Hid (Below w5.heap.size w5 wr)) (fun _ iv _ => n + 1 - (intOf iv).toNat)
      case atStart => exact ⟨0, Nat.zero_le _, rfl, rfl, Lib.hid rfl, Lib.hid (Below.refl _ _)⟩
      case round =>
        obtain ⟨i, hi, rfl, rfl, HF, HBi⟩ := hrel
        by_cases hli : i < n
        · have i0 : (0 : Int) ≤ (i : Int) := Int.natCast_nonneg _
          have i1 : (i : Int) < (n : Int) := by omega
          obtain ⟨b1, o1, e1, hp1⟩ := HC1x.out (by omega)
          subst e1
          have q1 := hp1.lt (by omega)
          have hBxi : Below wx.heap.size wx wr := below_step HB5.out HBi.out
          have l1 : b1 < wr.heap.size := Nat.lt_of_lt_of_le q1 hBxi.size
          obtain ⟨d0, d1, d2⟩ := (hp1.below hBxi q1) i hli
          obtain ⟨r, hr⟩ : ∃ r, r = agrB (X' k + a, Y' k + b) (X i, Y i) s := ⟨_, rfl⟩
          have hoi := HO.out i hli
          have hok := HBq2.out
          unfold okc at hoi hok
          have HAg := Lib.hid (fun W => agree_any (X' k + a) (Y' k + b) (X i) (Y i) s r (Lib.hid hr.symm) W (by omega) (by omega) (by omega) (by omega))
          have HRr := Lib.hid hr
          clear hr hoi hok hp1 hBxi
          go_upto_region 9 with fail
          have hbp := BoxAt.new wr 69 #[.int .i64 (X i), .int .i64 (Y i), .int .i64 (V i)]
          have HBr := Lib.hid (below_step HBi.out ((Below.refl _ wr).alloc (Nat.le_refl _) (.cells #[.int .i64 (X i), .int .i64 (Y i), .int .i64 (V i)] 69)))
          obtain ⟨Lp, hLp⟩ : ∃ z, z = wr.heap.size := ⟨_, rfl⟩
          rw [← hLp] at hbp ⊢
          clear d0 d1 d2 l1 hLp HBi
          generalize wr.alloc (.cells #[.int .i64 (X i), .int .i64 (Y i), .int .i64 (V i)] 69) = w6 at *
          have HBR6 := Lib.hid (box_step HBR.out HBr.out)
          have g0 : w6.cell? ⟨Lp, 0, none⟩ = some (.int .i64 (X i)) := hbp.cell 0
          have g1 : w6.cell? ⟨Lp, 1, none⟩ = some (.int .i64 (Y i)) := hbp.cell 1
          have g2 : w6.cell? ⟨Lp, 2, none⟩ = some (.int .i64 (V i)) := hbp.cell 2
          have g3 : w6.cell? ⟨Lr, 0, none⟩ = some (.int .i64 (X' k + a)) := HBR6.out.cell 0
          have g4 : w6.cell? ⟨Lr, 1, none⟩ = some (.int .i64 (Y' k + b)) := HBR6.out.cell 1
          have f0 : ∀ n os, (grd w6 n os).cell? ⟨Lp, 0, none⟩ = some (.int .i64 (X i)) := cell_grd g0
          have f1 : ∀ n os, (grd w6 n os).cell? ⟨Lp, 1, none⟩ = some (.int .i64 (Y i)) := cell_grd g1
          have f2 : ∀ n os, (grd w6 n os).cell? ⟨Lp, 2, none⟩ = some (.int .i64 (V i)) := cell_grd g2
          have f3 : ∀ n os, (grd w6 n os).cell? ⟨Lr, 0, none⟩ = some (.int .i64 (X' k + a)) := cell_grd g3
          have f4 : ∀ n os, (grd w6 n os).cell? ⟨Lr, 1, none⟩ = some (.int .i64 (Y' k + b)) := cell_grd g4
          clear g0 g1 g2 g3 g4 hbp
          cases r with
          | true =>
            have HH : Hid (hitB n X Y (X' k + a) (Y' k + b) s = true) := Lib.hid (anyB_hit hli HRr.out.symm)
            have HT3 := Lib.hid (HT2.out true HH.out)
            refine wp_region_quiet_grd (by kernel_rfl) (by kernel_rfl) ?_
            repeat (go_big_quiet_step (first
              | (go_at_call 64; with_reducible exact Calls.grd_of (spot_any _ _ _ _))
              | (go_at_call 122; with_reducible exact Calls.grd_of (HAg.out _))))
            refine wpQuiet_nil ?_
            intro _ hw'
            obtain ⟨⟨nq, osq⟩, rfl⟩ := hw'
            have HBq := Lib.hid (below_step HBr.out (below_grd w6 nq osq))
            generalize grd w6 nq osq = wq at *
            clear f0 f1 f2 f3 f4
            go_wp2
            go_roundw
            case rel => exact ⟨k + 1, t + 1, by omega, by go_num, by go_num, Lib.hid (by rw [HT3.out]; simp), Lib.hid (below_step HB5.out HBq.out)⟩
            case measure => simp [intOf]; omega
          | false =>
            have HF2 : Hid (anyB (fun i => agrB (X' k + a, Y' k + b) (X i, Y i) s) (i + 1) = false) := Lib.hid (by rw [anyB, HF.out, ← HRr.out]; rfl)
            refine wp_region_quiet_grd (by kernel_rfl) (by kernel_rfl) ?_
            repeat (go_big_quiet_step (first
              | (go_at_call 64; with_reducible exact Calls.grd_of (spot_any _ _ _ _))
              | (go_at_call 122; with_reducible exact Calls.grd_of (HAg.out _))))
            refine wpQuiet_nil ?_
            intro _ hw'
            obtain ⟨⟨nq, osq⟩, rfl⟩ := hw'
            have HBq := Lib.hid (below_step HBr.out (below_grd w6 nq osq))
            generalize grd w6 nq osq = wq at *
            clear f0 f1 f2 f3 f4
            go_wp2
            go_roundw
            case rel => exact ⟨i + 1, by omega, rfl, by go_num, HF2, HBq⟩
            case measure => simp [intOf]; omega
        · obtain rfl : i = n := by omega
          have i1 : ¬ (i : Int) < (i : Int) := by omega
          have HT3 := Lib.hid (HT2.out false HF.out)
          go_wp2
          go_roundw
          case rel => exact ⟨k + 1, t, by omega, rfl, by go_num, Lib.hid (by rw [HT3.out]; simp), Lib.hid (below_step HB5.out HBi.out)⟩
          case measure => simp [intOf]; omega
    · obtain rfl : k = m := by omega
      have k1 : ¬ (k : Int) < (k : Int) := by omega
      have HE : Hid (t = matF n X Y k X' Y' a b s) := HT
      go_wp2
      go_ret
      exact ⟨by rw [HE.out]; rfl, below_step HBx.out HB.out⟩
end Go.Proofs.Ytaehfildhmljeaa

namespace Go.Proofs.Ytaehfildhmljeaa
open Go.RowKit Go.Shelf

theorem agr_iff (x y a b s : Int) : agrB (x, y) (a, b) s = true ↔ x - s ≤ a ∧ a ≤ x + s ∧ y - s ≤ b ∧ b ≤ y + s := by
  unfold agrB dsF
  rw [Bool.and_eq_true, decide_eq_true_iff, decide_eq_true_iff]
  simp only
  omega

set_option maxRecDepth 100000 in
set_option maxHeartbeats 16000000 in
theorem rmatches_good (A : Option Addr) (n c1 : Nat) (X Y V : Nat → Int) (B : Option Addr) (m c2 : Nat) (X' Y' V' : Nat → Int) (a b s : Int) (hok : chkF n X Y V = 0) (hok' : chkF m X' Y' V' = 0)
    (hnb : nearB a b = true) (s0 : 0 ≤ s) (s1 : s ≤ 2000) (w : World) (hc1 : Cloud w A n X Y V) (hc2 : Cloud w B m X' Y' V') :
    Calls Try.prog 52 #[.slice A n c1, .slice B m c2, sp a b, .int .i64 s] w fun e w' => e = .returned (.int .i64 ((matF n X Y m X' Y' a b s : Nat) : Int)) ∧ Below w.heap.size w w' := by
  obtain ⟨ha1, ha2, hb1, hb2⟩ := near_of hnb
  have HAB := Lib.hid (And.intro (And.intro ha1 ha2) (And.intro hb1 hb2))
  have hm : m ≤ 1000 := by
    have h := hok'
    unfold chkF at h
    split at h
    · cases h
    · omega
  have hn : n ≤ 1000 := by
    have h := hok
    unfold chkF at h
    split at h
    · cases h
    · omega
  have HO' := Lib.hid (fun i (hi : i < m) => ok_at hok' hi)
  have HCh1 := Lib.hid (fun W (h : Cloud W A n X Y V) => rcheck_any A n c1 X Y V W h)
  have HCh2 := Lib.hid (fun W (h : Cloud W B m X' Y' V') => rcheck_any B m c2 X' Y' V' W h)
  rw [hok] at HCh1
  rw [hok'] at HCh2
  have HFar := Lib.hid (fun W => far_any a b false W (Lib.hid (by rw [hnb]; rfl)))
  have hB : Below w.heap.size w (w.alloc (.cells #[.int .i64 a, .int .i64 b] 24)) := (Below.refl _ w).alloc (Nat.le_refl _) _
  have hbx := BoxAt.new w 24 #[.int .i64 a, .int .i64 b]
  have HC1 := Lib.hid (hc1.below hB)
  have HC2 := Lib.hid (hc2.below hB)
  have y1 : ¬ s < 0 := by omega
  have y2 : ¬ 2000 < s := by omega
  clear hok hok' hnb hc1 hc2 ha1 ha2 hb1 hb2
  go_enter Try.func52, Try.ntmps52
  go_upto_region 1 with fail
  obtain ⟨L6, hL6⟩ : ∃ z, z = w.heap.size := ⟨_, rfl⟩
  rw [← hL6] at hbx ⊢
  clear hL6
  have HBx := Lib.hid hB
  have HBB := Lib.hid hbx
  clear hB
  generalize w.alloc (.cells #[.int .i64 a, .int .i64 b] 24) = wx at *
  have hBq := Below.refl wx.heap.size wx
  go_upto_region 3 with (first
    | (go_at_call 23; (with_reducible refine (HCh1.out _ HC1.out).mono ?_); rintro e w1 ⟨rfl, hx1⟩; replace hBq := below_step hBq hx1; have HC2b := Lib.hid (HC2.out.below hx1))
    | (go_at_call 23; (with_reducible refine (HCh2.out _ HC2b.out).mono ?_); rintro e w2 ⟨rfl, hx2⟩; replace hBq := below_step hBq hx2; have r0 : w2.cell? ⟨L6, 0, none⟩ = some (.int .i64 a) := (box_step HBB.out hBq).cell 0; have r1 : w2.cell? ⟨L6, 1, none⟩ = some (.int .i64 b) := (box_step HBB.out hBq).cell 1; have r2 := (box_step HBB.out hBq).lt)
    | (go_at_call 61; (with_reducible refine (HFar.out _).mono ?_); rintro e w3 ⟨rfl, hx3⟩; replace hBq := below_step hBq hx3))
  have HB3 := Lib.hid hBq
  have I : ∃ (k t : Nat), k ≤ m ∧ (Value.int .i64 0) = .int .i64 t ∧ (Value.int .i64 0) = .int .i64 k ∧ Hid (t = cntB (fun j => hitB n X Y (X' j + a) (Y' j + b) s) k) ∧ Hid (Below wx.heap.size wx w3) := ⟨0, 0, Nat.zero_le _, rfl, rfl, Lib.hid rfl, HB3⟩
  clear hBq hx1 hx2 hx3 r0 r1 r2 HCh1 HCh2 HFar HC2b hbx HB3
  go_wp2
  go_loopw [9, 10] (fun tv kv wr => ∃ (k t : Nat), k ≤ m ∧ tv = .int .i64 t ∧ kv = .int .i64 k ∧ Hid (t = cntB (fun j => hitB n X Y (X' j + a) (Y' j + b) s) k) ∧ Hid (Below wx.heap.size wx wr)) (fun _ kv _ => m + 1 - (intOf kv).toNat)
  case atStart => exact I
  case round =>
    clear I
    obtain ⟨k, t, hk, rfl, rfl, HT, HB⟩ := hrel
    by_cases hlt : k < m
    · have k0 : (0 : Int) ≤ (k : Int) := Int.natCast_nonneg _
      have k1 : (k : Int) < (m : Int) := by omega
      obtain ⟨b2, o2, e2, hp2⟩ := HC2.out (by omega)
      subst e2
      have q2 := hp2.lt (by omega)
      have l2 : b2 < wr.heap.size := Nat.lt_of_lt_of_le q2 HB.out.size
      obtain ⟨d0, d1, _⟩ := (hp2.below HB.out q2) k hlt
      have d3 : wr.cell? ⟨L6, 0, none⟩ = some (.int .i64 a) := (box_step HBB.out HB.out).cell 0
      have d4 : wr.cell? ⟨L6, 1, none⟩ = some (.int .i64 b) := (box_step HBB.out HB.out).cell 1
      have d5 := (box_step HBB.out HB.out).lt
      have ht := cntB_le (fun j => hitB n X Y (X' j + a) (Y' j + b) s) k
      have htt : t ≤ k := by rw [HT.out]; exact ht
      have HT2 : Hid (∀ r, hitB n X Y (X' k + a) (Y' k + b) s = r → cntB (fun j => hitB n X Y (X' j + a) (Y' j + b) s) (k + 1) = t + if r = true then 1 else 0) := Lib.hid (fun r hr => by
        unfold cntB
        rw [← HT.out, hr])
      obtain ⟨⟨x1, x2⟩, ⟨z1, z2⟩, _⟩ := HO'.out k hlt
      obtain ⟨⟨ha1, ha2⟩, hb1, hb2⟩ := HAB.out
      have w1 : IntKind.i64.wrap (X' k + a) = X' k + a := IntWalk.i64_in _ (by omega)
      have w2 : IntKind.i64.wrap (Y' k + b) = Y' k + b := IntWalk.i64_in _ (by omega)
      clear ht hp2
      go_upto_region 7 with fail
      go_quiet (fail)
      have HBq : Hid (Below wx.heap.size wx (wr.drewN nq)) := Lib.hid (below_drewN HB.out nq)
      obtain ⟨x, hx⟩ : ∃ x, x = X' k + a := ⟨_, rfl⟩
      obtain ⟨y, hy⟩ : ∃ y, y = Y' k + b := ⟨_, rfl⟩
      rw [← hx, ← hy] at HT2
      rw [← hx, ← hy]
      have x3 : -67108864 ≤ x ∧ x ≤ 67108864 := by omega
      have y3 : -67108864 ≤ y ∧ y ≤ 67108864 := by omega
      obtain ⟨x4, x5⟩ := x3
      obtain ⟨y4, y5⟩ := y3
      clear d0 d1 d3 d4 d5 w1 w2 x1 x2 z1 z2 ha1 ha2 hb1 hb2 hx hy l2 HB
      generalize wr.drewN nq = w5 at *
      go_wp2
      go_loopw [9, 13] (fun tv iv wr => ∃ i : Nat, i ≤ n ∧ tv = .int .i64 t ∧ iv = .int .i64 i ∧ Hid (anyB (fun i => agrB (x, y) (X i, Y i) s) i = false) ∧ Hid (Below w5.heap.size w5 wr)) (fun _ iv _ => n + 1 - (intOf iv).toNat)
      case atStart => exact ⟨0, Nat.zero_le _, rfl, rfl, Lib.hid rfl, Lib.hid (Below.refl _ _)⟩
      case round =>
        obtain ⟨i, hi, rfl, rfl, HF, HBi⟩ := hrel
        by_cases hli : i < n
        · have i0 : (0 : Int) ≤ (i : Int) := Int.natCast_nonneg _
          have i1 : (i : Int) < (n : Int) := by omega
          obtain ⟨b1, o1, e1, hp1⟩ := HC1.out (by omega)
          subst e1
          have q1 := hp1.lt (by omega)
          have hBxi : Below wx.heap.size wx wr := below_step HBq.out HBi.out
          have l1 : b1 < wr.heap.size := Nat.lt_of_lt_of_le q1 hBxi.size
          obtain ⟨d0, d1, _⟩ := (hp1.below hBxi q1) i hli
          have HYes : Hid (x - s ≤ X i ∧ X i ≤ x + s ∧ y - s ≤ Y i ∧ Y i ≤ y + s → hitB n X Y x y s = true) := Lib.hid (fun h => anyB_hit hli ((agr_iff _ _ _ _ _).2 h))
          have HNo : Hid (¬ (x - s ≤ X i ∧ X i ≤ x + s ∧ y - s ≤ Y i ∧ Y i ≤ y + s) → anyB (fun i => agrB (x, y) (X i, Y i) s) (i + 1) = false) := Lib.hid (fun h => by
            have h2 : agrB (x, y) (X i, Y i) s = false := by
              cases h3 : agrB (x, y) (X i, Y i) s with
              | false => rfl
              | true => exact absurd ((agr_iff _ _ _ _ _).1 h3) h
            rw [anyB, HF.out, h2]; rfl)
          obtain ⟨xi, hxi⟩ : ∃ z, z = X i := ⟨_, rfl⟩
          obtain ⟨yi, hyi⟩ : ∃ z, z = Y i := ⟨_, rfl⟩
          rw [← hxi] at d0 HYes HNo
          rw [← hyi] at d1 HYes HNo
          clear hxi hyi hBxi
          by_cases h1 : x - s ≤ xi
          · by_cases h2 : xi ≤ x + s
            · by_cases h3 : y - s ≤ yi
              · by_cases h4 : yi ≤ y + s
                · have HT3 := Lib.hid (HT2.out true (HYes.out ⟨h1, h2, h3, h4⟩))
                  go_wp2
                  go_roundw
                  case rel => exact ⟨k + 1, t + 1, by omega, by go_num, by go_num, Lib.hid (by rw [HT3.out]; simp), Lib.hid (below_step HBq.out HBi.out)⟩
                  case measure => simp [intOf]; omega
                · have HF2 := Lib.hid (HNo.out (fun h => h4 h.2.2.2))
                  go_wp2
                  go_roundw
                  case rel => exact ⟨i + 1, by omega, rfl, by go_num, HF2, HBi⟩
                  case measure => simp [intOf]; omega
              · have HF2 := Lib.hid (HNo.out (fun h => h3 h.2.2.1))
                go_wp2
                go_roundw
                case rel => exact ⟨i + 1, by omega, rfl, by go_num, HF2, HBi⟩
                case measure => simp [intOf]; omega
            · have HF2 := Lib.hid (HNo.out (fun h => h2 h.2.1))
              go_wp2
              go_roundw
              case rel => exact ⟨i + 1, by omega, rfl, by go_num, HF2, HBi⟩
              case measure => simp [intOf]; omega
          · have HF2 := Lib.hid (HNo.out (fun h => h1 h.1))
            go_wp2
            go_roundw
            case rel => exact ⟨i + 1, by omega, rfl, by go_num, HF2, HBi⟩
            case measure => simp [intOf]; omega
        · obtain rfl : i = n := by omega
          have i1 : ¬ (i : Int) < (i : Int) := by omega
          have HT3 := Lib.hid (HT2.out false HF.out)
          go_wp2
          go_roundw
          case rel => exact ⟨k + 1, t, by omega, rfl, by go_num, Lib.hid (by rw [HT3.out]; simp), Lib.hid (below_step HBq.out HBi.out)⟩
          case measure => simp [intOf]; omega
    · obtain rfl : k = m := by omega
      have k1 : ¬ (k : Int) < (k : Int) := by omega
      have HE : Hid (t = matF n X Y k X' Y' a b s) := HT
      go_wp2
      go_ret
      exact ⟨by rw [HE.out]; rfl, below_step HBx.out HB.out⟩
end Go.Proofs.Ytaehfildhmljeaa

namespace Go.Proofs.Ytaehfildhmljeaa
open Go.RowKit Go.Shelf

def matOk (n : Nat) (X Y V : Nat → Int) (m : Nat) (X' Y' V' : Nat → Int) (a b s : Int) : Bool := decide (chkF n X Y V = 0) && decide (chkF m X' Y' V' = 0) && (decide (0 ≤ s) && decide (s ≤ 2000)) && nearB a b
def matAny (n : Nat) (X Y V : Nat → Int) (m : Nat) (X' Y' V' : Nat → Int) (a b s : Int) : Int := if matOk n X Y V m X' Y' V' a b s then ((matF n X Y m X' Y' a b s : Nat) : Int) else 0
theorem matAny_no {n m : Nat} {X Y V X' Y' V' : Nat → Int} {a b s : Int} (h : matOk n X Y V m X' Y' V' a b s = false) : matAny n X Y V m X' Y' V' a b s = 0 := by unfold matAny; rw [h]; rfl
theorem matAny_yes {n m : Nat} {X Y V X' Y' V' : Nat → Int} {a b s : Int} (h : matOk n X Y V m X' Y' V' a b s = true) : matAny n X Y V m X' Y' V' a b s = ((matF n X Y m X' Y' a b s : Nat) : Int) := by unfold matAny; rw [h]; rfl
theorem chk_le {n : Nat} {X Y V : Nat → Int} (h : chkF n X Y V = 0) : n ≤ 1000 := by
  unfold chkF at h
  split at h
  · cases h
  · omega

set_option maxRecDepth 100000 in
set_option maxHeartbeats 8000000 in
theorem match_any (A : Option Addr) (n c1 : Nat) (X Y V : Nat → Int) (B : Option Addr) (m c2 : Nat) (X' Y' V' : Nat → Int) (a b s : Int) (w : World) (hc1 : Cloud w A n X Y V) (hc2 : Cloud w B m X' Y' V') :
    Calls Try.prog 51 #[.slice A n c1, .slice B m c2, sp a b, .int .i64 s] w fun e w' => e = .returned (.int .i64 (matAny n X Y V m X' Y' V' a b s)) ∧ Below w.heap.size w w' := by
  have hB : Below w.heap.size w (w.alloc (.cells #[.int .i64 a, .int .i64 b] 24)) := (Below.refl _ w).alloc (Nat.le_refl _) _
  have hbx := BoxAt.new w 24 #[.int .i64 a, .int .i64 b]
  have HC1 := Lib.hid (hc1.below hB)
  have HC2 := Lib.hid (hc2.below hB)
  have HCh1 := Lib.hid (fun W (h : Cloud W A n X Y V) => check_any A n c1 X Y V W h)
  have HCh2 := Lib.hid (fun W (h : Cloud W B m X' Y' V') => check_any B m c2 X' Y' V' W h)
  by_cases h1 : chkF n X Y V = 0
  · by_cases h2 : chkF m X' Y' V' = 0
    · by_cases h3 : 0 ≤ s ∧ s ≤ 2000
      · have HW : Hid (∀ W, Calls Try.prog 100 #[.int .i64 s] W fun e w' => e = .returned (.bool true) ∧ w' = W) := Lib.hid (fun W => vwin_any s true (by simp [h3]) W)
        rw [h1] at HCh1
        rw [h2] at HCh2
        cases hnb : nearB a b with
        | true =>
          have HE := Lib.hid (matAny_yes (show matOk n X Y V m X' Y' V' a b s = true by simp [matOk, h1, h2, h3, hnb]))
          obtain ⟨ha1, ha2, hb1, hb2⟩ := near_of hnb
          have HM := Lib.hid (fun W (h : Cloud W A n X Y V) (h' : Cloud W B m X' Y' V') => matches_any A n c1 X Y V B m c2 X' Y' V' a b s (chk_le h1) (chk_le h2) (fun i hi => ⟨(ok_at h1 hi).1, (ok_at h1 hi).2.1⟩) (fun i hi => ⟨(ok_at h2 hi).1, (ok_at h2 hi).2.1⟩) ha1 ha2 hb1 hb2 W h h')
          have HN := Lib.hid (fun W => vshift_any a b true W (Lib.hid hnb))
          obtain ⟨q, hq⟩ : ∃ q : Int, q = ((matF n X Y m X' Y' a b s : Nat) : Int) := ⟨_, rfl⟩
          rw [← hq] at HE HM
          clear h1 h2 h3 hnb ha1 ha2 hb1 hb2 hc1 hc2 hq
          go_enter Try.func51, Try.ntmps51
          go_upto_region 1 with fail
          obtain ⟨L6, hL6⟩ : ∃ z, z = w.heap.size := ⟨_, rfl⟩
          rw [← hL6] at hbx ⊢
          clear hL6
          have HBB := Lib.hid hbx
          have HB0 := Lib.hid hB
          clear hB hbx
          generalize w.alloc (.cells #[.int .i64 a, .int .i64 b] 24) = wx at *
          have hBq := Below.refl wx.heap.size wx
          go_wp2_with (first
            | (go_at_call 22; (with_reducible refine (HCh1.out _ HC1.out).mono ?_); rintro e w1 ⟨rfl, hx1⟩; replace hBq := below_step hBq hx1; have HC2b := Lib.hid (HC2.out.below hx1))
            | (go_at_call 22; (with_reducible refine (HCh2.out _ HC2b.out).mono ?_); rintro e w2 ⟨rfl, hx2⟩; replace hBq := below_step hBq hx2)
            | (go_at_call 100; (with_reducible refine (HW.out _).mono ?_); rintro e w2b ⟨rfl, rfl⟩; have r0 : w2b.cell? ⟨L6, 0, none⟩ = some (.int .i64 a) := (box_step HBB.out hBq).cell 0; have r1 : w2b.cell? ⟨L6, 1, none⟩ = some (.int .i64 b) := (box_step HBB.out hBq).cell 1; have r2 := (box_step HBB.out hBq).lt)
            | (go_at_call 58; (with_reducible refine (HN.out _).mono ?_); rintro e w3 ⟨rfl, hx3⟩; replace hBq := below_step hBq hx3; have u0 : w3.cell? ⟨L6, 0, none⟩ = some (.int .i64 a) := (box_step HBB.out hBq).cell 0; have u1 : w3.cell? ⟨L6, 1, none⟩ = some (.int .i64 b) := (box_step HBB.out hBq).cell 1; have u2 := (box_step HBB.out hBq).lt)
            | (go_at_call 95; (with_reducible refine (HM.out _ (HC1.out.below hBq) (HC2.out.below hBq)).mono ?_); rintro e w4 ⟨rfl, hx4⟩; replace hBq := below_step hBq hx4))
          go_ret
          exact ⟨by rw [HE.out]; rfl, below_step HB0.out hBq⟩
        | false =>
          have HE := Lib.hid (matAny_no (show matOk n X Y V m X' Y' V' a b s = false by simp [matOk, hnb]))
          have HN := Lib.hid (fun W => vshift_any a b false W (Lib.hid hnb))
          clear h1 h2 h3 hnb hc1 hc2
          go_enter Try.func51, Try.ntmps51
          go_upto_region 1 with fail
          obtain ⟨L6, hL6⟩ : ∃ z, z = w.heap.size := ⟨_, rfl⟩
          rw [← hL6] at hbx ⊢
          clear hL6
          have HBB := Lib.hid hbx
          have HB0 := Lib.hid hB
          clear hB hbx
          generalize w.alloc (.cells #[.int .i64 a, .int .i64 b] 24) = wx at *
          have hBq := Below.refl wx.heap.size wx
          go_wp2_with (first
            | (go_at_call 22; (with_reducible refine (HCh1.out _ HC1.out).mono ?_); rintro e w1 ⟨rfl, hx1⟩; replace hBq := below_step hBq hx1; have HC2b := Lib.hid (HC2.out.below hx1))
            | (go_at_call 22; (with_reducible refine (HCh2.out _ HC2b.out).mono ?_); rintro e w2 ⟨rfl, hx2⟩; replace hBq := below_step hBq hx2)
            | (go_at_call 100; (with_reducible refine (HW.out _).mono ?_); rintro e w2b ⟨rfl, rfl⟩; have r0 : w2b.cell? ⟨L6, 0, none⟩ = some (.int .i64 a) := (box_step HBB.out hBq).cell 0; have r1 : w2b.cell? ⟨L6, 1, none⟩ = some (.int .i64 b) := (box_step HBB.out hBq).cell 1; have r2 := (box_step HBB.out hBq).lt)
            | (go_at_call 58; (with_reducible refine (HN.out _).mono ?_); rintro e w3 ⟨rfl, hx3⟩; replace hBq := below_step hBq hx3))
          go_ret
          exact ⟨by rw [HE.out]; rfl, below_step HB0.out hBq⟩
      · have HW : Hid (∀ W, Calls Try.prog 100 #[.int .i64 s] W fun e w' => e = .returned (.bool false) ∧ w' = W) := Lib.hid (fun W => vwin_any s false (by simp [h3]) W)
        have HE := Lib.hid (matAny_no (show matOk n X Y V m X' Y' V' a b s = false by
          have : (decide (0 ≤ s) && decide (s ≤ 2000)) = false := by
            rw [← Bool.decide_and]; exact decide_eq_false h3
          unfold matOk
          rw [this]; simp))
        rw [h1] at HCh1
        rw [h2] at HCh2
        clear h1 h2 h3 hc1 hc2
        go_enter Try.func51, Try.ntmps51
        go_upto_region 1 with fail
        obtain ⟨L6, hL6⟩ : ∃ z, z = w.heap.size := ⟨_, rfl⟩
        rw [← hL6] at hbx ⊢
        clear hL6
        have HBB := Lib.hid hbx
        have HB0 := Lib.hid hB
        clear hB hbx
        generalize w.alloc (.cells #[.int .i64 a, .int .i64 b] 24) = wx at *
        have hBq := Below.refl wx.heap.size wx
        go_wp2_with (first
          | (go_at_call 22; (with_reducible refine (HCh1.out _ HC1.out).mono ?_); rintro e w1 ⟨rfl, hx1⟩; replace hBq := below_step hBq hx1; have HC2b := Lib.hid (HC2.out.below hx1))
          | (go_at_call 22; (with_reducible refine (HCh2.out _ HC2b.out).mono ?_); rintro e w2 ⟨rfl, hx2⟩; replace hBq := below_step hBq hx2)
          | (go_at_call 100; (with_reducible refine (HW.out _).mono ?_); rintro e w2b ⟨rfl, rfl⟩; have r0 : w2b.cell? ⟨L6, 0, none⟩ = some (.int .i64 a) := (box_step HBB.out hBq).cell 0; have r1 : w2b.cell? ⟨L6, 1, none⟩ = some (.int .i64 b) := (box_step HBB.out hBq).cell 1; have r2 := (box_step HBB.out hBq).lt))
        go_ret
        exact ⟨by rw [HE.out]; rfl, below_step HB0.out hBq⟩
    · have HE := Lib.hid (matAny_no (show matOk n X Y V m X' Y' V' a b s = false by simp [matOk, h2]))
      obtain ⟨z, hz⟩ : ∃ z, z = chkF m X' Y' V' := ⟨_, rfl⟩
      rw [← hz] at HCh2 h2
      rw [h1] at HCh1
      clear h1 hc1 hc2 hz
      go_enter Try.func51, Try.ntmps51
      go_upto_region 1 with fail
      obtain ⟨L6, hL6⟩ : ∃ z, z = w.heap.size := ⟨_, rfl⟩
      rw [← hL6] at hbx ⊢
      clear hL6
      have HBB := Lib.hid hbx
      have HB0 := Lib.hid hB
      clear hB hbx
      generalize w.alloc (.cells #[.int .i64 a, .int .i64 b] 24) = wx at *
      have hBq := Below.refl wx.heap.size wx
      go_wp2_with (first
        | (go_at_call 22; (with_reducible refine (HCh1.out _ HC1.out).mono ?_); rintro e w1 ⟨rfl, hx1⟩; replace hBq := below_step hBq hx1; have HC2b := Lib.hid (HC2.out.below hx1))
        | (go_at_call 22; (with_reducible refine (HCh2.out _ HC2b.out).mono ?_); rintro e w2 ⟨rfl, hx2⟩; replace hBq := below_step hBq hx2))
      go_ret
      exact ⟨by rw [HE.out]; rfl, below_step HB0.out hBq⟩
  · have HE := Lib.hid (matAny_no (show matOk n X Y V m X' Y' V' a b s = false by simp [matOk, h1]))
    obtain ⟨z, hz⟩ : ∃ z, z = chkF n X Y V := ⟨_, rfl⟩
    rw [← hz] at HCh1 h1
    clear hc1 hc2 hz
    go_enter Try.func51, Try.ntmps51
    go_upto_region 1 with fail
    obtain ⟨L6, hL6⟩ : ∃ z, z = w.heap.size := ⟨_, rfl⟩
    rw [← hL6] at hbx ⊢
    clear hL6
    have HBB := Lib.hid hbx
    have HB0 := Lib.hid hB
    clear hB hbx
    generalize w.alloc (.cells #[.int .i64 a, .int .i64 b] 24) = wx at *
    have hBq := Below.refl wx.heap.size wx
    go_wp2_with (first
      | (go_at_call 22; (with_reducible refine (HCh1.out _ HC1.out).mono ?_); rintro e w1 ⟨rfl, hx1⟩; replace hBq := below_step hBq hx1; have HC2b := Lib.hid (HC2.out.below hx1)))
    go_ret
    exact ⟨by rw [HE.out]; rfl, below_step HB0.out hBq⟩
end Go.Proofs.Ytaehfildhmljeaa

namespace Go.Proofs.Ytaehfildhmljeaa
open Go.RowKit Go.Shelf

set_option maxRecDepth 100000 in
set_option maxHeartbeats 8000000 in
theorem rmatch_any (A : Option Addr) (n c1 : Nat) (X Y V : Nat → Int) (B : Option Addr) (m c2 : Nat) (X' Y' V' : Nat → Int) (a b s : Int) (w : World) (hc1 : Cloud w A n X Y V) (hc2 : Cloud w B m X' Y' V') :
    Calls Try.prog 52 #[.slice A n c1, .slice B m c2, sp a b, .int .i64 s] w fun e w' => e = .returned (.int .i64 (matAny n X Y V m X' Y' V' a b s)) ∧ Below w.heap.size w w' := by
  have hB : Below w.heap.size w (w.alloc (.cells #[.int .i64 a, .int .i64 b] 24)) := (Below.refl _ w).alloc (Nat.le_refl _) _
  have hbx := BoxAt.new w 24 #[.int .i64 a, .int .i64 b]
  have HC1 := Lib.hid (hc1.below hB)
  have HC2 := Lib.hid (hc2.below hB)
  have HCh1 := Lib.hid (fun W (h : Cloud W A n X Y V) => rcheck_any A n c1 X Y V W h)
  have HCh2 := Lib.hid (fun W (h : Cloud W B m X' Y' V') => rcheck_any B m c2 X' Y' V' W h)
  by_cases h1 : chkF n X Y V = 0
  · by_cases h2 : chkF m X' Y' V' = 0
    · by_cases h3 : 0 ≤ s
      · by_cases h4 : s ≤ 2000
        · cases hnb : nearB a b with
          | true =>
            rw [matAny_yes (show matOk n X Y V m X' Y' V' a b s = true by simp [matOk, h1, h2, h3, h4, hnb])]
            exact rmatches_good A n c1 X Y V B m c2 X' Y' V' a b s h1 h2 hnb h3 h4 w hc1 hc2
          | false =>
            have HE := Lib.hid (matAny_no (show matOk n X Y V m X' Y' V' a b s = false by simp [matOk, hnb]))
            have HN := Lib.hid (fun W => far_any a b true W (Lib.hid (by rw [hnb]; rfl)))
            rw [h1] at HCh1
            rw [h2] at HCh2
            have y1 : ¬ s < 0 := by omega
            have y2 : ¬ 2000 < s := by omega
            clear h1 h2 h3 h4 hnb hc1 hc2
            go_enter Try.func52, Try.ntmps52
            go_upto_region 1 with fail
            obtain ⟨L6, hL6⟩ : ∃ z, z = w.heap.size := ⟨_, rfl⟩
            rw [← hL6] at hbx ⊢
            clear hL6
            have HBB := Lib.hid hbx
            have HB0 := Lib.hid hB
            clear hB hbx
            generalize w.alloc (.cells #[.int .i64 a, .int .i64 b] 24) = wx at *
            have hBq := Below.refl wx.heap.size wx
            go_wp2_with (first
              | (go_at_call 23; (with_reducible refine (HCh1.out _ HC1.out).mono ?_); rintro e w1 ⟨rfl, hx1⟩; replace hBq := below_step hBq hx1; have HC2b := Lib.hid (HC2.out.below hx1))
              | (go_at_call 23; (with_reducible refine (HCh2.out _ HC2b.out).mono ?_); rintro e w2 ⟨rfl, hx2⟩; replace hBq := below_step hBq hx2; have r0 : w2.cell? ⟨L6, 0, none⟩ = some (.int .i64 a) := (box_step HBB.out hBq).cell 0; have r1 : w2.cell? ⟨L6, 1, none⟩ = some (.int .i64 b) := (box_step HBB.out hBq).cell 1; have r2 := (box_step HBB.out hBq).lt)
              | (go_at_call 61; (with_reducible refine (HN.out _).mono ?_); rintro e w3 ⟨rfl, hx3⟩; replace hBq := below_step hBq hx3))
            go_ret
            exact ⟨by rw [HE.out]; rfl, below_step HB0.out hBq⟩
        · have HE := Lib.hid (matAny_no (show matOk n X Y V m X' Y' V' a b s = false by simp [matOk, h4]))
          rw [h1] at HCh1
          rw [h2] at HCh2
          have y1 : ¬ s < 0 := by omega
          have y2 : 2000 < s := by omega
          clear h1 h2 h3 h4 hc1 hc2
          go_enter Try.func52, Try.ntmps52
          go_upto_region 1 with fail
          obtain ⟨L6, hL6⟩ : ∃ z, z = w.heap.size := ⟨_, rfl⟩
          rw [← hL6] at hbx ⊢
          clear hL6
          have HBB := Lib.hid hbx
          have HB0 := Lib.hid hB
          clear hB hbx
          generalize w.alloc (.cells #[.int .i64 a, .int .i64 b] 24) = wx at *
          have hBq := Below.refl wx.heap.size wx
          go_wp2_with (first
            | (go_at_call 23; (with_reducible refine (HCh1.out _ HC1.out).mono ?_); rintro e w1 ⟨rfl, hx1⟩; replace hBq := below_step hBq hx1; have HC2b := Lib.hid (HC2.out.below hx1))
            | (go_at_call 23; (with_reducible refine (HCh2.out _ HC2b.out).mono ?_); rintro e w2 ⟨rfl, hx2⟩; replace hBq := below_step hBq hx2; have r0 : w2.cell? ⟨L6, 0, none⟩ = some (.int .i64 a) := (box_step HBB.out hBq).cell 0; have r1 : w2.cell? ⟨L6, 1, none⟩ = some (.int .i64 b) := (box_step HBB.out hBq).cell 1; have r2 := (box_step HBB.out hBq).lt))
          go_ret
          exact ⟨by rw [HE.out]; rfl, below_step HB0.out hBq⟩
      · have HE := Lib.hid (matAny_no (show matOk n X Y V m X' Y' V' a b s = false by simp [matOk, h3]))
        rw [h1] at HCh1
        rw [h2] at HCh2
        have y1 : s < 0 := by omega
        clear h1 h2 h3 hc1 hc2
        go_enter Try.func52, Try.ntmps52
        go_upto_region 1 with fail
        obtain ⟨L6, hL6⟩ : ∃ z, z = w.heap.size := ⟨_, rfl⟩
        rw [← hL6] at hbx ⊢
        clear hL6
        have HBB := Lib.hid hbx
        have HB0 := Lib.hid hB
        clear hB hbx
        generalize w.alloc (.cells #[.int .i64 a, .int .i64 b] 24) = wx at *
        have hBq := Below.refl wx.heap.size wx
        go_wp2_with (first
          | (go_at_call 23; (with_reducible refine (HCh1.out _ HC1.out).mono ?_); rintro e w1 ⟨rfl, hx1⟩; replace hBq := below_step hBq hx1; have HC2b := Lib.hid (HC2.out.below hx1))
          | (go_at_call 23; (with_reducible refine (HCh2.out _ HC2b.out).mono ?_); rintro e w2 ⟨rfl, hx2⟩; replace hBq := below_step hBq hx2; have r0 : w2.cell? ⟨L6, 0, none⟩ = some (.int .i64 a) := (box_step HBB.out hBq).cell 0; have r1 : w2.cell? ⟨L6, 1, none⟩ = some (.int .i64 b) := (box_step HBB.out hBq).cell 1; have r2 := (box_step HBB.out hBq).lt))
        go_ret
        exact ⟨by rw [HE.out]; rfl, below_step HB0.out hBq⟩
    · have HE := Lib.hid (matAny_no (show matOk n X Y V m X' Y' V' a b s = false by simp [matOk, h2]))
      obtain ⟨z, hz⟩ : ∃ z, z = chkF m X' Y' V' := ⟨_, rfl⟩
      rw [← hz] at HCh2 h2
      rw [h1] at HCh1
      clear h1 hc1 hc2 hz
      go_enter Try.func52, Try.ntmps52
      go_upto_region 1 with fail
      obtain ⟨L6, hL6⟩ : ∃ z, z = w.heap.size := ⟨_, rfl⟩
      rw [← hL6] at hbx ⊢
      clear hL6
      have HBB := Lib.hid hbx
      have HB0 := Lib.hid hB
      clear hB hbx
      generalize w.alloc (.cells #[.int .i64 a, .int .i64 b] 24) = wx at *
      have hBq := Below.refl wx.heap.size wx
      go_wp2_with (first
        | (go_at_call 23; (with_reducible refine (HCh1.out _ HC1.out).mono ?_); rintro e w1 ⟨rfl, hx1⟩; replace hBq := below_step hBq hx1; have HC2b := Lib.hid (HC2.out.below hx1))
        | (go_at_call 23; (with_reducible refine (HCh2.out _ HC2b.out).mono ?_); rintro e w2 ⟨rfl, hx2⟩; replace hBq := below_step hBq hx2; have r0 : w2.cell? ⟨L6, 0, none⟩ = some (.int .i64 a) := (box_step HBB.out hBq).cell 0; have r1 : w2.cell? ⟨L6, 1, none⟩ = some (.int .i64 b) := (box_step HBB.out hBq).cell 1; have r2 := (box_step HBB.out hBq).lt))
      go_ret
      exact ⟨by rw [HE.out]; rfl, below_step HB0.out hBq⟩
  · have HE := Lib.hid (matAny_no (show matOk n X Y V m X' Y' V' a b s = false by simp [matOk, h1]))
    obtain ⟨z, hz⟩ : ∃ z, z = chkF n X Y V := ⟨_, rfl⟩
    rw [← hz] at HCh1 h1
    clear hc1 hc2 hz
    go_enter Try.func52, Try.ntmps52
    go_upto_region 1 with fail
    obtain ⟨L6, hL6⟩ : ∃ z, z = w.heap.size := ⟨_, rfl⟩
    rw [← hL6] at hbx ⊢
    clear hL6
    have HBB := Lib.hid hbx
    have HB0 := Lib.hid hB
    clear hB hbx
    generalize w.alloc (.cells #[.int .i64 a, .int .i64 b] 24) = wx at *
    have hBq := Below.refl wx.heap.size wx
    go_wp2_with (first
      | (go_at_call 23; (with_reducible refine (HCh1.out _ HC1.out).mono ?_); rintro e w1 ⟨rfl, hx1⟩; replace hBq := below_step hBq hx1; have HC2b := Lib.hid (HC2.out.below hx1)))
    go_ret
    exact ⟨by rw [HE.out]; rfl, below_step HB0.out hBq⟩
end Go.Proofs.Ytaehfildhmljeaa
