/- How many points match a shift. -/
import Derived.Test.YtaehfildhmljeaaCmpA
import Derived.Test.YtaehfildhmljeaaShfA
import Derived.Test.YtaehfildhmljeaaShfW
namespace Go.Proofs.Ytaehfildhmljeaa
open Go.RowKit Go.Shelf

def anyB (p : Nat → Bool) : Nat → Bool
  | 0 => false
  | k + 1 => anyB p k || p k
def cntB (p : Nat → Bool) : Nat → Nat
  | 0 => 0
  | k + 1 => cntB p k + if p k then 1 else 0
theorem cntB_le (p : Nat → Bool) (k : Nat) : cntB p k ≤ k := by
  induction k with
  | zero => exact Nat.le_refl _
  | succ k ih => unfold cntB; split <;> omega
/-- Some one of the n points agrees with the place. -/
def hitB (n : Nat) (X Y : Nat → Int) (p q s : Int) : Bool := anyB (fun i => agrB (p, q) (X i, Y i) s) n
/-- How many of the m points match. -/
def matF (n : Nat) (X Y : Nat → Int) (m : Nat) (X' Y' : Nat → Int) (a b s : Int) : Nat := cntB (fun j => hitB n X Y (X' j + a) (Y' j + b) s) m
theorem anyB_hit {p : Nat → Bool} {i n : Nat} (hi : i < n) (h : p i = true) : anyB p n = true := by
  induction n with
  | zero => omega
  | succ n ih =>
    unfold anyB
    by_cases he : i = n
    · subst he; rw [h]; simp
    · rw [ih (by omega)]; rfl

set_option maxRecDepth 100000 in
set_option maxHeartbeats 16000000 in
theorem matches_any (A : Option Addr) (n c1 : Nat) (X Y V : Nat → Int) (B : Option Addr) (m c2 : Nat) (X' Y' V' : Nat → Int) (a b s : Int) (hn : n ≤ 1000) (hm : m ≤ 1000) (ho : ∀ i, i < n → okc (X i) ∧ okc (Y i)) (ho' : ∀ i, i < m → okc (X' i) ∧ okc (Y' i))
    (ha1 : -33554432 ≤ a) (ha2 : a ≤ 33554432) (hb1 : -33554432 ≤ b) (hb2 : b ≤ 33554432) (w : World) (hc1 : Cloud w A n X Y V) (hc2 : Cloud w B m X' Y' V') :
    Calls Try.prog 95 #[.slice A n c1, .slice B m c2, sp a b, .int .i64 s] w fun e w' => e = .returned (.int .i64 ((matF n X Y m X' Y' a b s : Nat) : Int)) ∧ Below w.heap.size w w' := by
  have HO := Lib.hid ho
  have HO' := Lib.hid ho'
  have HC1 := Lib.hid hc1
  have HC2 := Lib.hid hc2
  clear ho ho' hc1 hc2
  go_enter Try.func95, Try.ntmps95
  go_upto_region 1 with fail
  have hbx := BoxAt.new w 24 #[.int .i64 a, .int .i64 b]
  have hB : Below w.heap.size w (w.alloc (.cells #[.int .i64 a, .int .i64 b] 24)) := (Below.refl _ w).alloc (Nat.le_refl _) _
  obtain ⟨L6, hL6⟩ : ∃ z, z = w.heap.size := ⟨_, rfl⟩
  rw [← hL6] at hbx ⊢
  clear hL6
  have HC1x := Lib.hid (HC1.out.below hB)
  have HC2x := Lib.hid (HC2.out.below hB)
  have HBx := Lib.hid hB
  have HBB := Lib.hid hbx
  clear hB hbx HC1 HC2
  generalize w.alloc (.cells #[.int .i64 a, .int .i64 b] 24) = wx at *
  have I : ∃ (k t : Nat), k ≤ m ∧ (Value.int .i64 0) = .int .i64 t ∧ (Value.int .i64 0) = .int .i64 k ∧ Hid (t = cntB (fun j => hitB n X Y (X' j + a) (Y' j + b) s) k) ∧ Hid (Below wx.heap.size wx wx) := ⟨0, 0, Nat.zero_le _, rfl, rfl, Lib.hid rfl, Lib.hid (Below.refl _ _)⟩
  go_wp2
  go_loopw [9, 17] (fun tv kv wr => ∃ (k t : Nat), k ≤ m ∧ tv = .int .i64 t ∧ kv = .int .i64 k ∧ Hid (t = cntB (fun j => hitB n X Y (X' j + a) (Y' j + b) s) k) ∧ Hid (Below wx.heap.size wx wr)) (fun _ kv _ => m + 1 - (intOf kv).toNat)
  case atStart => exact I
  case round =>
    clear I
    obtain ⟨k, t, hk, rfl, rfl, HT, HB⟩ := hrel
    by_cases hlt : k < m
    · have k0 : (0 : Int) ≤ (k : Int) := Int.natCast_nonneg _
      have k1 : (k : Int) < (m : Int) := by omega
      obtain ⟨b2, o2, e2, hp2⟩ := HC2x.out (by omega)
      subst e2
      have q2 := hp2.lt (by omega)
      have l2 : b2 < wr.heap.size := Nat.lt_of_lt_of_le q2 HB.out.size
      obtain ⟨d0, d1, d2⟩ := (hp2.below HB.out q2) k hlt
      have HPl := Lib.hid (fun W => moved_any (X' k) (Y' k) (V' k) a b W (HO'.out k hlt).1 (HO'.out k hlt).2 ha1 ha2 hb1 hb2)
      have hbq := (HO'.out k hlt)
      have ht := cntB_le (fun j => hitB n X Y (X' j + a) (Y' j + b) s) k
      have htt : t ≤ k := by rw [HT.out]; exact ht
      clear hp2 ht
      go_upto_region 5 with fail
      have hb3 : Below wr.heap.size wr (wr.alloc (.cells #[.int .i64 (X' k), .int .i64 (Y' k), .int .i64 (V' k)] 69)) := (Below.refl _ wr).alloc (Nat.le_refl _) _
      have hbp := BoxAt.new wr 69 #[.int .i64 (X' k), .int .i64 (Y' k), .int .i64 (V' k)]
      have HB3 := Lib.hid (below_step HB.out hb3)
      have HBB3 := Lib.hid (box_step HBB.out HB3.out)
      obtain ⟨Lq, hLq⟩ : ∃ z, z = wr.heap.size := ⟨_, rfl⟩
      rw [← hLq] at hbp ⊢
      clear d0 d1 d2 l2 hLq hb3 HB
      obtain ⟨wo, rfl⟩ : ∃ x : World, x = wr := ⟨_, rfl⟩
      generalize wo.alloc (.cells #[.int .i64 (X' k), .int .i64 (Y' k), .int .i64 (V' k)] 69) = w3 at *
      have p0 : w3.cell? ⟨Lq, 0, none⟩ = some (.int .i64 (X' k)) := hbp.cell 0
      have p1 : w3.cell? ⟨Lq, 1, none⟩ = some (.int .i64 (Y' k)) := hbp.cell 1
      have p2 : w3.cell? ⟨Lq, 2, none⟩ = some (.int .i64 (V' k)) := hbp.cell 2
      have p3 : w3.cell? ⟨L6, 0, none⟩ = some (.int .i64 a) := HBB3.out.cell 0
      have p4 : w3.cell? ⟨L6, 1, none⟩ = some (.int .i64 b) := HBB3.out.cell 1
      have p5 := hbp.lt
      have p6 := HBB3.out.lt
      go_upto_region 6 with (go_at_call 59; (with_reducible refine (HPl.out _).mono ?_); rintro e w4 ⟨rfl, hb4⟩)
      have hb5 : Below w4.heap.size w4 (w4.alloc (.cells #[.int .i64 (X' k + a), .int .i64 (Y' k + b)] 24)) := (Below.refl _ w4).alloc (Nat.le_refl _) _
      have hbr := BoxAt.new w4 24 #[.int .i64 (X' k + a), .int .i64 (Y' k + b)]
      have HB5 := Lib.hid (below_step (below_step HB3.out hb4) hb5)
      obtain ⟨Lr, hLr⟩ : ∃ z, z = w4.heap.size := ⟨_, rfl⟩
      rw [← hLr] at hbr ⊢
      clear p0 p1 p2 p3 p4 p5 p6 hLr hb4 hb5 HB3 hbp HBB3
      generalize w4.alloc (.cells #[.int .i64 (X' k + a), .int .i64 (Y' k + b)] 24) = w5 at *
      have HBR := Lib.hid hbr
      have HBq2 := Lib.hid hbq
      have HT2 : Hid (∀ r, hitB n X Y (X' k + a) (Y' k + b) s = r → cntB (fun j => hitB n X Y (X' j + a) (Y' j + b) s) (k + 1) = t + if r = true then 1 else 0) := Lib.hid (fun r hr => by
        unfold cntB
        rw [← HT.out, hr])
      clear hbr hbq HPl
      go_wp2
      go_loopw [9, 26] (fun tv iv wr => ∃ i : Nat, i ≤ n ∧ tv = .int .i64 t ∧ iv = .int .i64 i ∧ Hid (anyB (fun i => agrB (X' k + a, Y' k + b) (X i, Y i) s) i = false) ∧ Hid (Below w5.heap.size w5 wr)) (fun _ iv _ => n + 1 - (intOf iv).toNat)
      case atStart => exact ⟨0, Nat.zero_le _, rfl, rfl, Lib.hid rfl, Lib.hid (Below.refl _ _)⟩
      case round =>
        obtain ⟨i, hi, rfl, rfl, HF, HBi⟩ := hrel
        by_cases hli : i < n
        · have i0 : (0 : Int) ≤ (i : Int) := Int.natCast_nonneg _
          have i1 : (i : Int) < (n : Int) := by omega
          obtain ⟨b1, o1, e1, hp1⟩ := HC1x.out (by omega)
          subst e1
          have q1 := hp1.lt (by omega)
          have hBxi : Below wx.heap.size wx wr := below_step HB5.out HBi.out
          have l1 : b1 < wr.heap.size := Nat.lt_of_lt_of_le q1 hBxi.size
          obtain ⟨d0, d1, d2⟩ := (hp1.below hBxi q1) i hli
          obtain ⟨r, hr⟩ : ∃ r, r = agrB (X' k + a, Y' k + b) (X i, Y i) s := ⟨_, rfl⟩
          have hoi := HO.out i hli
          have hok := HBq2.out
          unfold okc at hoi hok
          have HAg := Lib.hid (fun W => agree_any (X' k + a) (Y' k + b) (X i) (Y i) s r (Lib.hid hr.symm) W (by omega) (by omega) (by omega) (by omega))
          have HRr := Lib.hid hr
          clear hr hoi hok hp1 hBxi
          go_upto_region 9 with fail
          have hbp := BoxAt.new wr 69 #[.int .i64 (X i), .int .i64 (Y i), .int .i64 (V i)]
          have HBr := Lib.hid (below_step HBi.out ((Below.refl _ wr).alloc (Nat.le_refl _) (.cells #[.int .i64 (X i), .int .i64 (Y i), .int .i64 (V i)] 69)))
          obtain ⟨Lp, hLp⟩ : ∃ z, z = wr.heap.size := ⟨_, rfl⟩
          rw [← hLp] at hbp ⊢
          clear d0 d1 d2 l1 hLp HBi
          generalize wr.alloc (.cells #[.int .i64 (X i), .int .i64 (Y i), .int .i64 (V i)] 69) = w6 at *
          have HBR6 := Lib.hid (box_step HBR.out HBr.out)
          have g0 : w6.cell? ⟨Lp, 0, none⟩ = some (.int .i64 (X i)) := hbp.cell 0
          have g1 : w6.cell? ⟨Lp, 1, none⟩ = some (.int .i64 (Y i)) := hbp.cell 1
          have g2 : w6.cell? ⟨Lp, 2, none⟩ = some (.int .i64 (V i)) := hbp.cell 2
          have g3 : w6.cell? ⟨Lr, 0, none⟩ = some (.int .i64 (X' k + a)) := HBR6.out.cell 0
          have g4 : w6.cell? ⟨Lr, 1, none⟩ = some (.int .i64 (Y' k + b)) := HBR6.out.cell 1
          have f0 : ∀ n os, (grd w6 n os).cell? ⟨Lp, 0, none⟩ = some (.int .i64 (X i)) := cell_grd g0
          have f1 : ∀ n os, (grd w6 n os).cell? ⟨Lp, 1, none⟩ = some (.int .i64 (Y i)) := cell_grd g1
          have f2 : ∀ n os, (grd w6 n os).cell? ⟨Lp, 2, none⟩ = some (.int .i64 (V i)) := cell_grd g2
          have f3 : ∀ n os, (grd w6 n os).cell? ⟨Lr, 0, none⟩ = some (.int .i64 (X' k + a)) := cell_grd g3
          have f4 : ∀ n os, (grd w6 n os).cell? ⟨Lr, 1, none⟩ = some (.int .i64 (Y' k + b)) := cell_grd g4
          clear g0 g1 g2 g3 g4 hbp
          cases r with
          | true =>
            have HH : Hid (hitB n X Y (X' k + a) (Y' k + b) s = true) := Lib.hid (anyB_hit hli HRr.out.symm)
            have HT3 := Lib.hid (HT2.out true HH.out)
            refine wp_region_quiet_grd (by kernel_rfl) (by kernel_rfl) ?_
            repeat (go_big_quiet_step (first
              | (go_at_call 64; with_reducible exact Calls.grd_of (spot_any _ _ _ _))
              | (go_at_call 122; with_reducible exact Calls.grd_of (HAg.out _))))
            refine wpQuiet_nil ?_
            intro _ hw'
            obtain ⟨⟨nq, osq⟩, rfl⟩ := hw'
            have HBq := Lib.hid (below_step HBr.out (below_grd w6 nq osq))
            generalize grd w6 nq osq = wq at *
            clear f0 f1 f2 f3 f4
            go_wp2
            go_roundw
            case rel => exact ⟨k + 1, t + 1, by omega, by go_num, by go_num, Lib.hid (by rw [HT3.out]; simp), Lib.hid (below_step HB5.out HBq.out)⟩
            case measure => simp [intOf]; omega
          | false =>
            have HF2 : Hid (anyB (fun i => agrB (X' k + a, Y' k + b) (X i, Y i) s) (i + 1) = false) := Lib.hid (by rw [anyB, HF.out, ← HRr.out]; rfl)
            refine wp_region_quiet_grd (by kernel_rfl) (by kernel_rfl) ?_
            repeat (go_big_quiet_step (first
              | (go_at_call 64; with_reducible exact Calls.grd_of (spot_any _ _ _ _))
              | (go_at_call 122; with_reducible exact Calls.grd_of (HAg.out _))))
            refine wpQuiet_nil ?_
            intro _ hw'
            obtain ⟨⟨nq, osq⟩, rfl⟩ := hw'
            have HBq := Lib.hid (below_step HBr.out (below_grd w6 nq osq))
            generalize grd w6 nq osq = wq at *
            clear f0 f1 f2 f3 f4
            go_wp2
            go_roundw
            case rel => exact ⟨i + 1, by omega, rfl, by go_num, HF2, HBq⟩
            case measure => simp [intOf]; omega
        · obtain rfl : i = n := by omega
          have i1 : ¬ (i : Int) < (i : Int) := by omega
          have HT3 := Lib.hid (HT2.out false HF.out)
          go_wp2
          go_roundw
          case rel => exact ⟨k + 1, t, by omega, rfl, by go_num, Lib.hid (by rw [HT3.out]; simp), Lib.hid (below_step HB5.out HBi.out)⟩
          case measure => simp [intOf]; omega
    · obtain rfl : k = m := by omega
      have k1 : ¬ (k : Int) < (k : Int) := by omega
      have HE : Hid (t = matF n X Y k X' Y' a b s) := HT
      go_wp2
      go_ret
      exact ⟨by rw [HE.out]; rfl, below_step HBx.out HB.out⟩
end Go.Proofs.Ytaehfildhmljeaa
