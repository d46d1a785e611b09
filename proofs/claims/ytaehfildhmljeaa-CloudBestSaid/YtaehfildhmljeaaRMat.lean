/- The reference's Matches, and the program's, of any clouds. -/
import Derived.Test.YtaehfildhmljeaaMat
import Derived.Test.YtaehfildhmljeaaRChC
namespace Go.Proofs.Ytaehfildhmljeaa
open Go.RowKit Go.Shelf

theorem agr_iff (x y a b s : Int) : agrB (x, y) (a, b) s = true ↔ x - s ≤ a ∧ a ≤ x + s ∧ y - s ≤ b ∧ b ≤ y + s := by
  unfold agrB dsF
  rw [Bool.and_eq_true, decide_eq_true_iff, decide_eq_true_iff]
  simp only
  omega

set_option maxRecDepth 100000 in
set_option maxHeartbeats 16000000 in
theorem rmatches_good (A : Option Addr) (n c1 : Nat) (X Y V : Nat → Int) (B : Option Addr) (m c2 : Nat) (X' Y' V' : Nat → Int) (a b s : Int) (hok : chkF n X Y V = 0) (hok' : chkF m X' Y' V' = 0)
    (hnb : nearB a b = true) (s0 : 0 ≤ s) (s1 : s ≤ 2000) (w : World) (hc1 : Cloud w A n X Y V) (hc2 : Cloud w B m X' Y' V') :
    Calls Try.prog 52 #[.slice A n c1, .slice B m c2, sp a b, .int .i64 s] w fun e w' => e = .returned (.int .i64 ((matF n X Y m X' Y' a b s : Nat) : Int)) ∧ Below w.heap.size w w' := by
  obtain ⟨ha1, ha2, hb1, hb2⟩ := near_of hnb
  have HAB := Lib.hid (And.intro (And.intro ha1 ha2) (And.intro hb1 hb2))
  have hm : m ≤ 1000 := by
    have h := hok'
    unfold chkF at h
    split at h
    · cases h
    · omega
  have hn : n ≤ 1000 := by
    have h := hok
    unfold chkF at h
    split at h
    · cases h
    · omega
  have HO' := Lib.hid (fun i (hi : i < m) => ok_at hok' hi)
  have HCh1 := Lib.hid (fun W (h : Cloud W A n X Y V) => rcheck_any A n c1 X Y V W h)
  have HCh2 := Lib.hid (fun W (h : Cloud W B m X' Y' V') => rcheck_any B m c2 X' Y' V' W h)
  rw [hok] at HCh1
  rw [hok'] at HCh2
  have HFar := Lib.hid (fun W => far_any a b false W (Lib.hid (by rw [hnb]; rfl)))
  have hB : Below w.heap.size w (w.alloc (.cells #[.int .i64 a, .int .i64 b] 24)) := (Below.refl _ w).alloc (Nat.le_refl _) _
  have hbx := BoxAt.new w 24 #[.int .i64 a, .int .i64 b]
  have HC1 := Lib.hid (hc1.below hB)
  have HC2 := Lib.hid (hc2.below hB)
  have y1 : ¬ s < 0 := by omega
  have y2 : ¬ 2000 < s := by omega
  clear hok hok' hnb hc1 hc2 ha1 ha2 hb1 hb2
  go_enter Try.func52, Try.ntmps52
  go_upto_region 1 with fail
  obtain ⟨L6, hL6⟩ : ∃ z, z = w.heap.size := ⟨_, rfl⟩
  rw [← hL6] at hbx ⊢
  clear hL6
  have HBx := Lib.hid hB
  have HBB := Lib.hid hbx
  clear hB
  generalize w.alloc (.cells #[.int .i64 a, .int .i64 b] 24) = wx at *
  have hBq := Below.refl wx.heap.size wx
  go_upto_region 3 with (first
    | (go_at_call 23; (with_reducible refine (HCh1.out _ HC1.out).mono ?_); rintro e w1 ⟨rfl, hx1⟩; replace hBq := below_step hBq hx1; have HC2b := Lib.hid (HC2.out.below hx1))
    | (go_at_call 23; (with_reducible refine (HCh2.out _ HC2b.out).mono ?_); rintro e w2 ⟨rfl, hx2⟩; replace hBq := below_step hBq hx2; have r0 : w2.cell? ⟨L6, 0, none⟩ = some (.int .i64 a) := (box_step HBB.out hBq).cell 0; have r1 : w2.cell? ⟨L6, 1, none⟩ = some (.int .i64 b) := (box_step HBB.out hBq).cell 1; have r2 := (box_step HBB.out hBq).lt)
    | (go_at_call 61; (with_reducible refine (HFar.out _).mono ?_); rintro e w3 ⟨rfl, hx3⟩; replace hBq := below_step hBq hx3))
  have HB3 := Lib.hid hBq
  have I : ∃ (k t : Nat), k ≤ m ∧ (Value.int .i64 0) = .int .i64 t ∧ (Value.int .i64 0) = .int .i64 k ∧ Hid (t = cntB (fun j => hitB n X Y (X' j + a) (Y' j + b) s) k) ∧ Hid (Below wx.heap.size wx w3) := ⟨0, 0, Nat.zero_le _, rfl, rfl, Lib.hid rfl, HB3⟩
  clear hBq hx1 hx2 hx3 r0 r1 r2 HCh1 HCh2 HFar HC2b hbx HB3
  go_wp2
  go_loopw [9, 10] (fun tv kv wr => ∃ (k t : Nat), k ≤ m ∧ tv = .int .i64 t ∧ kv = .int .i64 k ∧ Hid (t = cntB (fun j => hitB n X Y (X' j + a) (Y' j + b) s) k) ∧ Hid (Below wx.heap.size wx wr)) (fun _ kv _ => m + 1 - (intOf kv).toNat)
  case atStart => exact I
  case round =>
    clear I
    obtain ⟨k, t, hk, rfl, rfl, HT, HB⟩ := hrel
    by_cases hlt : k < m
    · have k0 : (0 : Int) ≤ (k : Int) := Int.natCast_nonneg _
      have k1 : (k : Int) < (m : Int) := by omega
      obtain ⟨b2, o2, e2, hp2⟩ := HC2.out (by omega)
      subst e2
      have q2 := hp2.lt (by omega)
      have l2 : b2 < wr.heap.size := Nat.lt_of_lt_of_le q2 HB.out.size
      obtain ⟨d0, d1, _⟩ := (hp2.below HB.out q2) k hlt
      have d3 : wr.cell? ⟨L6, 0, none⟩ = some (.int .i64 a) := (box_step HBB.out HB.out).cell 0
      have d4 : wr.cell? ⟨L6, 1, none⟩ = some (.int .i64 b) := (box_step HBB.out HB.out).cell 1
      have d5 := (box_step HBB.out HB.out).lt
      have ht := cntB_le (fun j => hitB n X Y (X' j + a) (Y' j + b) s) k
      have htt : t ≤ k := by rw [HT.out]; exact ht
      have HT2 : Hid (∀ r, hitB n X Y (X' k + a) (Y' k + b) s = r → cntB (fun j => hitB n X Y (X' j + a) (Y' j + b) s) (k + 1) = t + if r = true then 1 else 0) := Lib.hid (fun r hr => by
        unfold cntB
        rw [← HT.out, hr])
      obtain ⟨⟨x1, x2⟩, ⟨z1, z2⟩, _⟩ := HO'.out k hlt
      obtain ⟨⟨ha1, ha2⟩, hb1, hb2⟩ := HAB.out
      have w1 : IntKind.i64.wrap (X' k + a) = X' k + a := IntWalk.i64_in _ (by omega)
      have w2 : IntKind.i64.wrap (Y' k + b) = Y' k + b := IntWalk.i64_in _ (by omega)
      clear ht hp2
      go_upto_region 7 with fail
      go_quiet (fail)
      have HBq : Hid (Below wx.heap.size wx (wr.drewN nq)) := Lib.hid (below_drewN HB.out nq)
      obtain ⟨x, hx⟩ : ∃ x, x = X' k + a := ⟨_, rfl⟩
      obtain ⟨y, hy⟩ : ∃ y, y = Y' k + b := ⟨_, rfl⟩
      rw [← hx, ← hy] at HT2
      rw [← hx, ← hy]
      have x3 : -67108864 ≤ x ∧ x ≤ 67108864 := by omega
      have y3 : -67108864 ≤ y ∧ y ≤ 67108864 := by omega
      obtain ⟨x4, x5⟩ := x3
      obtain ⟨y4, y5⟩ := y3
      clear d0 d1 d3 d4 d5 w1 w2 x1 x2 z1 z2 ha1 ha2 hb1 hb2 hx hy l2 HB
      generalize wr.drewN nq = w5 at *
      go_wp2
      go_loopw [9, 13] (fun tv iv wr => ∃ i : Nat, i ≤ n ∧ tv = .int .i64 t ∧ iv = .int .i64 i ∧ Hid (anyB (fun i => agrB (x, y) (X i, Y i) s) i = false) ∧ Hid (Below w5.heap.size w5 wr)) (fun _ iv _ => n + 1 - (intOf iv).toNat)
      case atStart => exact ⟨0, Nat.zero_le _, rfl, rfl, Lib.hid rfl, Lib.hid (Below.refl _ _)⟩
      case round =>
        obtain ⟨i, hi, rfl, rfl, HF, HBi⟩ := hrel
        by_cases hli : i < n
        · have i0 : (0 : Int) ≤ (i : Int) := Int.natCast_nonneg _
          have i1 : (i : Int) < (n : Int) := by omega
          obtain ⟨b1, o1, e1, hp1⟩ := HC1.out (by omega)
          subst e1
          have q1 := hp1.lt (by omega)
          have hBxi : Below wx.heap.size wx wr := below_step HBq.out HBi.out
          have l1 : b1 < wr.heap.size := Nat.lt_of_lt_of_le q1 hBxi.size
          obtain ⟨d0, d1, _⟩ := (hp1.below hBxi q1) i hli
          have HYes : Hid (x - s ≤ X i ∧ X i ≤ x + s ∧ y - s ≤ Y i ∧ Y i ≤ y + s → hitB n X Y x y s = true) := Lib.hid (fun h => anyB_hit hli ((agr_iff _ _ _ _ _).2 h))
          have HNo : Hid (¬ (x - s ≤ X i ∧ X i ≤ x + s ∧ y - s ≤ Y i ∧ Y i ≤ y + s) → anyB (fun i => agrB (x, y) (X i, Y i) s) (i + 1) = false) := Lib.hid (fun h => by
            have h2 : agrB (x, y) (X i, Y i) s = false := by
              cases h3 : agrB (x, y) (X i, Y i) s with
              | false => rfl
              | true => exact absurd ((agr_iff _ _ _ _ _).1 h3) h
            rw [anyB, HF.out, h2]; rfl)
          obtain ⟨xi, hxi⟩ : ∃ z, z = X i := ⟨_, rfl⟩
          obtain ⟨yi, hyi⟩ : ∃ z, z = Y i := ⟨_, rfl⟩
          rw [← hxi] at d0 HYes HNo
          rw [← hyi] at d1 HYes HNo
          clear hxi hyi hBxi
          by_cases h1 : x - s ≤ xi
          · by_cases h2 : xi ≤ x + s
            · by_cases h3 : y - s ≤ yi
              · by_cases h4 : yi ≤ y + s
                · have HT3 := Lib.hid (HT2.out true (HYes.out ⟨h1, h2, h3, h4⟩))
                  go_wp2
                  go_roundw
                  case rel => exact ⟨k + 1, t + 1, by omega, by go_num, by go_num, Lib.hid (by rw [HT3.out]; simp), Lib.hid (below_step HBq.out HBi.out)⟩
                  case measure => simp [intOf]; omega
                · have HF2 := Lib.hid (HNo.out (fun h => h4 h.2.2.2))
                  go_wp2
                  go_roundw
                  case rel => exact ⟨i + 1, by omega, rfl, by go_num, HF2, HBi⟩
                  case measure => simp [intOf]; omega
              · have HF2 := Lib.hid (HNo.out (fun h => h3 h.2.2.1))
                go_wp2
                go_roundw
                case rel => exact ⟨i + 1, by omega, rfl, by go_num, HF2, HBi⟩
                case measure => simp [intOf]; omega
            · have HF2 := Lib.hid (HNo.out (fun h => h2 h.2.1))
              go_wp2
              go_roundw
              case rel => exact ⟨i + 1, by omega, rfl, by go_num, HF2, HBi⟩
              case measure => simp [intOf]; omega
          · have HF2 := Lib.hid (HNo.out (fun h => h1 h.1))
            go_wp2
            go_roundw
            case rel => exact ⟨i + 1, by omega, rfl, by go_num, HF2, HBi⟩
            case measure => simp [intOf]; omega
        · obtain rfl : i = n := by omega
          have i1 : ¬ (i : Int) < (i : Int) := by omega
          have HT3 := Lib.hid (HT2.out false HF.out)
          go_wp2
          go_roundw
          case rel => exact ⟨k + 1, t, by omega, rfl, by go_num, Lib.hid (by rw [HT3.out]; simp), Lib.hid (below_step HBq.out HBi.out)⟩
          case measure => simp [intOf]; omega
    · obtain rfl : k = m := by omega
      have k1 : ¬ (k : Int) < (k : Int) := by omega
      have HE : Hid (t = matF n X Y k X' Y' a b s) := HT
      go_wp2
      go_ret
      exact ⟨by rw [HE.out]; rfl, below_step HBx.out HB.out⟩
end Go.Proofs.Ytaehfildhmljeaa
