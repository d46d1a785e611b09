/- 'validSpots', and the program's Check of a cloud. -/
import Derived.Test.YtaehfildhmljeaaSegL
namespace Go.Proofs.Ytaehfildhmljeaa
open Go.RowKit Go.Shelf

/-- All of the first ones. -/
def allB (p : Nat → Bool) : Nat → Bool
  | 0 => true
  | k + 1 => allB p k && p k
theorem allB_true {p : Nat → Bool} {n : Nat} (h : allB p n = true) : ∀ i, i < n → p i = true := by
  induction n with
  | zero => intro i hi; omega
  | succ n ih =>
    intro i hi
    unfold allB at h
    rw [Bool.and_eq_true] at h
    rcases Nat.lt_or_ge i n with h1 | h1
    · exact ih h.1 i h1
    · obtain rfl : i = n := by omega
      exact h.2
theorem allB_of {p : Nat → Bool} {n : Nat} (h : ∀ i, i < n → p i = true) : allB p n = true := by
  induction n with
  | zero => rfl
  | succ n ih => unfold allB; rw [ih (fun i hi => h i (by omega)), h n (by omega)]; rfl
theorem allB_false {p : Nat → Bool} {n i : Nat} (hi : i < n) (h : p i = false) : allB p n = false := by
  cases he : allB p n with
  | false => rfl
  | true => rw [allB_true he i hi] at h; cases h
theorem sees_self (x y : Int) : seesF (x, y) (x, y) 0 = vldB x y := by
  unfold seesF dsq vp
  simp
set_option maxRecDepth 100000 in
set_option maxHeartbeats 2000000 in
theorem vspots_any (b off n cap : Nat) (X Y : Nat → Int) (r : Bool) (w : World) (hp : Pts w b off n X Y) (hb : b < w.heap.size) (hn : n ≤ 1000000) (hr : Hid (allB (fun i => vldB (X i) (Y i)) n = r)) :
    Calls Try.prog 60 #[.slice (some ⟨b, off, none⟩) n cap] w fun e w' => e = .returned (.bool r) ∧ Below w.heap.size w w' := by
  have HP := Lib.hid hp
  clear hp
  go_enter Try.func60, Try.ntmps60
  go_wp2
  go_loopw [7] (fun i wr => ∃ k : Nat, k ≤ n ∧ i = .int .i64 k ∧ Hid (allB (fun i => vldB (X i) (Y i)) k = true) ∧ Hid (Below w.heap.size w wr)) (fun i _ => n - (intOf i).toNat)
  case atStart => exact ⟨0, Nat.zero_le _, rfl, Lib.hid rfl, Lib.hid (Below.refl _ _)⟩
  case round =>
    obtain ⟨k, hk, rfl, HT, HB⟩ := hrel
    by_cases hlt : k < n
    · have i0 : (0 : Int) ≤ (k : Int) := Int.natCast_nonneg _
      have i1 : (k : Int) < (n : Int) := by omega
      obtain ⟨hx, hy⟩ := (HP.out.below HB.out hb) k hlt
      have l1 : b < wr.heap.size := Nat.lt_of_lt_of_le hb HB.out.size
      obtain ⟨z, hz⟩ : ∃ z, z = vldB (X k) (Y k) := ⟨_, rfl⟩
      have HS : Hid (seesF (X k, Y k) (X k, Y k) 0 = z) := Lib.hid ((sees_self _ _).trans hz.symm)
      have HZ := Lib.hid hz
      clear hz
      have hb4 : Below wr.heap.size wr (wr.alloc (.cells #[.int .i64 (X k), .int .i64 (Y k)] 24)) := (Below.refl _ wr).alloc (Nat.le_refl _) _
      cases z with
      | true =>
        have HT2 : Hid (allB (fun i => vldB (X i) (Y i)) (k + 1) = true) := Lib.hid (by unfold allB; rw [HT.out, ← HZ.out]; rfl)
        go_wp2_with (go_at_call 74; (with_reducible refine (sees_raw _ _ _ _ _ true _ HS).mono ?_); rintro e wb ⟨rfl, hbb⟩)
        go_roundw
        case rel => exact ⟨k + 1, by omega, by go_num, HT2, Lib.hid (below_step (below_step HB.out hb4) hbb)⟩
        case measure => simp [intOf]; omega
      | false =>
        have HF : Hid (r = false) := Lib.hid (by rw [← hr.out]; exact allB_false hlt HZ.out.symm)
        go_wp2_with (go_at_call 74; (with_reducible refine (sees_raw _ _ _ _ _ false _ HS).mono ?_); rintro e wb ⟨rfl, hbb⟩)
        go_ret
        exact ⟨by rw [HF.out]; rfl, below_step (below_step HB.out hb4) hbb⟩
    · obtain rfl : k = n := by omega
      have i1 : ¬ (k : Int) < (k : Int) := by omega
      have HF : Hid (r = true) := Lib.hid (hr.out.symm.trans HT.out)
      go_wp2
      go_ret
      exact ⟨by rw [HF.out]; rfl, HB.out⟩
def okP (X Y V : Nat → Int) (i : Nat) : Bool := vldB (X i) (Y i) && (decide (-4000 ≤ V i) && decide (V i ≤ 4000))
/-- What Check returns. -/
def chkF (n : Nat) (X Y V : Nat → Int) : Int := if 1000 < n then 8 else if allB (okP X Y V) n = true then 0 else 2
theorem one_vspot (b cap : Nat) (x y : Int) (r : Bool) (w : World) (hb : BoxAt w b 24 #[.int .i64 x, .int .i64 y]) (hr : Hid (vldB x y = r)) :
    Calls Try.prog 60 #[.slice (some ⟨b, 0, none⟩) 1 cap] w fun e w' => e = .returned (.bool r) ∧ Below w.heap.size w w' :=
  vspots_any b 0 1 cap (fun _ => x) (fun _ => y) r w (fun i hi => by
    obtain rfl : i = 0 := by omega
    exact ⟨hb.cell 0, hb.cell 1⟩) hb.lt (by omega) (Lib.hid (by rw [← hr.out]; simp [allB]))

set_option maxRecDepth 100000 in
set_option maxHeartbeats 4000000 in
theorem check_any (A : Option Addr) (n cap : Nat) (X Y V : Nat → Int) (w : World) (hcl : Cloud w A n X Y V) :
    Calls Try.prog 22 #[.slice A n cap] w fun e w' => e = .returned (.int .i64 (chkF n X Y V)) ∧ Below w.heap.size w w' := by
  have n0 : (0 : Int) ≤ (n : Int) := Int.natCast_nonneg _
  by_cases hbig : 1000 < n
  · have h1 : (1000 : Int) < (n : Int) := by omega
    have HE : Hid (chkF n X Y V = 8) := Lib.hid (by unfold chkF; rw [if_pos hbig])
    clear hcl
    go_enter Try.func22, Try.ntmps22
    go_wp2
    go_ret
    exact ⟨by rw [HE.out]; rfl, Below.refl _ _⟩
  · have h1 : ¬ (1000 : Int) < (n : Int) := by omega
    have HCL := Lib.hid hcl
    clear hcl
    go_enter Try.func22, Try.ntmps22
    go_wp2
    go_loopw [10] (fun i wr => ∃ k : Nat, k ≤ n ∧ i = .int .i64 k ∧ Hid (allB (okP X Y V) k = true) ∧ Hid (Below w.heap.size w wr)) (fun i _ => n - (intOf i).toNat)
    case atStart => exact ⟨0, Nat.zero_le _, rfl, Lib.hid rfl, Lib.hid (Below.refl _ _)⟩
    case round =>
      obtain ⟨k, hk, rfl, HT, HB⟩ := hrel
      by_cases hlt : k < n
      · obtain ⟨b, off, e, hc0⟩ := HCL.out (by omega)
        subst e
        have i0 : (0 : Int) ≤ (k : Int) := Int.natCast_nonneg _
        have i1 : (k : Int) < (n : Int) := by omega
        have hbl := hc0.lt (by omega)
        obtain ⟨c0, c1, c2⟩ := (hc0.below HB.out hbl) k hlt
        have l1 : b < wr.heap.size := Nat.lt_of_lt_of_le hbl HB.out.size
        obtain ⟨z, hz⟩ : ∃ z, z = vldB (X k) (Y k) := ⟨_, rfl⟩
        have HZ : Hid (vldB (X k) (Y k) = z) := Lib.hid hz.symm
        clear hz hc0
        go_upto_region 6 with fail
        have hb4 : Below wr.heap.size wr (wr.alloc (.cells #[.int .i64 (X k), .int .i64 (Y k), .int .i64 (V k)] 69)) := (Below.refl _ wr).alloc (Nat.le_refl _) _
        have hq := BoxAt.new wr 69 #[.int .i64 (X k), .int .i64 (Y k), .int .i64 (V k)]
        obtain ⟨Lq, hLq⟩ : ∃ q, q = wr.heap.size := ⟨_, rfl⟩
        rw [← hLq] at hq ⊢
        have HB2 := Lib.hid (below_step HB.out hb4)
        obtain ⟨wo, rfl⟩ : ∃ x : World, x = wr := ⟨_, rfl⟩
        clear hLq hb4 c0 c1 c2 l1 HB
        generalize wo.alloc (.cells #[.int .i64 (X k), .int .i64 (Y k), .int .i64 (V k)] 69) = wx at *
        have k0 : wx.cell? ⟨Lq, 0, none⟩ = some (.int .i64 (X k)) := hq.cell 0
        have k1 : wx.cell? ⟨Lq, 1, none⟩ = some (.int .i64 (Y k)) := hq.cell 1
        have k2 : wx.cell? ⟨Lq, 2, none⟩ = some (.int .i64 (V k)) := hq.cell 2
        have l1 := hq.lt
        have HQ := Lib.hid hq
        have hBx := Below.refl wx.heap.size wx
        clear hq
        obtain ⟨v, hv⟩ : ∃ v, v = V k := ⟨_, rfl⟩
        have HV := Lib.hid hv
        rw [← hv] at k2 HQ ⊢
        clear hv
        have HO : Hid (okP X Y V k = (z && (decide (-4000 ≤ v) && decide (v ≤ 4000)))) := Lib.hid (by unfold okP; rw [HZ.out, HV.out])
        by_cases hok : z = true ∧ -4000 ≤ v ∧ v ≤ 4000
        · obtain ⟨rfl, v1, v2⟩ := hok
          have HT2 : Hid (allB (okP X Y V) (k + 1) = true) := Lib.hid (by unfold allB; rw [HT.out, HO.out]; simp [v1, v2])
          have y1 : ¬ v < -4000 := by omega
          have y2 : ¬ 4000 < v := by omega
          clear v1 v2
          go_wp2_with (first
            | (go_at_call 64; (with_reducible refine (spot_any _ _ _ _).mono ?_); rintro e wa ⟨rfl, hba⟩; replace hBx := below_step hBx hba)
            | (go_at_call 60; (with_reducible refine (one_vspot _ _ _ _ true _ (BoxAt.new _ 24 _) HZ).mono ?_); rintro e wb ⟨rfl, hbb⟩; replace hBx := below_step2 hBx hbb; have q2 : wb.cell? ⟨Lq, 2, none⟩ = some (.int .i64 v) := (box_step HQ.out hBx).cell 2; have q3 := (box_step HQ.out hBx).lt))
          go_roundw
          case rel => exact ⟨k + 1, by omega, by go_num, HT2, Lib.hid (below_step HB2.out hBx)⟩
          case measure => simp [intOf]; omega
        · have HF : Hid (chkF n X Y V = 2) := Lib.hid (by
            have hf : okP X Y V k = false := by
              rw [HO.out]
              cases z with
              | false => rfl
              | true =>
                by_cases a1 : -4000 ≤ v
                · have a2 : ¬ v ≤ 4000 := fun h => hok ⟨rfl, a1, h⟩
                  simp [a2]
                · simp [a1]
            unfold chkF
            rw [if_neg hbig, allB_false hlt hf, if_neg (by simp)])
          cases z with
          | false =>
            go_wp2_with (first
              | (go_at_call 64; (with_reducible refine (spot_any _ _ _ _).mono ?_); rintro e wa ⟨rfl, hba⟩; replace hBx := below_step hBx hba)
              | (go_at_call 60; (with_reducible refine (one_vspot _ _ _ _ false _ (BoxAt.new _ 24 _) HZ).mono ?_); rintro e wb ⟨rfl, hbb⟩; replace hBx := below_step2 hBx hbb))
            go_ret
            exact ⟨by rw [HF.out]; rfl, below_step HB2.out hBx⟩
          | true =>
            by_cases y1 : v < -4000
            · clear hok
              go_wp2_with (first
                | (go_at_call 64; (with_reducible refine (spot_any _ _ _ _).mono ?_); rintro e wa ⟨rfl, hba⟩; replace hBx := below_step hBx hba)
                | (go_at_call 60; (with_reducible refine (one_vspot _ _ _ _ true _ (BoxAt.new _ 24 _) HZ).mono ?_); rintro e wb ⟨rfl, hbb⟩; replace hBx := below_step2 hBx hbb; have q2 : wb.cell? ⟨Lq, 2, none⟩ = some (.int .i64 v) := (box_step HQ.out hBx).cell 2; have q3 := (box_step HQ.out hBx).lt))
              go_ret
              exact ⟨by rw [HF.out]; rfl, below_step HB2.out hBx⟩
            · have y2 : 4000 < v := by
                rcases Int.lt_or_le 4000 v with h | h
                · exact h
                · exact absurd ⟨rfl, by omega, h⟩ hok
              clear hok
              go_wp2_with (first
                | (go_at_call 64; (with_reducible refine (spot_any _ _ _ _).mono ?_); rintro e wa ⟨rfl, hba⟩; replace hBx := below_step hBx hba)
                | (go_at_call 60; (with_reducible refine (one_vspot _ _ _ _ true _ (BoxAt.new _ 24 _) HZ).mono ?_); rintro e wb ⟨rfl, hbb⟩; replace hBx := below_step2 hBx hbb; have q2 : wb.cell? ⟨Lq, 2, none⟩ = some (.int .i64 v) := (box_step HQ.out hBx).cell 2; have q3 := (box_step HQ.out hBx).lt))
              go_ret
              exact ⟨by rw [HF.out]; rfl, below_step HB2.out hBx⟩
      · obtain rfl : k = n := by omega
        have i1 : ¬ (k : Int) < (k : Int) := by omega
        have HF : Hid (chkF k X Y V = 0) := Lib.hid (by unfold chkF; rw [if_neg hbig, if_pos HT.out])
        go_wp2
        go_ret
        exact ⟨by rw [HF.out]; rfl, HB.out⟩
end Go.Proofs.Ytaehfildhmljeaa
