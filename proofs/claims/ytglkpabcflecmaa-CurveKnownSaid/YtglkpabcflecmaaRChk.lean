/- The reference's Check. -/
import Derived.Test.YtglkpabcflecmaaRoot
import Derived.Test.YtglkpabcflecmaaChk2
import Derived.BigQuiet
namespace Go.Proofs.Ytglkpabcflecmaa
open Go.RowKit Go.Shelf

set_option maxHeartbeats 2000000 in
theorem rcheck_short (A : Option Addr) (n cap : Nat) (hn : n < 2) (w : World) :
    Calls Try.prog 21 #[.agg #[.slice A n cap]] w fun e w' => e = .returned (.int .i64 6) ∧ Below w.heap.size w w' := by
  go_enter Try.func21, Try.ntmps21
  go_wp2
  go_ret
  exact ⟨rfl, (Below.refl _ _).alloc (Nat.le_refl _) _⟩

set_option maxHeartbeats 2000000 in
theorem rcheck_long (A : Option Addr) (n cap : Nat) (hn : 16 < n) (w : World) :
    Calls Try.prog 21 #[.agg #[.slice A n cap]] w fun e w' => e = .returned (.int .i64 5) ∧ Below w.heap.size w w' := by
  have h2 : ¬ n < 2 := by omega
  go_enter Try.func21, Try.ntmps21
  go_wp2
  go_ret
  exact ⟨rfl, (Below.refl _ _).alloc (Nat.le_refl _) _⟩

theorem box_step {wr w1 : World} {g : Nat} {t : TypeId} {cs : Array Value} (h : BoxAt wr g t cs) (hb : Below wr.heap.size wr w1) : BoxAt w1 g t cs := h.below hb h.lt

set_option maxHeartbeats 4000000 in
theorem rcheck_range (b off n cap : Nat) (X Y : Nat → Int) (hn : 2 ≤ n) (hn' : n ≤ 16) (w : World) (hp : Pts w b off n X Y) (j : Nat) (hj : j < n) (hbad : ¬ (okc (X j) ∧ okc (Y j))) :
    Calls Try.prog 21 #[cv b off n cap] w fun e w' => e = .returned (.int .i64 2) ∧ Below w.heap.size w w' := by
  have HB := Lib.hid hbad
  have hb := hp.lt (by omega)
  have h2 : ¬ n < 2 := by omega
  have h3 : ¬ 16 < n := by omega
  clear hbad
  go_enter Try.func21, Try.ntmps21
  go_wp2
  go_loopw [3] (fun i wr => ∃ k : Nat, k ≤ j ∧ i = .int .i64 k ∧ Below w.heap.size w wr ∧ BoxAt wr w.heap.size 24 #[.slice (some ⟨b, off, none⟩) n cap]) (fun i _ => n - (intOf i).toNat)
  case atStart => exact ⟨0, Nat.zero_le _, rfl, (Below.refl _ _).alloc (Nat.le_refl _) _, BoxAt.new _ _ _⟩
  case round =>
    obtain ⟨k, hk, rfl, hB, hBB⟩ := hrel
    have hsz := hBB.lt
    have hBx : wr.cell? ⟨w.heap.size, 0, none⟩ = some (.slice (some ⟨b, off, none⟩) n cap) := hBB.cell 0
    have hlt : k < n := by omega
    obtain ⟨hx, hy⟩ := (hp.below hB hb) k hlt
    cases hv : vp (X k, Y k) with
    | false =>
      have HV : Hid (vp (X k, Y k) = false) := hv
      clear hv
      go_wp2_with (go_at_call 63; (with_reducible refine (rvalid_any (X k) (Y k) _ _ HV).mono ?_); rintro e w1 ⟨rfl, hb1⟩)
      go_ret
      exact ⟨rfl, below_step hB hb1⟩
    | true =>
      have HV : Hid (vp (X k, Y k) = true) := hv
      have hkj : k < j := by
        rcases Nat.lt_or_ge k j with h | h
        · exact h
        · obtain rfl : k = j := by omega
          exact absurd ((vp_iff _).1 hv) HB.out
      clear hv
      go_wp2_with (go_at_call 63; (with_reducible refine (rvalid_any (X k) (Y k) _ _ HV).mono ?_); rintro e w1 ⟨rfl, hb1⟩)
      go_roundw
      case rel => exact ⟨k + 1, by omega, by go_num, below_step hB hb1, box_step hBB hb1⟩
      case measure => simp [intOf]; omega


theorem root_n (n l : Int) (w : World) (h0 : 0 ≤ n) (h1 : n ≤ 4503599627370496) (hl : Hid (isqI n = l)) :
    Calls Try.prog 64 #[.int .i64 n] w fun e w' => e = .returned (.int .i64 l) ∧ w = w' := by
  have := root_any n w h0 h1
  rwa [hl.out] at this

theorem ferr_form {c : Crv} {k : Nat} (h : c.len k * c.len k ≠ c.d2 k) : c.ferr k = 3 := by
  have : c.perr k = 3 := by unfold Crv.perr; rw [if_pos h]
  unfold Crv.ferr; rw [this]; rfl
theorem ferr_range {c : Crv} {k : Nat} (h : c.len k * c.len k = c.d2 k) (h2 : c.len k < 1000 ∨ 1048576 < c.len k) : c.ferr k = 2 := by
  have : c.perr k = 2 := by unfold Crv.perr; rw [if_neg (by simp [h]), if_pos h2]
  unfold Crv.ferr; rw [this]; rfl
theorem ferr_rest {c : Crv} {k : Nat} (h : c.len k * c.len k = c.d2 k) (h2 : ¬ (c.len k < 1000 ∨ 1048576 < c.len k)) : c.ferr k = if 0 < k ∧ c.turn k ≤ 0 then 12 else 0 := by
  have : c.perr k = 0 := by unfold Crv.perr; rw [if_neg (by simp [h]), if_neg h2]
  unfold Crv.ferr; rw [this]; rfl

theorem cells_now {wd W : World} {g D : Nat} {t t2 : TypeId} {a a' s : Value} (h : BoxAt wd g t #[a, a']) (h2 : BoxAt wd D t2 #[s]) (hb : Below wd.heap.size wd W) :
    W.cell? ⟨g, 0, none⟩ = some a ∧ W.cell? ⟨g, 1, none⟩ = some a' ∧ W.cell? ⟨D, 0, none⟩ = some s := ⟨(box_step h hb).cell 0, (box_step h hb).cell 1, (box_step h2 hb).cell 0⟩

set_option maxRecDepth 100000 in
set_option maxHeartbeats 16000000 in
theorem rcheck_ok (b off cap : Nat) (c : Crv) (hn : 2 ≤ c.n) (hn' : c.n ≤ 16) (hok : c.AllOk) (w : World) (hp : Pts w b off c.n c.X c.Y) :
    Calls Try.prog 21 #[cv b off c.n cap] w fun e w' => e = .returned (.int .i64 (firstE c.ferr (c.n - 1))) ∧ Below w.heap.size w w' := by
  have hb := hp.lt (by omega)
  have h2 : ¬ c.n < 2 := by omega
  have h3 : ¬ 16 < c.n := by omega
  go_enter Try.func21, Try.ntmps21
  go_wp2
  go_loopw [3] (fun i wr => ∃ k : Nat, k ≤ c.n ∧ i = .int .i64 k ∧ Below w.heap.size w wr ∧ BoxAt wr w.heap.size 24 #[.slice (some ⟨b, off, none⟩) c.n cap]) (fun i _ => c.n - (intOf i).toNat)
  case atStart => exact ⟨0, Nat.zero_le _, rfl, (Below.refl _ _).alloc (Nat.le_refl _) _, BoxAt.new _ _ _⟩
  case round =>
    obtain ⟨k, hk, rfl, hB, hBB⟩ := hrel
    have hsz := hBB.lt
    have hBx : wr.cell? ⟨w.heap.size, 0, none⟩ = some (.slice (some ⟨b, off, none⟩) c.n cap) := hBB.cell 0
    by_cases hlt : k < c.n
    · obtain ⟨hx, hy⟩ := (hp.below hB hb) k hlt
      have HV : Hid (vp (c.X k, c.Y k) = true) := (vp_iff _).2 (hok k hlt)
      go_wp2_with (go_at_call 63; (with_reducible refine (rvalid_any (c.X k) (c.Y k) _ _ HV).mono ?_); rintro e w1 ⟨rfl, hb1⟩)
      go_roundw
      case rel => exact ⟨k + 1, by omega, by go_num, below_step hB hb1, box_step hBB hb1⟩
      case measure => simp [intOf]; omega
    · go_wp2
      go_loopw [4] (fun i wr => ∃ k : Nat, k ≤ c.n - 1 ∧ i = .int .i64 k ∧ Hid (∀ j, j < k → c.ferr j = 0) ∧ Below w.heap.size w wr ∧ BoxAt wr w.heap.size 24 #[.slice (some ⟨b, off, none⟩) c.n cap]) (fun i _ => c.n - (intOf i).toNat)
      case atStart => exact ⟨0, Nat.zero_le _, rfl, (by intro j hj; omega), hB, hBB⟩
      case round =>
        clear hB hBB hBx hsz
        obtain ⟨k, hk, rfl, hF, hB, hBB⟩ := hrel
        have hsz := hBB.lt
        have hBx : wr.cell? ⟨w.heap.size, 0, none⟩ = some (.slice (some ⟨b, off, none⟩) c.n cap) := hBB.cell 0
        by_cases hlt2 : k < c.n - 1
        · obtain ⟨hx0, hy0⟩ := (hp.below hB hb) k (by omega)
          obtain ⟨hx1, hy1⟩ := (hp.below hB hb) (k + 1) (by omega)
          have ox0 := hok k (by omega)
          have ox1 := hok (k + 1) (by omega)
          have i0 : (0 : Int) ≤ (k : Int) := Int.natCast_nonneg _
          have i1 : (k : Int) < (c.n : Int) := by omega
          have i2 : (0 : Int) ≤ (k : Int) + 1 := by omega
          have i3 : (k : Int) + 1 < (c.n : Int) := by omega
          have lb := World.block_lt_of_cell? wr _ hx0
          have i4 : IntKind.i64.wrap ((k : Int) + 1) = (k : Int) + 1 := IntWalk.i64_in _ (by omega)
          have i5 : ((k : Int) + 1).toNat = k + 1 := by omega
          go_upto_region 13 with fail
          go_cut [5] from 37 to 48 (fun v w' => ∃ g, v = .pointer (some ⟨g, 0, none⟩) ∧ wr.heap.size ≤ g ∧ BoxAt w' g 43 #[.int .i64 (c.wx k), .int .i64 (c.wy k)] ∧ Below wr.heap.size wr w')
          case first =>
            go_region_held3 (fun w' => w'.cell? ⟨w.heap.size, 0, none⟩ = some (.slice (some ⟨b, off, none⟩) c.n cap) ∧ w'.cell? ⟨b, off + k * 2, none⟩ = some (.int .i64 (c.X k)) ∧ w'.cell? ⟨b, off + k * 2 + 1, none⟩ = some (.int .i64 (c.Y k)) ∧
                w'.cell? ⟨b, off + (k + 1) * 2, none⟩ = some (.int .i64 (c.X (k + 1))) ∧ w'.cell? ⟨b, off + (k + 1) * 2 + 1, none⟩ = some (.int .i64 (c.Y (k + 1))))
              (first | go_keep | (refine ⟨?_, ?_, ?_, ?_, ?_⟩ <;> (refine (Below.cell (w := wr) (B := wr.heap.size) ?_ (by assumption)).trans (by assumption); (repeat (first | (with_reducible exact hb1) | (with_reducible exact Below.refl _ _) | ((with_reducible refine bset ?_ ?_ _); (first | exact Nat.le_refl _ | omega | (simp; omega) | simp)) | ((with_reducible refine balloc ?_ ?_ _); (first | exact Nat.le_refl _ | omega | (simp; omega) | simp)) | (with_reducible refine Below.drew ?_) | refine Below.trans ?_ (hb1.mono (by first | omega | (simp; omega) | simp)))))))
              (first | (go_at_call 48; refine (rminus_any _ _ _ _ _ ox1.1 ox1.2 ox0.1 ox0.2).mono ?_; rintro e w1 ⟨rfl, hb1⟩; have hz1 : wr.heap.size ≤ w1.heap.size := (by have := hb1.size; simp at this; omega); obtain ⟨hc1, hf1⟩ := bcell hb1))
            all_goals go_wp2
            all_goals go_meet
            · exact ⟨_, rfl, hz1, BoxAt.new _ _ _, by (repeat (first | (with_reducible exact hb1) | (with_reducible exact Below.refl _ _) | ((with_reducible refine bset ?_ ?_ _); (first | exact Nat.le_refl _ | omega | (simp; omega) | simp)) | ((with_reducible refine balloc ?_ ?_ _); (first | exact Nat.le_refl _ | omega | (simp; omega) | simp)) | (with_reducible refine Below.drew ?_) | refine Below.trans ?_ (hb1.mono (by first | omega | (simp; omega) | simp))))⟩
            · refine ⟨_, rfl, Nat.le_refl _, ?_, by (repeat (first | (with_reducible exact hb1) | (with_reducible exact Below.refl _ _) | ((with_reducible refine bset ?_ ?_ _); (first | exact Nat.le_refl _ | omega | (simp; omega) | simp)) | ((with_reducible refine balloc ?_ ?_ _); (first | exact Nat.le_refl _ | omega | (simp; omega) | simp)) | (with_reducible refine Below.drew ?_) | refine Below.trans ?_ (hb1.mono (by first | omega | (simp; omega) | simp))))⟩
              have h0 : BoxAt w1 wr.heap.size 43 #[.int .i64 0, .int .i64 0] := BoxAt.below (w := (wr.alloc (.cells #[.int .i64 0, .int .i64 0] 43)).drew) (BoxAt.new wr 43 _) hb1 (by simp)
              exact (h0.set 0 _).set 1 _
          case rest =>
            obtain ⟨wd, rfl⟩ : ∃ x : World, x = wc := ⟨_, rfl⟩
            obtain ⟨g, rfl, hg, hbox, hbw⟩ := hcut
            obtain ⟨p, hp'⟩ : ∃ p, p = c.wx k := ⟨_, rfl⟩
            obtain ⟨q, hq'⟩ : ∃ q, q = c.wy k := ⟨_, rfl⟩
            obtain ⟨d, hd'⟩ : ∃ d, d = c.d2 k := ⟨_, rfl⟩
            obtain ⟨L, hL'⟩ : ∃ L, L = c.len k := ⟨_, rfl⟩
            have owx : okd p := by rw [hp']; exact Crv.okd_wx hok (i := k) (by omega)
            have owy : okd q := by rw [hq']; exact Crv.okd_wy hok (i := k) (by omega)
            have d0 : 0 ≤ d := by rw [hd']; exact Crv.d2_nonneg (c := c) k
            have d1 : d ≤ 4503599627370496 := by have := Crv.d2_le hok (i := k) (by omega); omega
            have HD : Hid (p * p + q * q = d) := by show _ = _; rw [hp', hq', hd']; rfl
            have HL : Hid (isqI d = L) := by show _ = _; rw [hd', hL']; rfl
            have l0 : 0 ≤ L := by rw [hL']; exact Crv.len_nonneg (c := c) k
            have l1 : L < 67108864 := by rw [hL']; exact Crv.len_lt hok (i := k) (by omega)
            obtain ⟨q1, q2⟩ := sq_le (x := L) l0 (by omega)
            rw [← hp', ← hq'] at hbox
            have FO : Hid (L * L ≠ d → c.ferr k = 3) := by show _ → _; rw [hL', hd']; exact ferr_form
            have FR : Hid (L * L = d → (L < 1000 ∨ 1048576 < L) → c.ferr k = 2) := by show _ → _; rw [hL', hd']; exact ferr_range
            have FE : Hid (L * L = d → ¬ (L < 1000 ∨ 1048576 < L) → c.ferr k = if 0 < k ∧ c.turn k ≤ 0 then 12 else 0) := by show _ → _; rw [hL', hd']; exact ferr_rest
            have HP := Lib.hid hp'
            have HQ := Lib.hid hq'
            clear hp' hq' hd' hL'
            have g0 : wd.cell? ⟨g, 0, none⟩ = some (.int .i64 p) := hbox.cell 0
            have g1 : wd.cell? ⟨g, 1, none⟩ = some (.int .i64 q) := hbox.cell 1
            have hBBd := box_step hBB hbw
            have hBd := below_step hB hbw
            have lg := hbox.lt
            have lz := hBBd.lt
            have hBx2 : wd.cell? ⟨w.heap.size, 0, none⟩ = some (.slice (some ⟨b, off, none⟩) c.n cap) := hBBd.cell 0
            clear hx0 hy0 hx1 hy1 hBx
            have hBy : Below wd.heap.size wd wd := Below.refl _ _
            by_cases e1 : L * L = d
            · have E1 := Lib.hid e1
              have e1b : (L * L == d) = true := by simp [e1]
              have e1n : (L * L != d) = false := by simp [e1]
              clear e1
              by_cases f1 : L < 1000
              · have hz : Hid (firstE c.ferr (c.n - 1) = 2) := (firstE_at hlt2 (fun j hj => hF.out j hj) (by rw [FR.out E1.out (.inl f1)]; decide)).trans (FR.out E1.out (.inl f1))
                go_wp2_with (first
                  | (go_at_call 65; (with_reducible refine (rdot_n p q p q d _ owx owy owx owy HD.out).mono ?_); rintro e w2 ⟨rfl, hb2⟩; replace hBy := below_step hBy hb2; obtain ⟨g0, g1, hBx2⟩ := cells_now hbox hBBd hBy)
                  | (go_at_call 64; (with_reducible refine (root_n d L _ d0 d1 HL).mono ?_); rintro e w3 ⟨rfl, rfl⟩))
                go_ret
                exact ⟨congrArg (fun z => Ending.returned (.int .i64 z)) hz.out.symm, below_step hBd hBy⟩
              by_cases f2 : 1048576 < L
              · have hz : Hid (firstE c.ferr (c.n - 1) = 2) := (firstE_at hlt2 (fun j hj => hF.out j hj) (by rw [FR.out E1.out (.inr f2)]; decide)).trans (FR.out E1.out (.inr f2))
                have f1d : decide (L < 1000) = false := decide_eq_false f1
                have f2d : decide (1048576 < L) = true := decide_eq_true f2
                go_wp2_with (first
                  | (go_at_call 65; (with_reducible refine (rdot_n p q p q d _ owx owy owx owy HD.out).mono ?_); rintro e w2 ⟨rfl, hb2⟩; replace hBy := below_step hBy hb2; obtain ⟨g0, g1, hBx2⟩ := cells_now hbox hBBd hBy)
                  | (go_at_call 64; (with_reducible refine (root_n d L _ d0 d1 HL).mono ?_); rintro e w3 ⟨rfl, rfl⟩))
                go_ret
                exact ⟨congrArg (fun z => Ending.returned (.int .i64 z)) hz.out.symm, below_step hBd hBy⟩
              · have f1d : decide (L < 1000) = false := decide_eq_false f1
                have f2d : decide (1048576 < L) = false := decide_eq_false f2
                have HFE := Lib.hid (FE.out E1.out (by omega : ¬ (L < 1000 ∨ 1048576 < L)))
                obtain ⟨t, ht⟩ : ∃ t : Bool, t = decide (0 < k ∧ c.turn k ≤ 0) := ⟨_, rfl⟩
                have HT := Lib.hid ht
                clear ht
                go_upto_region 19 with (first
                  | (go_at_call 65; (with_reducible refine (rdot_n p q p q d _ owx owy owx owy HD.out).mono ?_); rintro e w2 ⟨rfl, hb2⟩; replace hBy := below_step hBy hb2; obtain ⟨g0, g1, hBx2⟩ := cells_now hbox hBBd hBy)
                  | (go_at_call 64; (with_reducible refine (root_n d L _ d0 d1 HL).mono ?_); rintro e w3 ⟨rfl, rfl⟩))
                obtain ⟨we, hwe⟩ : ∃ x : World, x = w2 := ⟨_, rfl⟩
                subst hwe
                have zg := (box_step hbox hBy).lt
                have zs := (box_step hBBd hBy).lt
                have hBe := below_step hBd hBy
                have hBBe := box_step hBBd hBy
                go_cut [84] from 66 to 83 (fun v w' => v = .bool t ∧ Below we.heap.size we w')
                case first =>
                  replace hBx2 : we.cell? ⟨w.heap.size, 0, none⟩ = some (.slice (some ⟨b, off, none⟩) c.n cap) := hBBe.cell 0
                  have lb2 : b < we.heap.size := by have := hBe.size; omega
                  have e0 : we.cell? ⟨g, 0, none⟩ = some (.int .i64 p) := (box_step hbox hBy).cell 0
                  have e1' : we.cell? ⟨g, 1, none⟩ = some (.int .i64 q) := (box_step hbox hBy).cell 1
                  by_cases z : 0 < k
                  · obtain ⟨hx0, hy0⟩ := (hp.below hBe hb) k (by omega)
                    obtain ⟨hx1, hy1⟩ := (hp.below hBe hb) (k - 1) (by omega)
                    have ox2 := hok (k - 1) (by omega)
                    have zi : 0 < (k : Int) := by omega
                    have zd : decide (0 < (k : Int)) = true := decide_eq_true zi
                    have j2 : (0 : Int) ≤ (k : Int) - 1 := by omega
                    have j3 : (k : Int) - 1 < (c.n : Int) := by omega
                    have j4 : IntKind.i64.wrap ((k : Int) - 1) = (k : Int) - 1 := IntWalk.i64_in _ (by omega)
                    have j5 : ((k : Int) - 1).toNat = k - 1 := by omega
                    have j6 : (1 : Int) ≤ (k : Int) := by omega
                    have j7 : (k : Int) ≤ (c.n : Int) := by omega
                    have j8 : k ≤ c.n := by omega
                    have j9 : 1 ≤ k := z
                    have j10 : k - 1 < c.n := by omega
                    obtain ⟨T, hT⟩ : ∃ T, T = c.turn k := ⟨_, rfl⟩
                    have HTn : Hid (p * (c.X k - c.X (k - 1)) + q * (c.Y k - c.Y (k - 1)) = T) := by
                      show _ = _
                      rw [hT, HP.out, HQ.out]
                      have hw : c.wx (k - 1) = c.X k - c.X (k - 1) := by unfold Crv.wx; rw [Nat.sub_add_cancel z]
                      have hw2 : c.wy (k - 1) = c.Y k - c.Y (k - 1) := by unfold Crv.wy; rw [Nat.sub_add_cancel z]
                      unfold Crv.turn; rw [hw, hw2, Int.mul_comm (c.wx k), Int.mul_comm (c.wy k)]
                    have HTt : Hid (t = decide (T ≤ 0)) := by show _ = _; rw [HT.out, hT]; simp [z]
                    clear hT
                    have hBx : Below we.heap.size we we.drew := (Below.refl _ _).drew
                    go_region_held3 (fun w' => w'.cell? ⟨w.heap.size, 0, none⟩ = some (.slice (some ⟨b, off, none⟩) c.n cap) ∧ w'.cell? ⟨b, off + k * 2, none⟩ = some (.int .i64 (c.X k)) ∧ w'.cell? ⟨b, off + k * 2 + 1, none⟩ = some (.int .i64 (c.Y k)) ∧
                        w'.cell? ⟨b, off + (k - 1) * 2, none⟩ = some (.int .i64 (c.X (k - 1))) ∧ w'.cell? ⟨b, off + (k - 1) * 2 + 1, none⟩ = some (.int .i64 (c.Y (k - 1))) ∧ w'.cell? ⟨g, 0, none⟩ = some (.int .i64 p) ∧ w'.cell? ⟨g, 1, none⟩ = some (.int .i64 q))
                      (refine ⟨?_, ?_, ?_, ?_, ?_, ?_, ?_⟩ <;> exact (Below.cell hBx (by assumption)).trans (by assumption))
                      (first
                        | (go_at_call 48; (with_reducible refine (rminus_any (c.X k) (c.Y k) (c.X (k - 1)) (c.Y (k - 1)) _ ox0.1 ox0.2 ox2.1 ox2.2).mono ?_); rintro e w5 ⟨rfl, hb5⟩; replace hBx := below_step hBx hb5)
                        | (go_at_call 65; (with_reducible refine (rdot_n p q (c.X k - c.X (k - 1)) (c.Y k - c.Y (k - 1)) T _ owx owy (okd_sub ox0.1 ox2.1) (okd_sub ox0.2 ox2.2) HTn.out).mono ?_); rintro e w5 ⟨rfl, hb5⟩; replace hBx := below_step hBx hb5))
                    all_goals go_wp2
                    all_goals go_meet
                    all_goals exact ⟨congrArg Value.bool HTt.out.symm, hBx⟩
                  · have zd : decide (0 < (k : Int)) = false := decide_eq_false (by omega)
                    have HTt : Hid (t = false) := by show _ = _; rw [HT.out]; simp [z]
                    go_quiet (fail)
                    go_wp2
                    go_meet
                    exact ⟨congrArg Value.bool HTt.out.symm, below_drewN (Below.refl _ _) _⟩
                case rest =>
                  obtain ⟨rfl, hBf⟩ := hcut
                  cases t with
                  | true =>
                    have hc : 0 < k ∧ c.turn k ≤ 0 := by simpa using HT.out.symm
                    have hf : c.ferr k = 12 := by rw [HFE.out, if_pos hc]
                    have hz : Hid (firstE c.ferr (c.n - 1) = 12) := (firstE_at hlt2 (fun j hj => hF.out j hj) (by rw [hf]; decide)).trans hf
                    clear hc hf
                    go_wp2
                    go_ret
                    exact ⟨congrArg (fun z => Ending.returned (.int .i64 z)) hz.out.symm, below_step hBe hBf⟩
                  | false =>
                    have hc : ¬ (0 < k ∧ c.turn k ≤ 0) := by have := HT.out; simpa using this
                    have hf : Hid (c.ferr k = 0) := by show _ = _; rw [HFE.out, if_neg hc]
                    clear hc
                    go_wp2
                    go_roundw
                    case rel =>
                      refine ⟨k + 1, by omega, by go_num, ?_, below_step hBe hBf, box_step hBBe hBf⟩
                      intro j hj
                      rcases Nat.lt_or_ge j k with h | h
                      · exact hF.out j h
                      · obtain rfl : j = k := by omega
                        exact hf.out
                    case measure => simp [intOf]; omega
            · have hz : Hid (firstE c.ferr (c.n - 1) = 3) := (firstE_at hlt2 (fun j hj => hF.out j hj) (by rw [FO.out e1]; decide)).trans (FO.out e1)
              have e1b : (L * L == d) = false := by simp [e1]
              go_wp2_with (first
                  | (go_at_call 65; (with_reducible refine (rdot_n p q p q d _ owx owy owx owy HD.out).mono ?_); rintro e w2 ⟨rfl, hb2⟩; replace hBy := below_step hBy hb2; obtain ⟨g0, g1, hBx2⟩ := cells_now hbox hBBd hBy)
                  | (go_at_call 64; (with_reducible refine (root_n d L _ d0 d1 HL).mono ?_); rintro e w3 ⟨rfl, rfl⟩))
              go_ret
              exact ⟨congrArg (fun z => Ending.returned (.int .i64 z)) hz.out.symm, below_step hBd hBy⟩
        · have hz : Hid (firstE c.ferr (c.n - 1) = 0) := firstE_zero (fun j hj => hF.out j (by omega))
          have i3 : ¬ (k : Int) + 1 < (c.n : Int) := by omega
          go_wp2
          go_ret
          exact ⟨congrArg (fun z => Ending.returned (.int .i64 z)) hz.out.symm, hB⟩
end Go.Proofs.Ytglkpabcflecmaa
