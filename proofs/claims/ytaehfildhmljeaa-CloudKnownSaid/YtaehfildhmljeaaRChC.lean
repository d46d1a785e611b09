/- The reference's Check of a cloud. -/
import Derived.Test.YtaehfildhmljeaaChkC
import Derived.Test.YtaehfildhmljeaaRef1
namespace Go.Proofs.Ytaehfildhmljeaa
open Go.RowKit Go.Shelf

theorem rspot_any (x y v : Int) (w : World) : Calls Try.prog 63 #[.agg #[.int .i64 x, .int .i64 y, .int .i64 v]] w fun e w' => e = .returned (sp x y) ∧ Below w.heap.size w w' := by
  go_enter Try.func63, Try.ntmps63
  go_wp2
  exact bodyPost_ret (v := sp x y) (by simp [results, Try.results63, go_sem]) rfl ⟨rfl, by
    repeat (first | exact Below.refl _ _ | refine Below.setCell ?_ (by first | omega | (simp; omega) | simp) _ | refine Below.alloc ?_ (by first | omega | (simp; omega) | simp) _)⟩

set_option maxRecDepth 100000 in
set_option maxHeartbeats 8000000 in
theorem rcheck_any (A : Option Addr) (n cap : Nat) (X Y V : Nat → Int) (w : World) (hcl : Cloud w A n X Y V) :
    Calls Try.prog 23 #[.slice A n cap] w fun e w' => e = .returned (.int .i64 (chkF n X Y V)) ∧ Below w.heap.size w w' := by
  have n0 : (0 : Int) ≤ (n : Int) := Int.natCast_nonneg _
  by_cases hbig : 1000 < n
  · have h1 : (1000 : Int) < (n : Int) := by omega
    have HE : Hid (chkF n X Y V = 8) := Lib.hid (by unfold chkF; rw [if_pos hbig])
    clear hcl
    go_enter Try.func23, Try.ntmps23
    go_wp2
    go_ret
    exact ⟨by rw [HE.out]; rfl, Below.refl _ _⟩
  · have h1 : ¬ (1000 : Int) < (n : Int) := by omega
    have HCL := Lib.hid hcl
    clear hcl
    go_enter Try.func23, Try.ntmps23
    go_wp2
    go_loopw [3] (fun i wr => ∃ k : Nat, k ≤ n ∧ i = .int .i64 k ∧ Hid (allB (okP X Y V) k = true) ∧ Hid (Below w.heap.size w wr)) (fun i _ => n - (intOf i).toNat)
    case atStart => exact ⟨0, Nat.zero_le _, rfl, Lib.hid rfl, Lib.hid (Below.refl _ _)⟩
    case round =>
      obtain ⟨k, hk, rfl, HT, HB⟩ := hrel
      by_cases hlt : k < n
      · obtain ⟨b, off, e, hc0⟩ := HCL.out (by omega)
        subst e
        have i0 : (0 : Int) ≤ (k : Int) := Int.natCast_nonneg _
        have i1 : (k : Int) < (n : Int) := by omega
        have hbl := hc0.lt (by omega)
        have l1 : b < wr.heap.size := Nat.lt_of_lt_of_le hbl HB.out.size
        have hcr := Lib.hid (hc0.below HB.out hbl)
        obtain ⟨c0, c1, c2⟩ := hcr.out k hlt
        obtain ⟨z, hz⟩ : ∃ z, z = vldB (X k) (Y k) := ⟨_, rfl⟩
        have HZ : Hid (vldB (X k) (Y k) = z) := Lib.hid hz.symm
        have HZ2 : Hid (vp (X k, Y k) = z) := Lib.hid hz.symm
        clear hz hc0
        obtain ⟨v, hv⟩ : ∃ v, v = V k := ⟨_, rfl⟩
        have HV := Lib.hid hv
        rw [← hv] at c2
        have HC2 := Lib.hid (fun (W : World) (h : Below wr.heap.size wr W) => (show W.cell? ⟨b, off + k * 3 + 2, none⟩ = some (.int .i64 v) from ((hcr.out.below h l1) k hlt).2.2.trans (by rw [hv])))
        clear hv
        have HO : Hid (okP X Y V k = (z && (decide (-4000 ≤ v) && decide (v ≤ 4000)))) := Lib.hid (by unfold okP; rw [HZ.out, HV.out])
        have hBx := Below.refl wr.heap.size wr
        by_cases hok : z = true ∧ -4000 ≤ v ∧ v ≤ 4000
        · obtain ⟨rfl, v1, v2⟩ := hok
          have HT2 : Hid (allB (okP X Y V) (k + 1) = true) := Lib.hid (by unfold allB; rw [HT.out, HO.out]; simp [v1, v2])
          have y1 : ¬ v < -4000 := by omega
          have y2 : ¬ 4000 < v := by omega
          clear v1 v2
          go_wp2_with (first
            | (go_at_call 63; (with_reducible refine (rspot_any _ _ _ _).mono ?_); rintro e wa ⟨rfl, hba⟩; replace hBx := below_step hBx hba)
            | (go_at_call 62; (with_reducible refine (rvalid_any _ _ true _ HZ2).mono ?_); rintro e wb ⟨rfl, hbb⟩; replace hBx := below_step hBx hbb; have q2 := HC2.out wb hBx; have q3 := hBx.size))
          go_roundw
          case rel => exact ⟨k + 1, by omega, by go_num, HT2, Lib.hid (below_step HB.out hBx)⟩
          case measure => simp [intOf]; omega
        · have HF : Hid (chkF n X Y V = 2) := Lib.hid (by
            have hf : okP X Y V k = false := by
              rw [HO.out]
              cases z with
              | false => rfl
              | true =>
                by_cases a1 : -4000 ≤ v
                · have a2 : ¬ v ≤ 4000 := fun h => hok ⟨rfl, a1, h⟩
                  simp [a2]
                · simp [a1]
            unfold chkF
            rw [if_neg hbig, allB_false hlt hf, if_neg (by simp)])
          cases z with
          | false =>
            clear hok
            go_wp2_with (first
              | (go_at_call 63; (with_reducible refine (rspot_any _ _ _ _).mono ?_); rintro e wa ⟨rfl, hba⟩; replace hBx := below_step hBx hba)
              | (go_at_call 62; (with_reducible refine (rvalid_any _ _ false _ HZ2).mono ?_); rintro e wb ⟨rfl, hbb⟩; replace hBx := below_step hBx hbb))
            go_ret
            exact ⟨by rw [HF.out]; rfl, below_step HB.out hBx⟩
          | true =>
            by_cases y1 : v < -4000
            · clear hok
              go_wp2_with (first
                | (go_at_call 63; (with_reducible refine (rspot_any _ _ _ _).mono ?_); rintro e wa ⟨rfl, hba⟩; replace hBx := below_step hBx hba)
                | (go_at_call 62; (with_reducible refine (rvalid_any _ _ true _ HZ2).mono ?_); rintro e wb ⟨rfl, hbb⟩; replace hBx := below_step hBx hbb; have q2 := HC2.out wb hBx; have q3 := hBx.size))
              go_ret
              exact ⟨by rw [HF.out]; rfl, below_step HB.out hBx⟩
            · have y2 : 4000 < v := by
                rcases Int.lt_or_le 4000 v with h | h
                · exact h
                · exact absurd ⟨rfl, by omega, h⟩ hok
              clear hok
              go_wp2_with (first
                | (go_at_call 63; (with_reducible refine (rspot_any _ _ _ _).mono ?_); rintro e wa ⟨rfl, hba⟩; replace hBx := below_step hBx hba)
                | (go_at_call 62; (with_reducible refine (rvalid_any _ _ true _ HZ2).mono ?_); rintro e wb ⟨rfl, hbb⟩; replace hBx := below_step hBx hbb; have q2 := HC2.out wb hBx; have q3 := hBx.size))
              go_ret
              exact ⟨by rw [HF.out]; rfl, below_step HB.out hBx⟩
      · obtain rfl : k = n := by omega
        have i1 : ¬ (k : Int) < (k : Int) := by omega
        have HF : Hid (chkF k X Y V = 0) := Lib.hid (by unfold chkF; rw [if_neg hbig, if_pos HT.out])
        go_wp2
        go_ret
        exact ⟨by rw [HF.out]; rfl, HB.out⟩
end Go.Proofs.Ytaehfildhmljeaa
