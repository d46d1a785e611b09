/- The course of a plan: ramp. -/
import Derived.Test.YtcoccfijikiamaaCrs
namespace Go.Proofs.Ytcoccfijikiamaa
open Go.RowKit Go.Shelf

theorem I64.of {x lo hi : Int} (h1 : lo ≤ x) (h2 : x ≤ hi) (h3 : -9223372036854775808 ≤ lo) (h4 : hi ≤ 9223372036854775807) : I64 x := ⟨by omega, by omega⟩
theorem rmp_i64 {c : Car} (h : c.ok) (a w : Int) : I64 (rmp c a w) := by
  obtain ⟨h1, h2⟩ := rmp_in h a w
  unfold Car.ok at h
  exact ⟨by omega, by omega⟩
theorem vel_i64 {v : Int} (hv : I64 v) : ∀ l : List Int, I64 (vel v l)
  | [] => hv
  | x :: l => vel_i64 (v := fst' v x) (by obtain ⟨h1, h2⟩ := fst_in v x; exact ⟨by omega, by omega⟩) l

set_option maxRecDepth 100000 in
set_option maxHeartbeats 4000000 in
theorem cramp_any (g : Nat) (c : Car) (hc : c.ok) (L : List Int) (a v wn times : Int) (w : World) (h : Crs w g c L a v) (hL : L.length ≤ 900000) (hv : I64 v) :
    Calls Try.prog 39 #[.pointer (some ⟨g, 0, none⟩), iv wn, iv times] w fun e w' => e = .returned (.tuple #[]) ∧ Crs w' g c (L ++ rmps c wn (clp times 0 20).toNat a) (lst a (rmps c wn (clp times 0 20).toNat a)) (vel v (rmps c wn (clp times 0 20).toNat a)) ∧ Below g w w' := by
  have HT := Lib.hid (fun W => clamp_int times 0 20 W)
  obtain ⟨T, hT, hT2⟩ : ∃ T : Nat, clp times 0 20 = (T : Int) ∧ T ≤ 20 := ⟨(clp times 0 20).toNat, by unfold clp; omega, by unfold clp; omega⟩
  rw [hT] at HT ⊢
  rw [Int.toNat_natCast]
  have H0 := Lib.hid h
  have HL := Lib.hid hL
  have HV := Lib.hid hv
  have HC := Lib.hid hc
  clear hT h hL hv hc
  go_enter Try.func39, Try.ntmps39
  go_wp2_with (go_at_call 31; (with_reducible refine (HT.out _).mono ?_); rintro e w1 ⟨rfl, hw⟩; obtain rfl := hw.symm)
  go_loopw [8] (fun i wr => ∃ k : Nat, k ≤ T ∧ i = iv k ∧ Hid (Crs wr g c (L ++ rmps c wn k a) (lst a (rmps c wn k a)) (vel v (rmps c wn k a))) ∧ Hid (Below g w wr)) (fun i _ => T - (intOf i).toNat)
  case atStart => exact ⟨0, Nat.zero_le _, rfl, Lib.hid (by simpa [rmps, lst, vel] using H0.out), Lib.hid (Below.refl _ _)⟩
  case round =>
    obtain ⟨k, hk, rfl, HK, HB⟩ := hrel
    have i0 : (0 : Int) ≤ (k : Int) := Int.natCast_nonneg _
    by_cases hlt : k < T
    · have i1 : (k : Int) < (T : Int) := by omega
      have HS : Hid (rmps c wn (k + 1) a = rmps c wn k a ++ [rmp c (lst a (rmps c wn k a)) wn]) := Lib.hid (rmps_succ c wn k a)
      have hln := rmps_len c wn k a
      have HVi := Lib.hid (vel_i64 HV.out (rmps c wn k a))
      have HRi := Lib.hid (rmp_i64 HC.out (lst a (rmps c wn k a)) wn)
      have HNx : Hid (L ++ rmps c wn (k + 1) a = (L ++ rmps c wn k a) ++ [rmp c (lst a (rmps c wn k a)) wn] ∧ lst a (rmps c wn (k + 1) a) = rmp c (lst a (rmps c wn k a)) wn ∧ vel v (rmps c wn (k + 1) a) = fst' (vel v (rmps c wn k a)) (rmp c (lst a (rmps c wn k a)) wn)) := Lib.hid (by
        rw [HS.out, ← List.append_assoc, lst_append, vel_append]; exact ⟨rfl, rfl, rfl⟩)
      have HLen : Hid ((L ++ rmps c wn k a).length ≤ 1000000) := Lib.hid (by rw [List.length_append, hln]; have := HL.out; omega)
      have HRm := Lib.hid (fun W => ramp_any c HC.out (lst a (rmps c wn k a)) wn W)
      clear hln HS
      generalize rmps c wn k a = M at *
      generalize lst a M = y at *
      generalize vel v M = u at *
      generalize L ++ M = LM at *
      generalize rmp c y wn = r at *
      have HDo := Lib.hid (fun W (hW : Crs W g c LM y u) => do_any g c LM y u r W hW HLen.out HVi.out HRi.out)
      obtain ⟨sv, hb, hr⟩ := HK.out.lies
      have c0 : wr.cell? ⟨g, 0, none⟩ = some (iv c.len) := hb.cell 0
      have c1 : wr.cell? ⟨g, 1, none⟩ = some (iv c.acc) := hb.cell 1
      have c2 : wr.cell? ⟨g, 2, none⟩ = some (iv c.brk) := hb.cell 2
      have c3 : wr.cell? ⟨g, 3, none⟩ = some (iv c.rate) := hb.cell 3
      have c4 : wr.cell? ⟨g, 4, none⟩ = some (iv c.del) := hb.cell 4
      have c6 : wr.cell? ⟨g, 6, none⟩ = some (iv y) := hb.cell 6
      have l0 := hb.lt
      have HKd : Hid (Crs wr.drew g c LM y u) := Lib.hid ⟨sv, hb, hr⟩
      clear hb hr
      go_upto_region 2 with fail
      go_region_law (first
        | (go_simp; go_at_call 34; (with_reducible refine (HRm.out _).mono ?_); rintro e w1 ⟨rfl, hb1⟩; have hk1 := HKd.out.below hb1)
        | (go_simp; go_at_call 38; (with_reducible refine (HDo.out _ hk1).mono ?_); rintro e w2 ⟨rfl, hk2, hb2⟩))
      all_goals
        have HB2 : Hid (Below g w w2) := Lib.hid ((HB.out.drew.trans (hb1.mono (show g ≤ wr.drew.heap.size from Nat.le_of_lt l0))).trans hb2)
        have HK2 : Hid (Crs w2 g c (L ++ rmps c wn (k + 1) a) (lst a (rmps c wn (k + 1) a)) (vel v (rmps c wn (k + 1) a))) := Lib.hid (by
          obtain ⟨e1, e2, e3⟩ := HNx.out
          rw [e1, e2, e3]
          exact hk2)
        clear hk2 hb1 hb2 hk1
        go_wp2
        refine ⟨⟨k + 1, by omega, by go_num, HK2, HB2⟩, by simp [intOf]; omega⟩
    · obtain rfl : k = T := by omega
      have i1 : ¬ (k : Int) < (k : Int) := by omega
      go_wp2
      go_end0
      exact ⟨rfl, HK.out, HB.out⟩
end Go.Proofs.Ytcoccfijikiamaa
