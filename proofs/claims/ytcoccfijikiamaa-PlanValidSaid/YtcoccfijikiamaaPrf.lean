/- Profile. -/
import Derived.Test.YtcoccfijikiamaaStops
import Derived.Test.YtcoccfijikiamaaRws
namespace Go.Proofs.Ytcoccfijikiamaa
open Go.RowKit Go.Shelf

set_option maxRecDepth 100000 in
set_option maxHeartbeats 4000000 in
theorem profile_any (c : Car) (hc : c.ok) (Aq : Option Addr) (cq : Nat) (q : List Int) (last v up hold : Int) (w : World) (hq : NumL w Aq q) (hqc : q.length ≤ cq) (hqm : q.length ≤ 1000000) (hqi : ∀ x ∈ q, I64 x) (hv : I64 v) :
    Calls Try.prog 28 #[cv c, .slice Aq q.length cq, iv last, iv v, iv up, iv hold] w fun e w' => ∃ n A N cap, IsStop c (lst last (prf c q last (clp up 0 20).toNat (clp hold 0 20).toNat)) (clp (vel v (prf c q last (clp up 0 20).toNat (clp hold 0 20).toNat)) 0 2000) n ∧
      N = (prf c q last (clp up 0 20).toNat (clp hold 0 20).toNat ++ rmps c (-c.brk) n (lst last (prf c q last (clp up 0 20).toNat (clp hold 0 20).toNat))).length ∧ e = .returned (.agg #[.slice A N cap]) ∧ N ≤ cap ∧
      RowB w' (.slice A N cap) (prf c q last (clp up 0 20).toNat (clp hold 0 20).toNat ++ rmps c (-c.brk) n (lst last (prf c q last (clp up 0 20).toNat (clp hold 0 20).toNat))) ∧ Below w.heap.size w w' := by
  obtain ⟨U, hU⟩ : ∃ U, U = (clp up 0 20).toNat := ⟨_, rfl⟩
  obtain ⟨V, hV⟩ : ∃ V, V = (clp hold 0 20).toNat := ⟨_, rfl⟩
  have hU2 : U ≤ 20 := by rw [hU]; unfold clp; omega
  have hV2 : V ≤ 20 := by rw [hV]; unfold clp; omega
  rw [← hU, ← hV]
  have HU := Lib.hid hU
  have HVv := Lib.hid hV
  have HC := Lib.hid (fun W => car_any c W)
  rw [carE_ok hc] at HC
  have HK := Lib.hid (fun W => crs_new c last v W)
  have HQ := Lib.hid hq
  have HQI := Lib.hid hqi
  have HOK := Lib.hid hc
  have HV := Lib.hid hv
  obtain ⟨Nq, hN⟩ : ∃ N, N = q.length := ⟨_, rfl⟩
  rw [← hN] at hqc hqm ⊢
  have HN := Lib.hid hN
  have hB : Below w.heap.size w ((w.alloc (.cells #[iv c.len, iv c.acc, iv c.brk, iv c.rate, iv c.del] 23)).alloc (.cells #[.slice none 0 0] 26)) := ((Below.refl _ w).alloc (Nat.le_refl _) _).alloc (by simp) _
  have HX := Lib.hid ((BoxAt.new w 23 #[iv c.len, iv c.acc, iv c.brk, iv c.rate, iv c.del]).alloc (.cells #[.slice none 0 0] 26))
  have HY := Lib.hid (BoxAt.new (w.alloc (.cells #[iv c.len, iv c.acc, iv c.brk, iv c.rate, iv c.del] 23)) 26 #[.slice none 0 0])
  clear hc hv hq hqi hN hU hV
  go_enter Try.func28, Try.ntmps28
  go_upto_region 4 with (first
    | (go_at_call 8; (with_reducible refine (HC.out _).mono ?_); rintro e w1 ⟨rfl, hb1⟩; have hb2 := below_step hB hb1; obtain ⟨_, c0, c1, c2, c3, c4, l0⟩ := boxC HX.out hb1; have HK1 := Lib.hid (HK.out w1); have hs1 := hb2.size))
  have HKg := Lib.hid (show Crs _ _ _ _ _ _ from HK1.out)
  have HXg : Hid (BoxAt (w1.alloc (.cells #[iv c.len, iv c.acc, iv c.brk, iv c.rate, iv c.del, .slice none 0 0, iv last, iv v] 58)) w.heap.size 23 #[iv c.len, iv c.acc, iv c.brk, iv c.rate, iv c.del]) := Lib.hid ((HX.out.below hb1 HX.out.lt).alloc _)
  have HYg : Hid (BoxAt (w1.alloc (.cells #[iv c.len, iv c.acc, iv c.brk, iv c.rate, iv c.del, .slice none 0 0, iv last, iv v] 58)) (w.heap.size + 1) 26 #[.slice none 0 0]) := Lib.hid (by
    have h := (HY.out.below hb1 HY.out.lt).alloc (.cells #[iv c.len, iv c.acc, iv c.brk, iv c.rate, iv c.del, .slice none 0 0, iv last, iv v] 58)
    rw [World.size_alloc] at h
    exact h)
  have hs2 : w.heap.size + 2 ≤ w1.heap.size := by have := hb1.size; simp at this; omega
  have HBg : Hid (Below w.heap.size w (w1.alloc (.cells #[iv c.len, iv c.acc, iv c.brk, iv c.rate, iv c.del, .slice none 0 0, iv last, iv v] 58))) := Lib.hid (hb2.alloc hs1 _)
  clear hb1 hb2 c0 c1 c2 c3 c4 l0 hs1 HK1 HK HX HY hB
  generalize w1.alloc (.cells #[iv c.len, iv c.acc, iv c.brk, iv c.rate, iv c.del, .slice none 0 0, iv last, iv v] 58) = wg at *
  generalize w1.heap.size = g at *
  obtain ⟨M, hM⟩ : ∃ M, M = min Nq 5 := ⟨_, rfl⟩
  go_cut [29, 30, 31] from 25 to 31 (fun s n i w' => s = .slice Aq M cq ∧ n = iv M ∧ i = iv 0 ∧ w' = wg)
  case first =>
    go_wp2
    all_goals go_meet
    all_goals first
      | (obtain rfl : M = Nq := by omega
         exact ⟨rfl, by simp <;> decide, rfl, rfl⟩)
      | (obtain rfl : M = 5 := by omega
         exact ⟨rfl, by simp <;> decide, rfl, rfl⟩)
  case rest =>
    obtain ⟨rfl, rfl, rfl, hw⟩ := hcut
    subst hw
    have hM1 : M ≤ 5 := by omega
    have HM : Hid (q.take M = q.take 5) := Lib.hid (by
      rw [hM, HN.out]
      rcases Nat.lt_or_ge q.length 5 with h | h
      · rw [List.take_of_length_le (by omega), List.take_of_length_le (by omega)]
      · rw [Nat.min_eq_right h])
    have HMq : Hid (M ≤ q.length) := Lib.hid (by rw [← HN.out]; omega)
    have HQ0 := Lib.hid (HQ.out.below HBg.out)
    clear hM
    go_wp2
    go_loopw [15, 31] (fun _ i wr => ∃ k : Nat, k ≤ M ∧ i = iv k ∧ Hid (Crs wr g c (q.take k) (lst last (q.take k)) (vel v (q.take k))) ∧ Hid (Below g wc wr)) (fun _ i _ => M - (intOf i).toNat)
    case atStart => exact ⟨0, Nat.zero_le _, rfl, HKg, Lib.hid (Below.refl _ _)⟩
    case round =>
      obtain ⟨k, hk, rfl, HK, HB⟩ := hrel
      have i0 : (0 : Int) ≤ (k : Int) := Int.natCast_nonneg _
      by_cases hlt : k < M
      · have i1 : (k : Int) < (M : Int) := by omega
        obtain ⟨x, hx, _⟩ := drop_at (L := q) (k := k) (by have := HMq.out; omega)
        have HBk : Hid (Below w.heap.size w wr) := Lib.hid (HBg.out.trans (HB.out.mono (by omega)))
        obtain ⟨b, off, rfl, c0⟩ := (HQ.out.below HBk.out).at hx
        have l0 := World.block_lt_of_cell? wr _ c0
        have HT : Hid (q.take (k + 1) = q.take k ++ [x]) := Lib.hid (by rw [List.take_add_one, hx]; rfl)
        have HD := Lib.hid (fun W (hW : Crs W g c (q.take k) (lst last (q.take k)) (vel v (q.take k))) => do_any g c (q.take k) _ _ x W hW (by rw [List.length_take]; omega) (vel_i64 HV.out _) (HQI.out x (List.mem_of_getElem? hx)))
        clear hx
        go_wp2_with (go_at_call 38; (with_reducible refine (HD.out _ HK.out).mono ?_); rintro e w2 ⟨rfl, hk2, hb2⟩)
        refine ⟨⟨k + 1, by omega, by go_num, Lib.hid ?_, Lib.hid (HB.out.trans hb2)⟩, by simp [intOf]; omega⟩
        rw [HT.out, lst_append, vel_append]
        exact hk2
      · obtain rfl : k = M := by omega
        have i1 : ¬ (k : Int) < (k : Int) := by omega
        rw [HM.out] at HK
        have hxr := HXg.out.below HB.out (by omega)
        have c1 : wr.cell? ⟨w.heap.size, 1, none⟩ = some (iv c.acc) := hxr.cell 1
        have l1 := hxr.lt
        have HYr := Lib.hid (HYg.out.below HB.out (by omega))
        have hl5 : (q.take 5).length ≤ 5 := by rw [List.length_take]; omega
        have HP : Hid (prf c q last U V = (q.take 5 ++ rmps c c.acc U (lst last (q.take 5))) ++ rmps c 0 V (lst (lst last (q.take 5)) (rmps c c.acc U (lst last (q.take 5)))) ∧
            lst last (prf c q last U V) = lst (lst (lst last (q.take 5)) (rmps c c.acc U (lst last (q.take 5)))) (rmps c 0 V (lst (lst last (q.take 5)) (rmps c c.acc U (lst last (q.take 5))))) ∧
            vel v (prf c q last U V) = vel (vel (vel v (q.take 5)) (rmps c c.acc U (lst last (q.take 5)))) (rmps c 0 V (lst (lst last (q.take 5)) (rmps c c.acc U (lst last (q.take 5)))))) := Lib.hid (by
          unfold prf
          rw [lst_app2, lst_app2, lst_app2, vel_app2, vel_app2]
          exact ⟨rfl, rfl, rfl⟩)
        generalize q.take 5 = q5 at *
        generalize hPe : prf c q last U V = P at *
        have HPe := Lib.hid hPe
        clear hPe
        have HH1 := Lib.hid (fun W (hW : Crs W g c q5 (lst last q5) (vel v q5)) => cramp_any g c HOK.out q5 _ _ c.acc up W hW (by omega) (vel_i64 HV.out _))
        rw [← HU.out] at HH1
        have hL1 := rmps_len c c.acc U (lst last q5)
        have hv1 := vel_i64 HV.out q5
        generalize lst last q5 = a0 at *
        generalize vel v q5 = v0 at *
        generalize rmps c c.acc U a0 = r1 at *
        have HH2 := Lib.hid (fun W (hW : Crs W g c (q5 ++ r1) (lst a0 r1) (vel v0 r1)) => cramp_any g c HOK.out _ _ _ 0 hold W hW (by rw [List.length_append, hL1]; omega) (vel_i64 hv1 _))
        rw [← HVv.out] at HH2
        have hL2 := rmps_len c 0 V (lst a0 r1)
        have hv2 := vel_i64 hv1 r1
        generalize lst a0 r1 = a1 at *
        generalize vel v0 r1 = v1 at *
        generalize rmps c 0 V a1 = r2 at *
        have HH3 := Lib.hid (fun W (hW : Crs W g c (q5 ++ r1 ++ r2) (lst a1 r2) (vel v1 r2)) => stop_any g c HOK.out _ _ _ W hW (by rw [List.length_append, List.length_append, hL1, hL2]; omega) (vel_i64 hv2 _))
        rw [← HP.out.1, ← HP.out.2.1, ← HP.out.2.2] at HH3
        have HH2' : Hid (∀ W, Crs W g c (q5 ++ r1) a1 v1 → Calls Try.prog 39 #[.pointer (some ⟨g, 0, none⟩), iv 0, iv hold] W fun e w' => e = .returned (.tuple #[]) ∧ Crs w' g c P (lst last P) (vel v P) ∧ Below g W w') := Lib.hid (fun W hW => by
          have h := HH2.out W hW
          rw [← HP.out.1, ← HP.out.2.1, ← HP.out.2.2] at h
          exact h)
        generalize ha2 : lst last P = a2 at *
        generalize hv2e : vel v P = v2 at *
        have HA2 := Lib.hid ha2
        have HV2 := Lib.hid hv2e
        clear ha2 hv2e
        clear hL1 hL2 hv1 hv2 HH2 HP
        have HY0 := Lib.hid HYr.out
        have HB0 : Hid (Below w.heap.size w wr) := Lib.hid (HBg.out.trans (HB.out.mono (by omega)))
        clear hxr
        go_wp2_with (first
          | (go_at_call 39; (with_reducible refine (HH1.out _ HK.out).mono ?_); rintro e w3 ⟨rfl, hk3, hb3⟩)
          | (go_at_call 39; (with_reducible refine (HH2'.out _ hk3).mono ?_); rintro e w4 ⟨rfl, hk4, hb4⟩)
          | (go_at_call 35; (with_reducible refine (HH3.out _ hk4).mono ?_); rintro e w5 ⟨rfl, n, hn, hk5, hb5⟩; obtain ⟨sv, hx5, hr5⟩ := hk5.lies; obtain ⟨A, cap, hsv⟩ := own_form hr5; subst hsv; obtain ⟨N5, hN5⟩ : ∃ N5, N5 = (P ++ rmps c (-c.brk) n a2).length := ⟨_, rfl⟩; rw [← hN5] at hx5 hr5; have HN5 := Lib.hid hN5; clear hN5; have d5 := hx5.cell 5; have l2 := hx5.lt; have hby := hb3.trans (hb4.trans hb5); have hy5 := HY0.out.below hby (by omega); have e5 : w5.cell? ⟨w.heap.size + 1, 0, none⟩ = some (.slice none 0 0) := hy5.cell 0; have f5 := hy5.frozen 0; have l5 := hy5.lt))
        have hcell : (w5.setCell ⟨w.heap.size + 1, 0, none⟩ (.slice A N5 cap)).cell? ⟨w.heap.size + 1, 0, none⟩ = some (.slice A N5 cap) := (hy5.set 0 _).cell 0
        refine bodyPost_ret (v := .agg #[.slice A N5 cap]) (by simp [results, Try.results28, go_sem, hcell]) rfl ?_
        rw [HPe.out, HA2.out, HV2.out]
        exact ⟨n, A, N5, cap, hn, HN5.out, rfl, own_cap hr5, row_b (hr5.kept (grown_set _ _ _) (Or.inr (fun e2 => by have := (hr5.lt _ e2).1; omega))), ((HB0.out.trans (hby.mono (by omega))).setCell (p := ⟨w.heap.size + 1, 0, none⟩) (by simp) _)⟩
end Go.Proofs.Ytcoccfijikiamaa
