/- The law RulesStays: its walk. -/
import Derived.Test.YtnpnfdnaglcnfaaDoorStyM
import Derived.Test.YtnpnfdnaglcnfaaDoorAwk
namespace Go.Proofs.YtnpnfdnaglcnfaaDoor
open Go.RowKit Go.Shelf

set_option maxRecDepth 100000 in
set_option maxHeartbeats 8000000 in
theorem stays_walk (A : Option Addr) (cap : Nat) (l : List Int) (A2 : Option Addr) (cap2 : Nat) (l2 : List Int) (w : World) (hE : Env w) (hl : l.length ≤ 9223372036854775807) (hA : NumL w A l) (hA2 : NumL w A2 l2) :
    Calls Tryd.prog 5 #[.slice A l.length cap, .slice A2 l2.length cap2] w fun e w' => e = .returned (.bool true) ∧ Below w.heap.size w w' := by
  have HR := Lib.hid (rule_any A cap l 3 4 w hl hA (by decide) (by decide) (by decide) (by decide))
  have HT := Lib.hid (fun W (h : Below w.heap.size w W) => trace_any2 A2 cap2 l2 3 40 W (hA2.below h) (by decide) (by decide) (by decide) (by decide))
  have HAw := Lib.hid (fun W (h : Below w.heap.size w W) => awake_any W (hE.below h))
  generalize l.length = N1 at *
  generalize l2.length = N2 at *
  clear hE hA hA2 hl
  go_enter Tryd.func5, Tryd.ntmps5
  go_upto_region 2 with (first
    | (go_at_call 27; (with_reducible refine HR.out.mono ?_); rintro e w1 ⟨x, Af, cf, hx, rfl, hnd, hb1⟩)
    | (go_at_call 28; (with_reducible refine (HT.out _ hb1).mono ?_); rintro e w2 ⟨t, C, c, ht, rfl, hc, hrw, hb2⟩))
  obtain ⟨x1, x2, x3, x4⟩ := hx
  have x5 : x.hor ≤ 12 := by omega
  have x6 := hor_nn x x2 x1
  have HND := Lib.hid (hnd.below hb2)
  have HRW := Lib.hid hrw
  have HB2 := Lib.hid (below_step hb1 hb2)
  have HH : Hid (∀ W, NdsL W Af x.flat → Calls Tryd.prog 16 #[.slice Af x.flat.length cf] W fun e w' => e = .returned (iv x.hor) ∧ Below W.heap.size W w') := Lib.hid (fun W h => by
    have h2 := hrz_any Af cf x.flat W h
    rwa [hrz_ok x1 x2 x4] at h2)
  have HEv : Hid (∀ (n i : Nat) (W : World), n ≤ t.length → i ≤ 1000 → NdsL W Af x.flat → RowsL W C t → Calls Tryd.prog 29 #[.slice Af x.flat.length cf, iv 3, .slice C n c, iv i] W fun e w' => e = .returned (.tuple #[iv (evT (t.take n) x i), iv 0]) ∧ Below W.heap.size W w') := Lib.hid (fun n i W h1 h2 h3 h4 => eval_take Af cf C c x1 x2 x4 x5 ht n h1 i h2 W h3 h4)
  have HMo : Hid (∀ n m i : Nat, n ≤ m → lek (evT (t.take n) x i) (evT (t.take m) x i)) := Lib.hid (fun n m i h => sty_mono t x2 h i)
  have HDe : Hid (∀ n i : Nat, n ≤ t.length → (i : Int) + x.hor < n → evT (t.take n) x i ≠ 2) := Lib.hid (fun n i h1 h2 => sty_dec t x1 x2 h1 i h2)
  have t1 : t.length ≤ 40 := by have := ht.1; omega
  have HCo : Hid (0 < t.length → ∃ b off, C = some ⟨b, off, none⟩) := Lib.hid (fun h => by obtain ⟨b, off, e, _⟩ := hrw h; exact ⟨b, off, e⟩)
  clear hnd hrw hb1 hb2 HR HT x1 x2 x3 x4 ht
  generalize hF : (fun n i : Nat => evT (t.take n) x i) = F at *
  replace HMo : Hid (∀ n m i : Nat, n ≤ m → lek (F n i) (F m i)) := by rw [← hF]; exact HMo
  replace HDe : Hid (∀ n i : Nat, n ≤ t.length → (i : Int) + x.hor < n → F n i ≠ 2) := by rw [← hF]; exact HDe
  replace HEv : Hid (∀ (n i : Nat) (W : World), n ≤ t.length → i ≤ 1000 → NdsL W Af x.flat → RowsL W C t → Calls Tryd.prog 29 #[.slice Af x.flat.length cf, iv 3, .slice C n c, iv i] W fun e w' => e = .returned (.tuple #[iv (F n i), iv 0]) ∧ Below W.heap.size W w') := by rw [← hF]; exact HEv
  clear hF
  generalize x.hor = H at *
  generalize t.length = T at *
  generalize x.flat.length = NF at *
  go_upto_region 3 with (go_at_call 16; (with_reducible refine (HH.out _ HND.out).mono ?_); rintro e w3 ⟨rfl, hb3⟩)
  have HND3 := Lib.hid (HND.out.below hb3)
  have HRW3 := Lib.hid (HRW.out.below hb3)
  have HB3 := Lib.hid (below_step HB2.out hb3)
  clear hb3 HND HRW HB2 HH
  generalize w3 = wz at *
  go_wp2
  go_loopw [8] (fun iv0 wr => ∃ i : Nat, iv0 = iv i ∧ i ≤ T ∧ Hid (Below wz.heap.size wz wr)) (fun iv0 _ => T - (intOf iv0).toNat)
  case atStart => exact ⟨0, rfl, Nat.zero_le _, Lib.hid (Below.refl _ _)⟩
  case round =>
    obtain ⟨i, rfl, hiT, HBi⟩ := hrel
    have i0 : (0 : Int) ≤ (i : Int) := Int.natCast_nonneg _
    by_cases hlt : i < T
    · have i1 : (i : Int) < (T : Int) := by omega
      have i2 : (T : Int) ≤ 40 := by omega
      obtain ⟨b, off, hC⟩ := HCo.out (by omega)
      subst hC
      go_wp2
      go_loopw [9, 10] (fun wv nv wk => ∃ (was : Int) (n : Nat), wv = iv was ∧ nv = iv n ∧ i ≤ n ∧ n ≤ T + 1 ∧ Hid (∀ m, n ≤ m → lek was (F m i)) ∧ Hid (Below wz.heap.size wz wk)) (fun _ nv _ => T + 1 - (intOf nv).toNat)
      case atStart => exact ⟨2, i, rfl, rfl, Nat.le_refl _, by omega, Lib.hid (fun m _ => .inl rfl), HBi⟩
      case round =>
        obtain ⟨was, n, rfl, rfl, hin, hnT, HLe, HBn⟩ := hrel
        have n0 : (0 : Int) ≤ (n : Int) := Int.natCast_nonneg _
        have n1 : (i : Int) ≤ (n : Int) := by omega
        by_cases hn : n ≤ T
        · have n2 : (n : Int) ≤ (T : Int) := by omega
          by_cases hh : (n : Int) ≤ (i : Int) + H + 2
          · have hle := HLe.out n (Nat.le_refl _)
            have hde := HDe.out n i hn
            have HMn : Hid (∀ m, n + 1 ≤ m → lek (F n i) (F m i)) := Lib.hid (fun m hm => HMo.out n m i (by omega))
            generalize hv : F n i = v at *
            have HEn : Hid (∀ W, NdsL W Af x.flat → RowsL W (some ⟨b, off, none⟩) t → Calls Tryd.prog 29 #[.slice Af NF cf, iv 3, .slice (some ⟨b, off, none⟩) n c, iv i] W fun e w' => e = .returned (.tuple #[iv v, iv 0]) ∧ Below W.heap.size W w') := Lib.hid (fun W h1 h2 => by rw [← hv]; exact HEv.out n i W hn (by omega) h1 h2)
            clear hv
            have c1 : n ≤ c := by omega
            go_upto_region 11 with (go_at_call 29; (with_reducible refine (HEn.out _ (HND3.out.below HBn.out) (HRW3.out.below HBn.out)).mono ?_); rintro e w4 ⟨rfl, hb4⟩)
            have HB4 := Lib.hid (below_step HBn.out hb4)
            clear hb4 HEn HBn
            by_cases hw : was = 2
            · subst hw
              by_cases hv2 : v = 2
              · subst hv2
                have h9 : ¬ (i : Int) + H < (n : Int) := fun h => hde h rfl
                go_wp2
                refine ⟨⟨2, n + 1, rfl, by go_num, by omega, by omega, HMn, HB4⟩, by simp [intOf]; omega⟩
              · go_wp2
                refine ⟨⟨_, n + 1, rfl, by go_num, by omega, by omega, HMn, HB4⟩, by simp [intOf]; omega⟩
            · obtain rfl := hle.resolve_left hw
              go_wp2
              refine ⟨⟨_, n + 1, rfl, by go_num, by omega, by omega, HMn, HB4⟩, by simp [intOf]; omega⟩
          · go_wp2
            exact ⟨⟨i + 1, by go_num, by omega, HBn⟩, by simp [intOf]; omega⟩
        · go_wp2
          exact ⟨⟨i + 1, by go_num, by omega, HBn⟩, by simp [intOf]; omega⟩
    · have i1 : ¬ (i : Int) < (T : Int) := by omega
      go_wp2_with (go_at_call 11; (with_reducible refine (HAw.out _ (below_step HB3.out HBi.out)).mono ?_); rintro e w4 ⟨rfl, hb4⟩)
      go_ret
      exact ⟨rfl, below_step (below_step HB3.out HBi.out) hb4⟩
end Go.Proofs.YtnpnfdnaglcnfaaDoor
