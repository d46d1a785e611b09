/- The law PlanChecks: its walk. -/
import Derived.Test.YtcoccfijikiamaaRat
import Derived.Test.YtcoccfijikiamaaRck
import Derived.Test.YtcoccfijikiamaaAwk
import Derived.Test.YtcoccfijikiamaaQBel
namespace Go.Proofs.Ytcoccfijikiamaa
open Go.RowKit Go.Shelf

theorem size3 (w : World) (o p q : Obj) : (((w.alloc o).alloc p).alloc q).heap.size = w.heap.size + 3 := by rw [World.size_alloc, World.size_alloc, World.size_alloc]
theorem box_of_size {W : World} {n : Nat} (t : TypeId) (cs : Array Value) (h : W.heap.size = n) : BoxAt (W.alloc (.cells cs t)) n t cs := by subst h; exact BoxAt.new W t cs
theorem own_nil0 {W : World} {base e s n c : Nat} {A : Option Addr} {xs : List Value} (h : W.ownsRow base e s (.slice A n c) n xs) : Nil0 A c := fun hA => by
  rcases h.2 with ⟨h1, _⟩ | ⟨g, cap, cur, h1, _⟩
  · obtain ⟨_, _, rfl⟩ : A = none ∧ n = 0 ∧ c = 0 := by simpa using h1
    rfl
  · obtain ⟨rfl, _⟩ : A = some ⟨g, 0, none⟩ ∧ c = cap := by simpa using h1
    cases hA
set_option maxRecDepth 100000 in
set_option maxHeartbeats 8000000 in
theorem checks_walk (c : Car) (A : Option Addr) (cap : Nat) (L : List Int) (B : Option Addr) (cb : Nat) (M : List Int) (i : Int) (w : World) (hA : NumL w A L) (hn : Nil0 A cap) (hcap : L.length ≤ cap) (hB : NumL w B M) (hml : L.length ≤ 9223372036854775807) (hmm : M.length ≤ 9223372036854775807) :
    Calls Try.prog 3 #[cv c, pv A L.length cap, pv B M.length cb, iv i] w fun e w' => e = .returned (.bool true) ∧ Below w.heap.size w w' := by
  have hb : Below w.heap.size w (((w.alloc (.cells #[iv c.len, iv c.acc, iv c.brk, iv c.rate, iv c.del] 23)).alloc (.cells #[.slice A L.length cap] 26)).alloc (.cells #[.slice B M.length cb] 26)) := (((Below.refl _ w).alloc (Nat.le_refl _) _).alloc (by simp) _).alloc (by rw [size2]; omega) _
  have HXc := Lib.hid (((BoxAt.new w 23 #[iv c.len, iv c.acc, iv c.brk, iv c.rate, iv c.del]).alloc (.cells #[.slice A L.length cap] 26)).alloc (.cells #[.slice B M.length cb] 26))
  have HXp := Lib.hid ((box_of_size (n := w.heap.size + 1) 26 #[.slice A L.length cap] (World.size_alloc w (.cells #[iv c.len, iv c.acc, iv c.brk, iv c.rate, iv c.del] 23))).alloc (.cells #[.slice B M.length cb] 26))
  have HXq := Lib.hid (box_of_size (n := w.heap.size + 2) 26 #[.slice B M.length cb] (size2 w (.cells #[iv c.len, iv c.acc, iv c.brk, iv c.rate, iv c.del] 23) (.cells #[.slice A L.length cap] 26)))
  have hs := size3 w (.cells #[iv c.len, iv c.acc, iv c.brk, iv c.rate, iv c.del] 23) (.cells #[.slice A L.length cap] 26) (.cells #[.slice B M.length cb] 26)
  have hA2 := hA.below hb
  have hB2 := hB.below hb
  clear hA hB
  by_cases hbig : 210 < L.length ∨ 210 < M.length
  · have hAw := Lib.hid (fun W => awake_any W)
    generalize L.length = N at *
    generalize M.length = K at *
    have x0 := HXp.out.cell 0
    have x1 := HXq.out.cell 0
    have l0 := HXp.out.lt
    have l1 := HXq.out.lt
    have HB := Lib.hid hb
    clear hA2 hB2 hb
    by_cases h1 : 210 < N
    · have e1 : decide (210 < (N : Int)) = true := by simp; omega
      have e1' : (210 : Int) < (N : Int) := by omega
      go_enter Try.func3, Try.ntmps3
      go_wp2_with (go_at_call 7; (with_reducible refine (hAw.out _).mono ?_); rintro e w5 ⟨rfl, hb5⟩)
      go_ret
      exact ⟨rfl, below_step HB.out hb5⟩
    · have e1 : decide (210 < (N : Int)) = false := by simp; omega
      have e1' : ¬ (210 : Int) < (N : Int) := by omega
      have e2 : decide (210 < (K : Int)) = true := by simp; omega
      have e2' : (210 : Int) < (K : Int) := by omega
      go_enter Try.func3, Try.ntmps3
      go_wp2_with (go_at_call 7; (with_reducible refine (hAw.out _).mono ?_); rintro e w5 ⟨rfl, hb5⟩)
      go_ret
      exact ⟨rfl, below_step HB.out hb5⟩
  · have hN210 : L.length ≤ 210 := by omega
    have hM210 : M.length ≤ 210 := by omega
    obtain ⟨N, hN⟩ : ∃ N, N = L.length := ⟨_, rfl⟩
    obtain ⟨K, hK⟩ : ∃ K, K = M.length := ⟨_, rfl⟩
    rw [← hN, ← hK] at hb HXc HXp HXq hs
    rw [← hN] at hN210 hcap hA2 ⊢
    rw [← hK] at hM210 hB2 ⊢
    rw [← hK] at hA2
    rw [← hN] at hB2
    have HN := Lib.hid hN
    have HK := Lib.hid hK
    have HA := Lib.hid hA2
    have HB := Lib.hid hB2
    have HBw := Lib.hid hb
    have HS := Lib.hid hs
    clear hN hK hA2 hB2 hb hs hml hmm hbig
    have e1 : decide (210 < (N : Int)) = false := by simp; omega
    have e1' : ¬ (210 : Int) < (N : Int) := by omega
    have e2 : decide (210 < (K : Int)) = false := by simp; omega
    have e2' : ¬ (210 : Int) < (K : Int) := by omega
    go_enter Try.func3, Try.ntmps3
    go_upto_region 1 with fail
    generalize ((w.alloc (.cells #[iv c.len, iv c.acc, iv c.brk, iv c.rate, iv c.del] 23)).alloc (.cells #[.slice A N cap] 26)).alloc (.cells #[.slice B K cb] 26) = w0 at *
    have x0 : w0.cell? ⟨w.heap.size + 1, 0, none⟩ = some (.slice A N cap) := HXp.out.cell 0
    have x1 : w0.cell? ⟨w.heap.size + 2, 0, none⟩ = some (.slice B K cb) := HXq.out.cell 0
    have l0 := HXp.out.lt
    have l1 := HXq.out.lt
    go_upto_region 3 with fail
    have hE : (w0.alloc (.cells #[] 2)).ownsRow w0.heap.size 2 1 (.slice (some ⟨w0.heap.size, 0, none⟩) 0 0) 0 [] := World.ownsRow_made w0 #[] 0 (Nat.le_refl _) (by decide) rfl
    have hBa : Below w0.heap.size w0 (w0.alloc (.cells #[] 2)) := (Below.refl _ w0).alloc (Nat.le_refl _) _
    obtain ⟨v', E', q1, q2, q3⟩ := app_nums _ w0.heap.size _ 0 [] hE A cap L (HA.out.below hBa) hn (by simp) (by rw [← HN.out]; omega)
    rw [← HN.out] at q1 q2
    have HR := Lib.hid q1
    have hBe : Below w0.heap.size w0 E' := hBa.grown q3 hBa.size (fun j e => (hE.lt j e).1)
    rw [Nat.zero_add, List.nil_append] at q2
    obtain ⟨A', c', hv'⟩ := own_form q2
    subst hv'
    have HO := Lib.hid (q2.alloc (.cells #[.slice A' N c'] 26))
    have HBe := Lib.hid (hBe.alloc hBe.size (.cells #[.slice A' N c'] 26))
    have HXo := Lib.hid (BoxAt.new E' 26 #[.slice A' N c'])
    have HG : Hid (w0.heap.size ≤ E'.heap.size) := Lib.hid hBe.size
    clear hE hBa q1 q2 q3 hBe
    go_upto_region 4 with (at_builtin; refine wpList_app_run rfl _ _ rfl rfl rfl rfl HR.out ?_)
    generalize E'.alloc (.cells #[.slice A' N c'] 26) = w4 at *
    generalize E'.heap.size = g9 at *
    have HXc4 := Lib.hid (HXc.out.below HBe.out HXc.out.lt)
    have HXp4 := Lib.hid (HXp.out.below HBe.out HXp.out.lt)
    have HXq4 := Lib.hid (HXq.out.below HBe.out HXq.out.lt)
    have HA4 := Lib.hid (HA.out.below HBe.out)
    have HB4 := Lib.hid (HB.out.below HBe.out)
    have HBw4 := Lib.hid (HBw.out.trans (HBe.out.mono HBw.out.size))
    have HAo := Lib.hid (num_row HO.out)
    have HGo : Hid (w.heap.size + 3 ≤ g9) := Lib.hid (by have := HS.out; have := HG.out; omega)
    have HCo := Lib.hid (own_cap HO.out)
    have HNo := Lib.hid (own_nil0 HO.out)
    clear HXc HXp HXq HA HB HBw HBe HR x0 x1 l0 l1 HG
    have f0 : ∀ n os, (grd w4 n os).cell? ⟨w.heap.size, 0, none⟩ = some (iv c.len) := cell_grd (HXc4.out.cell 0)
    have f1 : ∀ n os, (grd w4 n os).cell? ⟨w.heap.size, 1, none⟩ = some (iv c.acc) := cell_grd (HXc4.out.cell 1)
    have f2 : ∀ n os, (grd w4 n os).cell? ⟨w.heap.size, 2, none⟩ = some (iv c.brk) := cell_grd (HXc4.out.cell 2)
    have f3 : ∀ n os, (grd w4 n os).cell? ⟨w.heap.size, 3, none⟩ = some (iv c.rate) := cell_grd (HXc4.out.cell 3)
    have f4 : ∀ n os, (grd w4 n os).cell? ⟨w.heap.size, 4, none⟩ = some (iv c.del) := cell_grd (HXc4.out.cell 4)
    have f5 : ∀ n os, (grd w4 n os).cell? ⟨w.heap.size + 1, 0, none⟩ = some (.slice A N cap) := cell_grd (HXp4.out.cell 0)
    have f6 : ∀ n os, (grd w4 n os).cell? ⟨g9, 0, none⟩ = some (.slice A' N c') := cell_grd (HXo.out.cell 0)
    have M1 := Lib.hid (fun W => car_any c W)
    have M2 := Lib.hid (fun W => rcar_any c W)
    have M3 := Lib.hid (fun W (h : Below w4.heap.size w4 W) => check_any c A' c' L W (HAo.out.below h) (by rw [← HN.out]; exact HCo.out) (by rw [← HN.out]; omega))
    have M4 := Lib.hid (fun W (h : Below w4.heap.size w4 W) => rcheck_any c A cap L W (HA4.out.below h) (by rw [← HN.out]; exact hcap) (by rw [← HN.out]; omega))
    have M5 := Lib.hid (fun W (h : Below w4.heap.size w4 W) => act_any A' c' L i W (HAo.out.below h) (by rw [← HN.out]; omega))
    have M6 := Lib.hid (fun W (h : Below w4.heap.size w4 W) => ract_any A cap L i W (HA4.out.below h) (by rw [← HN.out]; omega))
    rw [← HN.out] at M3 M4 M5 M6
    generalize carE c = z1 at *
    generalize chkP c L = z2 at *
    generalize actF L i = z3 at *
    have b1 : (z1 != z1) = false := by simp
    have b2 : (z2 != z2) = false := by simp
    have b3 : (z3 != z3) = false := by simp
    refine wp_region_quiet_grd (by kernel_rfl) (by kernel_rfl) ?_
    repeat (go_big_quiet_step (first
      | (go_at_call 8; with_reducible exact Calls.grd_of (M1.out _))
      | (go_at_call 9; with_reducible exact Calls.grd_of (M2.out _))
      | (go_at_call 10; with_reducible exact Calls.grd_of (M3.out _ (below_grd _ _ _)))
      | (go_at_call 11; with_reducible exact Calls.grd_of (M4.out _ (below_grd _ _ _)))
      | (go_at_call 12; with_reducible exact Calls.grd_of (M5.out _ (below_grd _ _ _)))
      | (go_at_call 13; with_reducible exact Calls.grd_of (M6.out _ (below_grd _ _ _)))))
    refine wpQuiet_nil ?_
    intro _ hw'
    obtain ⟨⟨nq, osq⟩, rfl⟩ := hw'
    have HBq := Lib.hid (below_grd w4 nq osq)
    generalize grd w4 nq osq = w5 at *
    have HXp5 := Lib.hid (HXp4.out.below HBq.out HXp4.out.lt)
    have HXq5 := Lib.hid (HXq4.out.below HBq.out HXq4.out.lt)
    have HXo5 := Lib.hid (HXo.out.below HBq.out HXo.out.lt)
    have HO5 := Lib.hid (HO.out.kept (grown_of_below HBq.out) (Classical.em _))
    have HA5 := Lib.hid (HA4.out.below HBq.out)
    have HB5 := Lib.hid (HB4.out.below HBq.out)
    have HAo5 := Lib.hid (HAo.out.below HBq.out)
    have HBw5 := Lib.hid (HBw4.out.trans (HBq.out.mono HBw4.out.size))
    clear f0 f1 f2 f3 f4 f5 f6 M1 M2 M3 M4 M5 M6 HXc4 HXp4 HXq4 HXo HO HA4 HB4 HAo HBw4 HBq b1 b2 b3
    have x0 : w5.cell? ⟨g9, 0, none⟩ = some (.slice A' N c') := HXo5.out.cell 0
    have l0 := HXo5.out.lt
    have HTl := Lib.hid (tail_any A' c' L w5 HAo5.out HNo.out (by rw [← HN.out]; exact HCo.out) (by rw [← HN.out]; omega))
    rw [← HN.out] at HTl
    obtain ⟨T, hT⟩ : ∃ T, T = tailF L := ⟨_, rfl⟩
    rw [← hT] at HTl
    have HT := Lib.hid hT
    have hTl : T.length ≤ N := by
      rw [hT, HN.out]
      unfold tailF
      split
      · rw [List.length_drop]; omega
      · exact Nat.le_refl _
    clear hT
    obtain ⟨nT, hnT⟩ : ∃ nT, nT = T.length := ⟨_, rfl⟩
    rw [← hnT] at HTl hTl
    have HnT := Lib.hid hnT
    clear hnT
    go_upto_region 7 with (go_at_call 14; (with_reducible refine HTl.out.mono ?_); rintro e w6 ⟨vt, rfl, ho6, hb6⟩; obtain ⟨At, ct, hvt⟩ := own_form ho6; subst hvt)
    have hs6 : w5.heap.size ≤ w6.heap.size := hb6.size
    have hb7 : Below w5.heap.size w5 (w6.alloc (.cells #[.slice At nT ct] 26)) := hb6.alloc hs6 _
    have HXp7 := Lib.hid (HXp5.out.below hb7 HXp5.out.lt)
    have HXq7 := Lib.hid (HXq5.out.below hb7 HXq5.out.lt)
    have HXo7 := Lib.hid (HXo5.out.below hb7 HXo5.out.lt)
    have HO7 := Lib.hid (HO5.out.kept (grown_of_below hb7) (Classical.em _))
    have HA7 := Lib.hid (HA5.out.below hb7)
    have HB7 := Lib.hid (HB5.out.below hb7)
    have HAo7 := Lib.hid (HAo5.out.below hb7)
    have HBw7 := Lib.hid (HBw5.out.trans (hb7.mono HBw5.out.size))
    have HT7 := Lib.hid (ho6.alloc (.cells #[.slice At nT ct] 26))
    have HXt7 := Lib.hid (BoxAt.new w6 26 #[.slice At nT ct])
    have HG10 : Hid (w5.heap.size ≤ w6.heap.size) := Lib.hid hs6
    have HB57 := Lib.hid hb7
    clear HXq5 HO5 HB5 ho6 hs6 hb6 hb7 HTl x0 l0
    generalize w6.alloc (.cells #[.slice At nT ct] 26) = w7 at *
    generalize w6.heap.size = g10 at *
    have HKp : Hid (∀ W, Below w7.heap.size w7 W → W.cell? ⟨w.heap.size + 1, 0, none⟩ = some (.slice A N cap) ∧ W.cell? ⟨w.heap.size + 1 + 1, 0, none⟩ = some (.slice B K cb) ∧ W.cell? ⟨g9, 0, none⟩ = some (.slice A' N c') ∧ W.cell? ⟨g10, 0, none⟩ = some (.slice At nT ct)) := Lib.hid (fun W h =>
      ⟨(HXp7.out.below h HXp7.out.lt).cell 0, (HXq7.out.below h HXq7.out.lt).cell 0, (HXo7.out.below h HXo7.out.lt).cell 0, (HXt7.out.below h HXt7.out.lt).cell 0⟩)
    obtain ⟨x0, x1, x2, x3⟩ := HKp.out w7 (Below.refl _ _)
    have l0 := HXp7.out.lt
    have l1 : w.heap.size + 1 + 1 < w7.heap.size := HXq7.out.lt
    have l2 := HXo7.out.lt
    have l3 := HXt7.out.lt
    have C1 : Hid (∀ W, Below w7.heap.size w7 W → Calls Try.prog 16 #[pv A N cap] W fun e w' => ∃ v, e = .returned (.agg #[v]) ∧ w'.ownsRow W.heap.size 2 1 v nT (T.map fun x => iv x) ∧ Below W.heap.size W w') := Lib.hid (fun W h => by
      have h1 := rtail_any A cap L W (HA7.out.below h) hn (by rw [← HN.out]; exact hcap) (by rw [← HN.out]; omega)
      rw [← HN.out, ← HT.out, ← HnT.out] at h1
      exact h1)
    have C2 : Hid (∀ W Av cv', Below w7.heap.size w7 W → NumL W Av T → Calls Try.prog 15 #[pv At nT ct, pv Av nT cv'] W fun e w' => e = .returned (.bool true) ∧ Below W.heap.size W w') := Lib.hid (fun W Av cv' h h2 => by
      have h1 := rsame_any At ct T Av cv' T W (by rw [← HnT.out]; omega) (by rw [← HnT.out]; omega) ((num_row HT7.out).below h) h2
      rw [← HnT.out, decide_eq_true rfl] at h1
      exact h1)
    obtain ⟨dq, hdq⟩ : ∃ dq, dq = decide (L = M) := ⟨_, rfl⟩
    have C3 : Hid (∀ W, Below w7.heap.size w7 W → Calls Try.prog 17 #[pv A N cap, pv B K cb] W fun e w' => e = .returned (.bool dq) ∧ Below W.heap.size W w') := Lib.hid (fun W h => by
      have h1 := same_any A cap L B cb M W (by rw [← HN.out]; omega) (by rw [← HK.out]; omega) (HA7.out.below h) (HB7.out.below h)
      rw [← HN.out, ← HK.out, ← hdq] at h1
      exact h1)
    have C4 : Hid (∀ W, Below w7.heap.size w7 W → Calls Try.prog 15 #[pv A N cap, pv B K cb] W fun e w' => e = .returned (.bool dq) ∧ Below W.heap.size W w') := Lib.hid (fun W h => by
      have h1 := rsame_any A cap L B cb M W (by rw [← HN.out]; omega) (by rw [← HK.out]; omega) (HA7.out.below h) (HB7.out.below h)
      rw [← HN.out, ← HK.out, ← hdq] at h1
      exact h1)
    have C5 : Hid (∀ W, Below w7.heap.size w7 W → Calls Try.prog 17 #[pv A N cap, pv A' N c'] W fun e w' => e = .returned (.bool true) ∧ Below W.heap.size W w') := Lib.hid (fun W h => by
      have h1 := same_any A cap L A' c' L W (by rw [← HN.out]; omega) (by rw [← HN.out]; omega) (HA7.out.below h) (HAo7.out.below h)
      rw [← HN.out, decide_eq_true rfl] at h1
      exact h1)
    clear hdq
    have b1 : (dq != dq) = false := by simp
    have b2 : (dq == dq) = true := by simp
    go_region_held3 (fun W => W.cell? ⟨w.heap.size + 1, 0, none⟩ = some (.slice A N cap) ∧ W.cell? ⟨w.heap.size + 1 + 1, 0, none⟩ = some (.slice B K cb) ∧ W.cell? ⟨g9, 0, none⟩ = some (.slice A' N c') ∧ W.cell? ⟨g10, 0, none⟩ = some (.slice At nT ct))
      (first | exact HKp.out _ hbf | exact HKp.out _ hbe | exact HKp.out _ hbd | exact HKp.out _ hbc | exact HKp.out _ hba | exact ⟨x0, x1, x2, x3⟩ | go_keep)
      (first
        | (go_at_call 16; (with_reducible refine (C1.out _ (Below.drew (Below.refl _ _))).mono ?_); rintro e w8 ⟨vr, rfl, hro, hb8⟩; obtain ⟨Ar, cr, hvr⟩ := own_form hro; subst hvr; have hba : Below w7.heap.size w7 w8 := below_step (Below.drew (Below.refl _ _)) hb8; have HRr := Lib.hid (num_row hro))
        | (go_at_call 15; (with_reducible refine (C2.out _ _ _ hba HRr.out).mono ?_); rintro e w9 ⟨rfl, hb9⟩; have hbc : Below w7.heap.size w7 w9 := below_step hba hb9)
        | (go_at_call 17; (with_reducible refine (C3.out _ hbc).mono ?_); rintro e w10 ⟨rfl, hb10⟩; have hbd : Below w7.heap.size w7 w10 := below_step hbc hb10)
        | (go_at_call 15; (with_reducible refine (C4.out _ hbd).mono ?_); rintro e w11 ⟨rfl, hb11⟩; have hbe : Below w7.heap.size w7 w11 := below_step hbd hb11)
        | (go_at_call 17; (with_reducible refine (C5.out _ hbe).mono ?_); rintro e w12 ⟨rfl, hb12⟩; have hbf : Below w7.heap.size w7 w12 := below_step hbe hb12))
    have HBf : Hid (Below w5.heap.size w5 w12) := Lib.hid (HB57.out.trans (hbf.mono HB57.out.size))
    have HXt := Lib.hid (HXt7.out.below hbf HXt7.out.lt)
    have HTt := Lib.hid (HT7.out.kept (grown_of_below hbf) (Classical.em _))
    have HTb : Hid (0 < nT → ∃ gt cur, At = some ⟨gt, 0, none⟩ ∧ w5.heap.size ≤ gt ∧ gt ≠ g10 ∧ BoxAt w12 gt 2 cur ∧ nT ≤ cur.size) := Lib.hid (fun h0 => by
      rcases HTt.out.2 with ⟨_, h2⟩ | ⟨g, cap, cur, h1, h2, h3, h4, _, h6, _⟩
      · omega
      · obtain ⟨rfl, rfl⟩ : At = some ⟨g, 0, none⟩ ∧ ct = cap := by simpa using h1
        refine ⟨g, cur, rfl, h2, fun e => ?_, h3, by omega⟩
        subst e
        have h7 := h3.symm.trans (show w12.heap[g]? = _ from HXt.out)
        cases h7)
    clear C1 C2 C3 C4 C5 HKp x0 x1 x2 x3 l0 l1 l2 l3 hba hbc hbd hbe hbf hb8 hb9 hb10 hb11 hb12 HXp7 HXq7 HXo7 HO7 HA7 HB7 HAo7 HBw7 HT7 HXt7 HB57 HRr hro b1 b2
    go_wp2
    go_loopw [11] (fun iv0 wr => ∃ k : Nat, k ≤ nT ∧ iv0 = iv k ∧ Hid (Below w5.heap.size w12 wr) ∧ Hid (BoxAt wr g10 26 #[.slice At nT ct]) ∧ Hid (∀ gt cur0, At = some ⟨gt, 0, none⟩ → BoxAt w12 gt 2 cur0 → nT ≤ cur0.size → ∃ cur, BoxAt wr gt 2 cur ∧ nT ≤ cur.size)) (fun iv0 _ => nT - (intOf iv0).toNat)
    case atStart => exact ⟨0, Nat.zero_le _, rfl, Lib.hid ⟨rfl, rfl, rfl, Nat.le_refl _, fun _ _ => rfl⟩, HXt, Lib.hid (fun gt cur _ h1 h2 => ⟨cur, h1, h2⟩)⟩
    case round =>
      obtain ⟨k, hk, rfl, HBr, HXr, HTr⟩ := hrel
      have i0 : (0 : Int) ≤ (k : Int) := Int.natCast_nonneg _
      have y0 : wr.cell? ⟨g10, 0, none⟩ = some (.slice At nT ct) := HXr.out.cell 0
      have ly := HXr.out.lt
      by_cases hlt : k < nT
      · have i1 : (k : Int) < (nT : Int) := by omega
        obtain ⟨gt, cur0, rfl, hge, hne, hbx, hsz⟩ := HTb.out (by omega)
        obtain ⟨cur, hcx, hcs⟩ := HTr.out gt cur0 rfl hbx hsz
        obtain ⟨u, hu⟩ : ∃ u, cur[k]? = some u := ⟨_, Array.getElem?_eq_getElem (by omega)⟩
        have ck : wr.cell? ⟨gt, k, none⟩ = some u := by rw [hcx.cell k, hu]
        have fk := hcx.frozen k
        have lk := hcx.lt
        have HGe := Lib.hid hge
        have HNe := Lib.hid hne
        have HCx := Lib.hid hcx
        have HCs := Lib.hid hcs
        have HUb : Hid (∀ cur1, BoxAt w12 gt 2 cur1 → cur1 = cur0) := Lib.hid (fun cur1 h => by
          have h7 := (show w12.heap[gt]? = _ from h).symm.trans hbx
          cases h7; rfl)
        clear hge hne hbx hsz hcx hcs hu
        go_wp2
        refine ⟨⟨k + 1, by omega, by go_num, Lib.hid (HBr.out.setCell (p := ⟨gt, k, none⟩) HGe.out _), Lib.hid (HXr.out.other (Ne.symm HNe.out) k _), Lib.hid (fun g2 cur1 e h1 h2 => ?_)⟩, by simp [intOf]; omega⟩
        obtain rfl : gt = g2 := by simpa using e
        exact ⟨_, HCx.out.set k _, by simp; exact HCs.out⟩
      · obtain rfl : k = nT := by omega
        have i1 : ¬ (k : Int) < (k : Int) := by omega
        have HBe : Hid (Below w5.heap.size w5 wr) := Lib.hid (HBf.out.trans HBr.out)
        have z0 : wr.cell? ⟨g9, 0, none⟩ = some (.slice A' N c') := (HXo5.out.below HBe.out HXo5.out.lt).cell 0
        have z1 : wr.cell? ⟨w.heap.size + 1, 0, none⟩ = some (.slice A N cap) := (HXp5.out.below HBe.out HXp5.out.lt).cell 0
        have l0 := (HXo5.out.below HBe.out HXo5.out.lt).lt
        have l1 := (HXp5.out.below HBe.out HXp5.out.lt).lt
        have C6 : Hid (Calls Try.prog 15 #[pv A' N c', pv A N cap] wr fun e w' => e = .returned (.bool true) ∧ Below wr.heap.size wr w') := Lib.hid (by
          have h1 := rsame_any A' c' L A cap L wr (by rw [← HN.out]; omega) (by rw [← HN.out]; omega) (HAo5.out.below HBe.out) (HA5.out.below HBe.out)
          rw [← HN.out, decide_eq_true rfl] at h1
          exact h1)
        go_wp2_with (first
          | (go_at_call 15; (with_reducible refine C6.out.mono ?_); rintro e w13 ⟨rfl, hb13⟩)
          | (go_at_call 7; (with_reducible refine (awake_any _).mono ?_); rintro e w14 ⟨rfl, hb14⟩))
        go_ret
        exact ⟨rfl, below_step (below_step (HBw5.out.trans (HBe.out.mono HBw5.out.size)) hb13) hb14⟩
end Go.Proofs.Ytcoccfijikiamaa
