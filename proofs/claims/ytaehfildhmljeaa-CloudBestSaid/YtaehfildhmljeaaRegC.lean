/- Register's errors: the program's check of its arguments, and the reference's Register of what is wrong. -/
import Derived.Test.YtaehfildhmljeaaRReg
namespace Go.Proofs.Ytaehfildhmljeaa
open Go.RowKit Go.Shelf

section
variable {n : Nat} {X Y V : Nat → Int} {m : Nat} {X' Y' V' : Nat → Int} {win s : Int}
theorem regE_a (h : chkF n X Y V ≠ 0) : regE n X Y V m X' Y' V' win s = chkF n X Y V := by unfold regE; rw [if_pos h]
theorem regE_b (h : chkF n X Y V = 0) (h' : chkF m X' Y' V' ≠ 0) : regE n X Y V m X' Y' V' win s = chkF m X' Y' V' := by unfold regE; rw [if_neg (fun k => k h), if_pos h']
theorem regE_c (h : chkF n X Y V = 0) (h' : chkF m X' Y' V' = 0) (k : 60 < n ∨ 60 < m) : regE n X Y V m X' Y' V' win s = 8 := by unfold regE; rw [if_neg (fun k => k h), if_neg (fun k => k h'), if_pos k]
theorem regE_d (h : chkF n X Y V = 0) (h' : chkF m X' Y' V' = 0) (k : ¬ (60 < n ∨ 60 < m)) (u : ¬ (0 ≤ win ∧ win ≤ 2000 ∧ 0 ≤ s ∧ s ≤ 2000)) : regE n X Y V m X' Y' V' win s = 2 := by unfold regE; rw [if_neg (fun k => k h), if_neg (fun k => k h'), if_neg k, if_neg u]
theorem regE_e (h : chkF n X Y V = 0) (h' : chkF m X' Y' V' = 0) (k : ¬ (60 < n ∨ 60 < m)) (u : 0 ≤ win ∧ win ≤ 2000 ∧ 0 ≤ s ∧ s ≤ 2000) : regE n X Y V m X' Y' V' win s = 0 := by unfold regE; rw [if_neg (fun k => k h), if_neg (fun k => k h'), if_neg k, if_pos u]
end

set_option maxRecDepth 100000 in
set_option maxHeartbeats 8000000 in
theorem ckreg_any (A : Option Addr) (n c1 : Nat) (X Y V : Nat → Int) (B : Option Addr) (m c2 : Nat) (X' Y' V' : Nat → Int) (win s : Int) (w : World) (hc1 : Cloud w A n X Y V) (hc2 : Cloud w B m X' Y' V') :
    Calls Try.prog 94 #[.slice A n c1, .slice B m c2, .int .i64 win, .int .i64 s] w fun e w' => e = .returned (.int .i64 (regE n X Y V m X' Y' V' win s)) ∧ Below w.heap.size w w' := by
  have HC1 := Lib.hid hc1
  have HC2 := Lib.hid hc2
  have HCh1 := Lib.hid (fun W (h : Cloud W A n X Y V) => check_any A n c1 X Y V W h)
  have HCh2 := Lib.hid (fun W (h : Cloud W B m X' Y' V') => check_any B m c2 X' Y' V' W h)
  by_cases h1 : chkF n X Y V = 0
  · by_cases h2 : chkF m X' Y' V' = 0
    · rw [h1] at HCh1
      rw [h2] at HCh2
      by_cases k1 : 60 < n
      · have k2 : (60 : Int) < (n : Int) := by omega
        have HE := Lib.hid (regE_c (win := win) (s := s) h1 h2 (Or.inl k1))
        clear hc1 hc2
        go_enter Try.func94, Try.ntmps94
        have hBq := Below.refl w.heap.size w
        go_wp2_with (first
          | (go_at_call 22; (with_reducible refine (HCh1.out _ HC1.out).mono ?_); rintro e w1 ⟨rfl, hx1⟩; replace hBq := below_step hBq hx1; have HC2b := Lib.hid (HC2.out.below hx1))
          | (go_at_call 22; (with_reducible refine (HCh2.out _ HC2b.out).mono ?_); rintro e w2 ⟨rfl, hx2⟩; replace hBq := below_step hBq hx2))
        go_ret
        exact ⟨by rw [HE.out]; rfl, hBq⟩
      · have k2 : ¬ (60 : Int) < (n : Int) := by omega
        by_cases k3 : 60 < m
        · have k4 : (60 : Int) < (m : Int) := by omega
          have HE := Lib.hid (regE_c (win := win) (s := s) h1 h2 (Or.inr k3))
          clear hc1 hc2
          go_enter Try.func94, Try.ntmps94
          have hBq := Below.refl w.heap.size w
          go_wp2_with (first
            | (go_at_call 22; (with_reducible refine (HCh1.out _ HC1.out).mono ?_); rintro e w1 ⟨rfl, hx1⟩; replace hBq := below_step hBq hx1; have HC2b := Lib.hid (HC2.out.below hx1))
            | (go_at_call 22; (with_reducible refine (HCh2.out _ HC2b.out).mono ?_); rintro e w2 ⟨rfl, hx2⟩; replace hBq := below_step hBq hx2))
          go_ret
          exact ⟨by rw [HE.out]; rfl, hBq⟩
        · have k4 : ¬ (60 : Int) < (m : Int) := by omega
          by_cases u1 : 0 ≤ win ∧ win ≤ 2000
          · have HW1 : Hid (∀ W, Calls Try.prog 100 #[.int .i64 win] W fun e w' => e = .returned (.bool true) ∧ w' = W) := Lib.hid (fun W => vwin_any win true (by simp [u1]) W)
            by_cases u2 : 0 ≤ s ∧ s ≤ 2000
            · have HW2 : Hid (∀ W, Calls Try.prog 100 #[.int .i64 s] W fun e w' => e = .returned (.bool true) ∧ w' = W) := Lib.hid (fun W => vwin_any s true (by simp [u2]) W)
              have HE := Lib.hid (regE_e (win := win) (s := s) h1 h2 (fun h => h.elim k1 k3) ⟨u1.1, u1.2, u2.1, u2.2⟩)
              clear hc1 hc2
              go_enter Try.func94, Try.ntmps94
              have hBq := Below.refl w.heap.size w
              go_wp2_with (first
                | (go_at_call 22; (with_reducible refine (HCh1.out _ HC1.out).mono ?_); rintro e w1 ⟨rfl, hx1⟩; replace hBq := below_step hBq hx1; have HC2b := Lib.hid (HC2.out.below hx1))
                | (go_at_call 22; (with_reducible refine (HCh2.out _ HC2b.out).mono ?_); rintro e w2 ⟨rfl, hx2⟩; replace hBq := below_step hBq hx2)
                | (go_at_call 100; (with_reducible refine (HW1.out _).mono ?_); rintro e w3 ⟨rfl, rfl⟩)
                | (go_at_call 100; (with_reducible refine (HW2.out _).mono ?_); rintro e w4 ⟨rfl, rfl⟩))
              go_ret
              exact ⟨by rw [HE.out]; rfl, hBq⟩
            · have HW2 : Hid (∀ W, Calls Try.prog 100 #[.int .i64 s] W fun e w' => e = .returned (.bool false) ∧ w' = W) := Lib.hid (fun W => vwin_any s false (by simp [u2]) W)
              have HE := Lib.hid (regE_d (win := win) (s := s) h1 h2 (fun h => h.elim k1 k3) (fun h => u2 ⟨h.2.2.1, h.2.2.2⟩))
              clear hc1 hc2
              go_enter Try.func94, Try.ntmps94
              have hBq := Below.refl w.heap.size w
              go_wp2_with (first
                | (go_at_call 22; (with_reducible refine (HCh1.out _ HC1.out).mono ?_); rintro e w1 ⟨rfl, hx1⟩; replace hBq := below_step hBq hx1; have HC2b := Lib.hid (HC2.out.below hx1))
                | (go_at_call 22; (with_reducible refine (HCh2.out _ HC2b.out).mono ?_); rintro e w2 ⟨rfl, hx2⟩; replace hBq := below_step hBq hx2)
                | (go_at_call 100; (with_reducible refine (HW1.out _).mono ?_); rintro e w3 ⟨rfl, rfl⟩)
                | (go_at_call 100; (with_reducible refine (HW2.out _).mono ?_); rintro e w4 ⟨rfl, rfl⟩))
              go_ret
              exact ⟨by rw [HE.out]; rfl, hBq⟩
          · have HW1 : Hid (∀ W, Calls Try.prog 100 #[.int .i64 win] W fun e w' => e = .returned (.bool false) ∧ w' = W) := Lib.hid (fun W => vwin_any win false (by simp [u1]) W)
            have HE := Lib.hid (regE_d (win := win) (s := s) h1 h2 (fun h => h.elim k1 k3) (fun h => u1 ⟨h.1, h.2.1⟩))
            clear hc1 hc2
            go_enter Try.func94, Try.ntmps94
            have hBq := Below.refl w.heap.size w
            go_wp2_with (first
              | (go_at_call 22; (with_reducible refine (HCh1.out _ HC1.out).mono ?_); rintro e w1 ⟨rfl, hx1⟩; replace hBq := below_step hBq hx1; have HC2b := Lib.hid (HC2.out.below hx1))
              | (go_at_call 22; (with_reducible refine (HCh2.out _ HC2b.out).mono ?_); rintro e w2 ⟨rfl, hx2⟩; replace hBq := below_step hBq hx2)
              | (go_at_call 100; (with_reducible refine (HW1.out _).mono ?_); rintro e w3 ⟨rfl, rfl⟩))
            go_ret
            exact ⟨by rw [HE.out]; rfl, hBq⟩
    · rw [h1] at HCh1
      have hE2 := regE_b (win := win) (s := s) h1 h2
      obtain ⟨z, hz⟩ : ∃ z, z = chkF m X' Y' V' := ⟨_, rfl⟩
      rw [← hz] at HCh2 h2 hE2
      clear hz h1
      have HE := Lib.hid (hE2)
      clear hc1 hc2
      go_enter Try.func94, Try.ntmps94
      have hBq := Below.refl w.heap.size w
      go_wp2_with (first
        | (go_at_call 22; (with_reducible refine (HCh1.out _ HC1.out).mono ?_); rintro e w1 ⟨rfl, hx1⟩; replace hBq := below_step hBq hx1; have HC2b := Lib.hid (HC2.out.below hx1))
        | (go_at_call 22; (with_reducible refine (HCh2.out _ HC2b.out).mono ?_); rintro e w2 ⟨rfl, hx2⟩; replace hBq := below_step hBq hx2))
      go_ret
      exact ⟨by rw [HE.out]; rfl, hBq⟩
  · have hE2 := regE_a (m := m) (X' := X') (Y' := Y') (V' := V') (win := win) (s := s) h1
    obtain ⟨z, hz⟩ : ∃ z, z = chkF n X Y V := ⟨_, rfl⟩
    rw [← hz] at HCh1 h1 hE2
    clear hz
    have HE := Lib.hid (hE2)
    clear hc1 hc2
    go_enter Try.func94, Try.ntmps94
    have hBq := Below.refl w.heap.size w
    go_wp2_with (first
      | (go_at_call 22; (with_reducible refine (HCh1.out _ HC1.out).mono ?_); rintro e w1 ⟨rfl, hx1⟩; replace hBq := below_step hBq hx1; have HC2b := Lib.hid (HC2.out.below hx1)))
    go_ret
    exact ⟨by rw [HE.out]; rfl, hBq⟩
set_option maxRecDepth 100000 in
set_option maxHeartbeats 8000000 in
theorem rregister_bad (A : Option Addr) (n c1 : Nat) (X Y V : Nat → Int) (B : Option Addr) (m c2 : Nat) (X' Y' V' : Nat → Int) (win s : Int) (w : World) (hc1 : Cloud w A n X Y V) (hc2 : Cloud w B m X' Y' V') (hne : regE n X Y V m X' Y' V' win s ≠ 0) :
    Calls Try.prog 50 #[.slice A n c1, .slice B m c2, .int .i64 win, .int .i64 s] w fun e w' => e = .returned (.tuple #[sp 0 0, .int .i64 0, .int .i64 (regE n X Y V m X' Y' V' win s)]) ∧ Below w.heap.size w w' := by
  have HC10 := Lib.hid hc1
  have HC20 := Lib.hid hc2
  have HCh1 := Lib.hid (fun W (h : Cloud W A n X Y V) => rcheck_any A n c1 X Y V W h)
  have HCh2 := Lib.hid (fun W (h : Cloud W B m X' Y' V') => rcheck_any B m c2 X' Y' V' W h)
  by_cases h1 : chkF n X Y V = 0
  · by_cases h2 : chkF m X' Y' V' = 0
    · rw [h1] at HCh1
      rw [h2] at HCh2
      by_cases k1 : 60 < n
      · have k2 : (60 : Int) < (n : Int) := by omega
        have HE := Lib.hid (regE_c (win := win) (s := s) h1 h2 (Or.inl k1))
        clear hc1 hc2 hne
        go_enter Try.func50, Try.ntmps50
        go_upto_region 1 with fail
        have hbx := BoxAt.new w 24 #[.int .i64 0, .int .i64 0]
        have hB : Below w.heap.size w (w.alloc (.cells #[.int .i64 0, .int .i64 0] 24)) := (Below.refl _ w).alloc (Nat.le_refl _) _
        have HC1 := Lib.hid (HC10.out.below hB)
        have HC2 := Lib.hid (HC20.out.below hB)
        obtain ⟨L8, hL8⟩ : ∃ z, z = w.heap.size := ⟨_, rfl⟩
        rw [← hL8] at hbx ⊢
        have hl8 : w.heap.size ≤ L8 := by omega
        clear hL8
        have HBB := Lib.hid hbx
        have HB0 := Lib.hid hB
        clear hB hbx
        generalize w.alloc (.cells #[.int .i64 0, .int .i64 0] 24) = wx at *
        have hBq := Below.refl wx.heap.size wx
        go_wp2_with (first
          | (go_at_call 23; (with_reducible refine (HCh1.out _ HC1.out).mono ?_); rintro e w1 ⟨rfl, hx1⟩; replace hBq := below_step hBq hx1; have HC2b := Lib.hid (HC2.out.below hx1))
          | (go_at_call 23; (with_reducible refine (HCh2.out _ HC2b.out).mono ?_); rintro e w2 ⟨rfl, hx2⟩; replace hBq := below_step hBq hx2; have r0 : w2.cell? ⟨L8, 0, none⟩ = some (.int .i64 0) := (box_step HBB.out hBq).cell 0; have r1 : w2.cell? ⟨L8, 1, none⟩ = some (.int .i64 0) := (box_step HBB.out hBq).cell 1; have f0 : w2.frozen? ⟨L8, 0, none⟩ = false := (box_step HBB.out hBq).frozen 0; have f1 : w2.frozen? ⟨L8, 1, none⟩ = false := (box_step HBB.out hBq).frozen 1; have r2 := (box_step HBB.out hBq).lt))
        have HBz := Lib.hid (bbel2 (below_step HB0.out hBq) hl8 (.int .i64 0) (.int .i64 0))
        have hzz := bset2 (a := .int .i64 0) (b := .int .i64 0) (box_step HBB.out hBq)
        have z0 := hzz.cell 0
        have z1 := hzz.cell 1
        generalize ((w2.setCell ⟨L8, 0, none⟩ (.int .i64 0)).setCell ⟨L8, 1, none⟩ (.int .i64 0)) = wz at *
        replace z0 : wz.cell? ⟨L8, 0, none⟩ = some (.int .i64 0) := z0
        replace z1 : wz.cell? ⟨L8, 1, none⟩ = some (.int .i64 0) := z1
        exact bodyPost_ret (v := .tuple #[.agg #[.int .i64 0, .int .i64 0], .int .i64 0, .int .i64 8]) (by simp [results, Try.results50, go_sem, z0, z1]) rfl ⟨by rw [HE.out], HBz.out⟩
      · have k2 : ¬ (60 : Int) < (n : Int) := by omega
        by_cases k3 : 60 < m
        · have k4 : (60 : Int) < (m : Int) := by omega
          have HE := Lib.hid (regE_c (win := win) (s := s) h1 h2 (Or.inr k3))
          clear hc1 hc2 hne
          go_enter Try.func50, Try.ntmps50
          go_upto_region 1 with fail
          have hbx := BoxAt.new w 24 #[.int .i64 0, .int .i64 0]
          have hB : Below w.heap.size w (w.alloc (.cells #[.int .i64 0, .int .i64 0] 24)) := (Below.refl _ w).alloc (Nat.le_refl _) _
          have HC1 := Lib.hid (HC10.out.below hB)
          have HC2 := Lib.hid (HC20.out.below hB)
          obtain ⟨L8, hL8⟩ : ∃ z, z = w.heap.size := ⟨_, rfl⟩
          rw [← hL8] at hbx ⊢
          have hl8 : w.heap.size ≤ L8 := by omega
          clear hL8
          have HBB := Lib.hid hbx
          have HB0 := Lib.hid hB
          clear hB hbx
          generalize w.alloc (.cells #[.int .i64 0, .int .i64 0] 24) = wx at *
          have hBq := Below.refl wx.heap.size wx
          go_wp2_with (first
            | (go_at_call 23; (with_reducible refine (HCh1.out _ HC1.out).mono ?_); rintro e w1 ⟨rfl, hx1⟩; replace hBq := below_step hBq hx1; have HC2b := Lib.hid (HC2.out.below hx1))
            | (go_at_call 23; (with_reducible refine (HCh2.out _ HC2b.out).mono ?_); rintro e w2 ⟨rfl, hx2⟩; replace hBq := below_step hBq hx2; have r0 : w2.cell? ⟨L8, 0, none⟩ = some (.int .i64 0) := (box_step HBB.out hBq).cell 0; have r1 : w2.cell? ⟨L8, 1, none⟩ = some (.int .i64 0) := (box_step HBB.out hBq).cell 1; have f0 : w2.frozen? ⟨L8, 0, none⟩ = false := (box_step HBB.out hBq).frozen 0; have f1 : w2.frozen? ⟨L8, 1, none⟩ = false := (box_step HBB.out hBq).frozen 1; have r2 := (box_step HBB.out hBq).lt))
          have HBz := Lib.hid (bbel2 (below_step HB0.out hBq) hl8 (.int .i64 0) (.int .i64 0))
          have hzz := bset2 (a := .int .i64 0) (b := .int .i64 0) (box_step HBB.out hBq)
          have z0 := hzz.cell 0
          have z1 := hzz.cell 1
          generalize ((w2.setCell ⟨L8, 0, none⟩ (.int .i64 0)).setCell ⟨L8, 1, none⟩ (.int .i64 0)) = wz at *
          replace z0 : wz.cell? ⟨L8, 0, none⟩ = some (.int .i64 0) := z0
          replace z1 : wz.cell? ⟨L8, 1, none⟩ = some (.int .i64 0) := z1
          exact bodyPost_ret (v := .tuple #[.agg #[.int .i64 0, .int .i64 0], .int .i64 0, .int .i64 8]) (by simp [results, Try.results50, go_sem, z0, z1]) rfl ⟨by rw [HE.out], HBz.out⟩
        · have k4 : ¬ (60 : Int) < (m : Int) := by omega
          by_cases u1 : win < 0
          · have HE := Lib.hid (regE_d (win := win) (s := s) h1 h2 (fun h => h.elim k1 k3) (by omega))
            clear hc1 hc2 hne
            go_enter Try.func50, Try.ntmps50
            go_upto_region 1 with fail
            have hbx := BoxAt.new w 24 #[.int .i64 0, .int .i64 0]
            have hB : Below w.heap.size w (w.alloc (.cells #[.int .i64 0, .int .i64 0] 24)) := (Below.refl _ w).alloc (Nat.le_refl _) _
            have HC1 := Lib.hid (HC10.out.below hB)
            have HC2 := Lib.hid (HC20.out.below hB)
            obtain ⟨L8, hL8⟩ : ∃ z, z = w.heap.size := ⟨_, rfl⟩
            rw [← hL8] at hbx ⊢
            have hl8 : w.heap.size ≤ L8 := by omega
            clear hL8
            have HBB := Lib.hid hbx
            have HB0 := Lib.hid hB
            clear hB hbx
            generalize w.alloc (.cells #[.int .i64 0, .int .i64 0] 24) = wx at *
            have hBq := Below.refl wx.heap.size wx
            go_wp2_with (first
              | (go_at_call 23; (with_reducible refine (HCh1.out _ HC1.out).mono ?_); rintro e w1 ⟨rfl, hx1⟩; replace hBq := below_step hBq hx1; have HC2b := Lib.hid (HC2.out.below hx1))
              | (go_at_call 23; (with_reducible refine (HCh2.out _ HC2b.out).mono ?_); rintro e w2 ⟨rfl, hx2⟩; replace hBq := below_step hBq hx2; have r0 : w2.cell? ⟨L8, 0, none⟩ = some (.int .i64 0) := (box_step HBB.out hBq).cell 0; have r1 : w2.cell? ⟨L8, 1, none⟩ = some (.int .i64 0) := (box_step HBB.out hBq).cell 1; have f0 : w2.frozen? ⟨L8, 0, none⟩ = false := (box_step HBB.out hBq).frozen 0; have f1 : w2.frozen? ⟨L8, 1, none⟩ = false := (box_step HBB.out hBq).frozen 1; have r2 := (box_step HBB.out hBq).lt))
            have HBz := Lib.hid (bbel2 (below_step HB0.out hBq) hl8 (.int .i64 0) (.int .i64 0))
            have hzz := bset2 (a := .int .i64 0) (b := .int .i64 0) (box_step HBB.out hBq)
            have z0 := hzz.cell 0
            have z1 := hzz.cell 1
            generalize ((w2.setCell ⟨L8, 0, none⟩ (.int .i64 0)).setCell ⟨L8, 1, none⟩ (.int .i64 0)) = wz at *
            replace z0 : wz.cell? ⟨L8, 0, none⟩ = some (.int .i64 0) := z0
            replace z1 : wz.cell? ⟨L8, 1, none⟩ = some (.int .i64 0) := z1
            exact bodyPost_ret (v := .tuple #[.agg #[.int .i64 0, .int .i64 0], .int .i64 0, .int .i64 2]) (by simp [results, Try.results50, go_sem, z0, z1]) rfl ⟨by rw [HE.out], HBz.out⟩
          · by_cases u2 : 2000 < win
            · have HE := Lib.hid (regE_d (win := win) (s := s) h1 h2 (fun h => h.elim k1 k3) (by omega))
              clear hc1 hc2 hne
              go_enter Try.func50, Try.ntmps50
              go_upto_region 1 with fail
              have hbx := BoxAt.new w 24 #[.int .i64 0, .int .i64 0]
              have hB : Below w.heap.size w (w.alloc (.cells #[.int .i64 0, .int .i64 0] 24)) := (Below.refl _ w).alloc (Nat.le_refl _) _
              have HC1 := Lib.hid (HC10.out.below hB)
              have HC2 := Lib.hid (HC20.out.below hB)
              obtain ⟨L8, hL8⟩ : ∃ z, z = w.heap.size := ⟨_, rfl⟩
              rw [← hL8] at hbx ⊢
              have hl8 : w.heap.size ≤ L8 := by omega
              clear hL8
              have HBB := Lib.hid hbx
              have HB0 := Lib.hid hB
              clear hB hbx
              generalize w.alloc (.cells #[.int .i64 0, .int .i64 0] 24) = wx at *
              have hBq := Below.refl wx.heap.size wx
              go_wp2_with (first
                | (go_at_call 23; (with_reducible refine (HCh1.out _ HC1.out).mono ?_); rintro e w1 ⟨rfl, hx1⟩; replace hBq := below_step hBq hx1; have HC2b := Lib.hid (HC2.out.below hx1))
                | (go_at_call 23; (with_reducible refine (HCh2.out _ HC2b.out).mono ?_); rintro e w2 ⟨rfl, hx2⟩; replace hBq := below_step hBq hx2; have r0 : w2.cell? ⟨L8, 0, none⟩ = some (.int .i64 0) := (box_step HBB.out hBq).cell 0; have r1 : w2.cell? ⟨L8, 1, none⟩ = some (.int .i64 0) := (box_step HBB.out hBq).cell 1; have f0 : w2.frozen? ⟨L8, 0, none⟩ = false := (box_step HBB.out hBq).frozen 0; have f1 : w2.frozen? ⟨L8, 1, none⟩ = false := (box_step HBB.out hBq).frozen 1; have r2 := (box_step HBB.out hBq).lt))
              have HBz := Lib.hid (bbel2 (below_step HB0.out hBq) hl8 (.int .i64 0) (.int .i64 0))
              have hzz := bset2 (a := .int .i64 0) (b := .int .i64 0) (box_step HBB.out hBq)
              have z0 := hzz.cell 0
              have z1 := hzz.cell 1
              generalize ((w2.setCell ⟨L8, 0, none⟩ (.int .i64 0)).setCell ⟨L8, 1, none⟩ (.int .i64 0)) = wz at *
              replace z0 : wz.cell? ⟨L8, 0, none⟩ = some (.int .i64 0) := z0
              replace z1 : wz.cell? ⟨L8, 1, none⟩ = some (.int .i64 0) := z1
              exact bodyPost_ret (v := .tuple #[.agg #[.int .i64 0, .int .i64 0], .int .i64 0, .int .i64 2]) (by simp [results, Try.results50, go_sem, z0, z1]) rfl ⟨by rw [HE.out], HBz.out⟩
            · by_cases u3 : s < 0
              · have HE := Lib.hid (regE_d (win := win) (s := s) h1 h2 (fun h => h.elim k1 k3) (by omega))
                clear hc1 hc2 hne
                go_enter Try.func50, Try.ntmps50
                go_upto_region 1 with fail
                have hbx := BoxAt.new w 24 #[.int .i64 0, .int .i64 0]
                have hB : Below w.heap.size w (w.alloc (.cells #[.int .i64 0, .int .i64 0] 24)) := (Below.refl _ w).alloc (Nat.le_refl _) _
                have HC1 := Lib.hid (HC10.out.below hB)
                have HC2 := Lib.hid (HC20.out.below hB)
                obtain ⟨L8, hL8⟩ : ∃ z, z = w.heap.size := ⟨_, rfl⟩
                rw [← hL8] at hbx ⊢
                have hl8 : w.heap.size ≤ L8 := by omega
                clear hL8
                have HBB := Lib.hid hbx
                have HB0 := Lib.hid hB
                clear hB hbx
                generalize w.alloc (.cells #[.int .i64 0, .int .i64 0] 24) = wx at *
                have hBq := Below.refl wx.heap.size wx
                go_wp2_with (first
                  | (go_at_call 23; (with_reducible refine (HCh1.out _ HC1.out).mono ?_); rintro e w1 ⟨rfl, hx1⟩; replace hBq := below_step hBq hx1; have HC2b := Lib.hid (HC2.out.below hx1))
                  | (go_at_call 23; (with_reducible refine (HCh2.out _ HC2b.out).mono ?_); rintro e w2 ⟨rfl, hx2⟩; replace hBq := below_step hBq hx2; have r0 : w2.cell? ⟨L8, 0, none⟩ = some (.int .i64 0) := (box_step HBB.out hBq).cell 0; have r1 : w2.cell? ⟨L8, 1, none⟩ = some (.int .i64 0) := (box_step HBB.out hBq).cell 1; have f0 : w2.frozen? ⟨L8, 0, none⟩ = false := (box_step HBB.out hBq).frozen 0; have f1 : w2.frozen? ⟨L8, 1, none⟩ = false := (box_step HBB.out hBq).frozen 1; have r2 := (box_step HBB.out hBq).lt))
                have HBz := Lib.hid (bbel2 (below_step HB0.out hBq) hl8 (.int .i64 0) (.int .i64 0))
                have hzz := bset2 (a := .int .i64 0) (b := .int .i64 0) (box_step HBB.out hBq)
                have z0 := hzz.cell 0
                have z1 := hzz.cell 1
                generalize ((w2.setCell ⟨L8, 0, none⟩ (.int .i64 0)).setCell ⟨L8, 1, none⟩ (.int .i64 0)) = wz at *
                replace z0 : wz.cell? ⟨L8, 0, none⟩ = some (.int .i64 0) := z0
                replace z1 : wz.cell? ⟨L8, 1, none⟩ = some (.int .i64 0) := z1
                exact bodyPost_ret (v := .tuple #[.agg #[.int .i64 0, .int .i64 0], .int .i64 0, .int .i64 2]) (by simp [results, Try.results50, go_sem, z0, z1]) rfl ⟨by rw [HE.out], HBz.out⟩
              · by_cases u4 : 2000 < s
                · have HE := Lib.hid (regE_d (win := win) (s := s) h1 h2 (fun h => h.elim k1 k3) (by omega))
                  clear hc1 hc2 hne
                  go_enter Try.func50, Try.ntmps50
                  go_upto_region 1 with fail
                  have hbx := BoxAt.new w 24 #[.int .i64 0, .int .i64 0]
                  have hB : Below w.heap.size w (w.alloc (.cells #[.int .i64 0, .int .i64 0] 24)) := (Below.refl _ w).alloc (Nat.le_refl _) _
                  have HC1 := Lib.hid (HC10.out.below hB)
                  have HC2 := Lib.hid (HC20.out.below hB)
                  obtain ⟨L8, hL8⟩ : ∃ z, z = w.heap.size := ⟨_, rfl⟩
                  rw [← hL8] at hbx ⊢
                  have hl8 : w.heap.size ≤ L8 := by omega
                  clear hL8
                  have HBB := Lib.hid hbx
                  have HB0 := Lib.hid hB
                  clear hB hbx
                  generalize w.alloc (.cells #[.int .i64 0, .int .i64 0] 24) = wx at *
                  have hBq := Below.refl wx.heap.size wx
                  go_wp2_with (first
                    | (go_at_call 23; (with_reducible refine (HCh1.out _ HC1.out).mono ?_); rintro e w1 ⟨rfl, hx1⟩; replace hBq := below_step hBq hx1; have HC2b := Lib.hid (HC2.out.below hx1))
                    | (go_at_call 23; (with_reducible refine (HCh2.out _ HC2b.out).mono ?_); rintro e w2 ⟨rfl, hx2⟩; replace hBq := below_step hBq hx2; have r0 : w2.cell? ⟨L8, 0, none⟩ = some (.int .i64 0) := (box_step HBB.out hBq).cell 0; have r1 : w2.cell? ⟨L8, 1, none⟩ = some (.int .i64 0) := (box_step HBB.out hBq).cell 1; have f0 : w2.frozen? ⟨L8, 0, none⟩ = false := (box_step HBB.out hBq).frozen 0; have f1 : w2.frozen? ⟨L8, 1, none⟩ = false := (box_step HBB.out hBq).frozen 1; have r2 := (box_step HBB.out hBq).lt))
                  have HBz := Lib.hid (bbel2 (below_step HB0.out hBq) hl8 (.int .i64 0) (.int .i64 0))
                  have hzz := bset2 (a := .int .i64 0) (b := .int .i64 0) (box_step HBB.out hBq)
                  have z0 := hzz.cell 0
                  have z1 := hzz.cell 1
                  generalize ((w2.setCell ⟨L8, 0, none⟩ (.int .i64 0)).setCell ⟨L8, 1, none⟩ (.int .i64 0)) = wz at *
                  replace z0 : wz.cell? ⟨L8, 0, none⟩ = some (.int .i64 0) := z0
                  replace z1 : wz.cell? ⟨L8, 1, none⟩ = some (.int .i64 0) := z1
                  exact bodyPost_ret (v := .tuple #[.agg #[.int .i64 0, .int .i64 0], .int .i64 0, .int .i64 2]) (by simp [results, Try.results50, go_sem, z0, z1]) rfl ⟨by rw [HE.out], HBz.out⟩
                · exact absurd (regE_e h1 h2 (fun h => h.elim k1 k3) ⟨by omega, by omega, by omega, by omega⟩) hne
    · rw [h1] at HCh1
      have hE2 := regE_b (win := win) (s := s) h1 h2
      obtain ⟨z, hz⟩ : ∃ z, z = chkF m X' Y' V' := ⟨_, rfl⟩
      rw [← hz] at HCh2 h2 hE2
      clear hz h1
      have HE := Lib.hid (hE2)
      clear hc1 hc2 hne
      go_enter Try.func50, Try.ntmps50
      go_upto_region 1 with fail
      have hbx := BoxAt.new w 24 #[.int .i64 0, .int .i64 0]
      have hB : Below w.heap.size w (w.alloc (.cells #[.int .i64 0, .int .i64 0] 24)) := (Below.refl _ w).alloc (Nat.le_refl _) _
      have HC1 := Lib.hid (HC10.out.below hB)
      have HC2 := Lib.hid (HC20.out.below hB)
      obtain ⟨L8, hL8⟩ : ∃ z, z = w.heap.size := ⟨_, rfl⟩
      rw [← hL8] at hbx ⊢
      have hl8 : w.heap.size ≤ L8 := by omega
      clear hL8
      have HBB := Lib.hid hbx
      have HB0 := Lib.hid hB
      clear hB hbx
      generalize w.alloc (.cells #[.int .i64 0, .int .i64 0] 24) = wx at *
      have hBq := Below.refl wx.heap.size wx
      go_wp2_with (first
        | (go_at_call 23; (with_reducible refine (HCh1.out _ HC1.out).mono ?_); rintro e w1 ⟨rfl, hx1⟩; replace hBq := below_step hBq hx1; have HC2b := Lib.hid (HC2.out.below hx1))
        | (go_at_call 23; (with_reducible refine (HCh2.out _ HC2b.out).mono ?_); rintro e w2 ⟨rfl, hx2⟩; replace hBq := below_step hBq hx2; have r0 : w2.cell? ⟨L8, 0, none⟩ = some (.int .i64 0) := (box_step HBB.out hBq).cell 0; have r1 : w2.cell? ⟨L8, 1, none⟩ = some (.int .i64 0) := (box_step HBB.out hBq).cell 1; have f0 : w2.frozen? ⟨L8, 0, none⟩ = false := (box_step HBB.out hBq).frozen 0; have f1 : w2.frozen? ⟨L8, 1, none⟩ = false := (box_step HBB.out hBq).frozen 1; have r2 := (box_step HBB.out hBq).lt))
      have HBz := Lib.hid (bbel2 (below_step HB0.out hBq) hl8 (.int .i64 0) (.int .i64 0))
      have hzz := bset2 (a := .int .i64 0) (b := .int .i64 0) (box_step HBB.out hBq)
      have z0 := hzz.cell 0
      have z1 := hzz.cell 1
      generalize ((w2.setCell ⟨L8, 0, none⟩ (.int .i64 0)).setCell ⟨L8, 1, none⟩ (.int .i64 0)) = wz at *
      replace z0 : wz.cell? ⟨L8, 0, none⟩ = some (.int .i64 0) := z0
      replace z1 : wz.cell? ⟨L8, 1, none⟩ = some (.int .i64 0) := z1
      exact bodyPost_ret (v := .tuple #[.agg #[.int .i64 0, .int .i64 0], .int .i64 0, .int .i64 z]) (by simp [results, Try.results50, go_sem, z0, z1]) rfl ⟨by rw [HE.out], HBz.out⟩
  · have hE2 := regE_a (m := m) (X' := X') (Y' := Y') (V' := V') (win := win) (s := s) h1
    obtain ⟨z, hz⟩ : ∃ z, z = chkF n X Y V := ⟨_, rfl⟩
    rw [← hz] at HCh1 h1 hE2
    clear hz
    have HE := Lib.hid (hE2)
    clear hc1 hc2 hne
    go_enter Try.func50, Try.ntmps50
    go_upto_region 1 with fail
    have hbx := BoxAt.new w 24 #[.int .i64 0, .int .i64 0]
    have hB : Below w.heap.size w (w.alloc (.cells #[.int .i64 0, .int .i64 0] 24)) := (Below.refl _ w).alloc (Nat.le_refl _) _
    have HC1 := Lib.hid (HC10.out.below hB)
    have HC2 := Lib.hid (HC20.out.below hB)
    obtain ⟨L8, hL8⟩ : ∃ z, z = w.heap.size := ⟨_, rfl⟩
    rw [← hL8] at hbx ⊢
    have hl8 : w.heap.size ≤ L8 := by omega
    clear hL8
    have HBB := Lib.hid hbx
    have HB0 := Lib.hid hB
    clear hB hbx
    generalize w.alloc (.cells #[.int .i64 0, .int .i64 0] 24) = wx at *
    have hBq := Below.refl wx.heap.size wx
    go_wp2_with (first
      | (go_at_call 23; (with_reducible refine (HCh1.out _ HC1.out).mono ?_); rintro e w1 ⟨rfl, hx1⟩; replace hBq := below_step hBq hx1; have r0 : w1.cell? ⟨L8, 0, none⟩ = some (.int .i64 0) := (box_step HBB.out hBq).cell 0; have r1 : w1.cell? ⟨L8, 1, none⟩ = some (.int .i64 0) := (box_step HBB.out hBq).cell 1; have f0 : w1.frozen? ⟨L8, 0, none⟩ = false := (box_step HBB.out hBq).frozen 0; have f1 : w1.frozen? ⟨L8, 1, none⟩ = false := (box_step HBB.out hBq).frozen 1; have r2 := (box_step HBB.out hBq).lt))
    have HBz := Lib.hid (bbel2 (below_step HB0.out hBq) hl8 (.int .i64 0) (.int .i64 0))
    have hzz := bset2 (a := .int .i64 0) (b := .int .i64 0) (box_step HBB.out hBq)
    have z0 := hzz.cell 0
    have z1 := hzz.cell 1
    generalize ((w1.setCell ⟨L8, 0, none⟩ (.int .i64 0)).setCell ⟨L8, 1, none⟩ (.int .i64 0)) = wz at *
    replace z0 : wz.cell? ⟨L8, 0, none⟩ = some (.int .i64 0) := z0
    replace z1 : wz.cell? ⟨L8, 1, none⟩ = some (.int .i64 0) := z1
    exact bodyPost_ret (v := .tuple #[.agg #[.int .i64 0, .int .i64 0], .int .i64 0, .int .i64 z]) (by simp [results, Try.results50, go_sem, z0, z1]) rfl ⟨by rw [HE.out], HBz.out⟩
end Go.Proofs.Ytaehfildhmljeaa
