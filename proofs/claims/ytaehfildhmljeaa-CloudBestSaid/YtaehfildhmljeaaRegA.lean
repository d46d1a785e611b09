/- Register of any clouds: the program's and the reference's. -/
import Derived.Test.YtaehfildhmljeaaRegG
namespace Go.Proofs.Ytaehfildhmljeaa
open Go.RowKit Go.Shelf

set_option maxRecDepth 100000 in
set_option maxHeartbeats 4000000 in
theorem register_bad (A : Option Addr) (n c1 : Nat) (X Y V : Nat → Int) (B : Option Addr) (m c2 : Nat) (X' Y' V' : Nat → Int) (win s : Int) (w : World) (hc1 : Cloud w A n X Y V) (hc2 : Cloud w B m X' Y' V') (hne : regE n X Y V m X' Y' V' win s ≠ 0) :
    Calls Try.prog 49 #[.slice A n c1, .slice B m c2, .int .i64 win, .int .i64 s] w fun e w' => e = .returned (.tuple #[sp 0 0, .int .i64 0, .int .i64 (regE n X Y V m X' Y' V' win s)]) ∧ Below w.heap.size w w' := by
  have HF := Lib.hid (Fst.new w A n c1 B m c2 s)
  have hB0 : Below w.heap.size w ((((w.alloc (.cells #[.slice A n c1] 22)).alloc (.cells #[.slice B m c2] 22)).alloc (.cells #[.int .i64 s] 2)).alloc (.cells #[.int .i64 0, .int .i64 0] 24)) := ((((Below.refl _ w).alloc (Nat.le_refl _) _).alloc (by simp) _).alloc (by simp; omega) _).alloc (by simp; omega) _
  have HK := Lib.hid (ckreg_any A n c1 X Y V B m c2 X' Y' V' win s _ (hc1.below hB0) (hc2.below hB0))
  have hS0 : ((((w.alloc (.cells #[.slice A n c1] 22)).alloc (.cells #[.slice B m c2] 22)).alloc (.cells #[.int .i64 s] 2)).alloc (.cells #[.int .i64 0, .int .i64 0] 24)).heap.size = w.heap.size + 4 := by simp
  have HB0 := Lib.hid hB0
  have HS0 := Lib.hid hS0
  obtain ⟨r, hr⟩ : ∃ r, r = regE n X Y V m X' Y' V' win s := ⟨_, rfl⟩
  rw [← hr] at HK hne ⊢
  have hrb : (r == 0) = false := by simp [hne]
  have hrn : (r != 0) = true := by simp [hne]
  clear hc1 hc2 hB0 hS0 hr
  go_enter Try.func49, Try.ntmps49
  go_upto_region 1 with fail
  obtain ⟨z, hz⟩ : ∃ z, z = w.heap.size := ⟨_, rfl⟩
  rw [show w.heap.size + 1 + 1 + 1 = w.heap.size + 3 from rfl, show w.heap.size + 1 + 1 = w.heap.size + 2 from rfl]
  rw [← hz] at HF HS0 ⊢
  have HZ := Lib.hid hz
  clear hz
  generalize ((((w.alloc (.cells #[.slice A n c1] 22)).alloc (.cells #[.slice B m c2] 22)).alloc (.cells #[.int .i64 s] 2)).alloc (.cells #[.int .i64 0, .int .i64 0] 24)) = wa at *
  have k4 : wa.cell? ⟨z, 0, none⟩ = some (.slice A n c1) := HF.out.a.cell 0
  have k5 : wa.cell? ⟨z + 1, 0, none⟩ = some (.slice B m c2) := HF.out.b.cell 0
  have k7 : wa.cell? ⟨z + 2, 0, none⟩ = some (.int .i64 s) := HF.out.s.cell 0
  have HLL := Lib.hid (show z + 3 < wa.heap.size by have := HS0.out; omega)
  go_upto_region 2 with (go_at_call 94; (with_reducible refine HK.out.mono ?_); rintro e wb ⟨rfl, hb1⟩)
  have hr1 := (HF.out.below hb1 HLL.out).r
  have HBb := Lib.hid (below_step HB0.out hb1)
  have r0 : wb.cell? ⟨z + 3, 0, none⟩ = some (.int .i64 0) := hr1.cell 0
  have r1 : wb.cell? ⟨z + 3, 1, none⟩ = some (.int .i64 0) := hr1.cell 1
  have v0 : wb.frozen? ⟨z + 3, 0, none⟩ = false := hr1.frozen 0
  have v1 : wb.frozen? ⟨z + 3, 1, none⟩ = false := hr1.frozen 1
  have lr := hr1.lt
  have HBz := Lib.hid (bbel2 HBb.out (by have := HZ.out; omega : w.heap.size ≤ z + 3) (.int .i64 0) (.int .i64 0))
  have HR := Lib.hid (bset2 (a := .int .i64 0) (b := .int .i64 0) hr1)
  clear hb1 hr1 k4 k5 k7 HF HK
  go_wp2
  have z0 := HR.out.cell 0
  have z1 := HR.out.cell 1
  generalize ((wb.setCell ⟨z + 3, 0, none⟩ (.int .i64 0)).setCell ⟨z + 3, 1, none⟩ (.int .i64 0)) = wz at *
  replace z0 : wz.cell? ⟨z + 3, 0, none⟩ = some (.int .i64 0) := z0
  replace z1 : wz.cell? ⟨z + 3, 1, none⟩ = some (.int .i64 0) := z1
  exact bodyPost_ret (v := .tuple #[.agg #[.int .i64 0, .int .i64 0], .int .i64 0, .int .i64 r]) (by simp [results, Try.results49, go_sem, z0, z1]) rfl ⟨rfl, HBz.out⟩

/-- What Register answers. -/
def rgV (n : Nat) (X Y V : Nat → Int) (m : Nat) (X' Y' V' : Nat → Int) (win s : Int) : Pt × Nat := if regE n X Y V m X' Y' V' win s = 0 then regI n X Y m X' Y' win s n else ((0, 0), 0)
theorem regE_zero {n : Nat} {X Y V : Nat → Int} {m : Nat} {X' Y' V' : Nat → Int} {win s : Int} (h : regE n X Y V m X' Y' V' win s = 0) :
    chkF n X Y V = 0 ∧ chkF m X' Y' V' = 0 ∧ n ≤ 60 ∧ m ≤ 60 ∧ 0 ≤ win ∧ win ≤ 2000 ∧ 0 ≤ s ∧ s ≤ 2000 := by
  by_cases h1 : chkF n X Y V = 0
  · by_cases h2 : chkF m X' Y' V' = 0
    · by_cases h3 : 60 < n ∨ 60 < m
      · rw [regE_c h1 h2 h3] at h; cases h
      · by_cases h4 : 0 ≤ win ∧ win ≤ 2000 ∧ 0 ≤ s ∧ s ≤ 2000
        · exact ⟨h1, h2, by omega, by omega, h4⟩
        · rw [regE_d h1 h2 h3 h4] at h; cases h
    · rw [regE_b h1 h2] at h; exact absurd h h2
  · rw [regE_a h1] at h; exact absurd h h1
theorem register_any (A : Option Addr) (n c1 : Nat) (X Y V : Nat → Int) (B : Option Addr) (m c2 : Nat) (X' Y' V' : Nat → Int) (win s : Int) (w : World) (hc1 : Cloud w A n X Y V) (hc2 : Cloud w B m X' Y' V') :
    Calls Try.prog 49 #[.slice A n c1, .slice B m c2, .int .i64 win, .int .i64 s] w (RegPost (rgV n X Y V m X' Y' V' win s).1 (rgV n X Y V m X' Y' V' win s).2 (regE n X Y V m X' Y' V' win s) w) := by
  by_cases h : regE n X Y V m X' Y' V' win s = 0
  · obtain ⟨h1, h2, h3, h4, h5, h6, h7, h8⟩ := regE_zero h
    have := register_good A n c1 X Y V B m c2 X' Y' V' win s h1 h2 h3 h4 h5 h6 h7 h8 w hc1 hc2
    unfold rgV
    rw [if_pos h, h]
    exact this
  · have := register_bad A n c1 X Y V B m c2 X' Y' V' win s w hc1 hc2 h
    unfold rgV
    rw [if_neg h]
    exact this
theorem rregister_any (A : Option Addr) (n c1 : Nat) (X Y V : Nat → Int) (B : Option Addr) (m c2 : Nat) (X' Y' V' : Nat → Int) (win s : Int) (w : World) (hc1 : Cloud w A n X Y V) (hc2 : Cloud w B m X' Y' V') :
    Calls Try.prog 50 #[.slice A n c1, .slice B m c2, .int .i64 win, .int .i64 s] w (RegPost (rgV n X Y V m X' Y' V' win s).1 (rgV n X Y V m X' Y' V' win s).2 (regE n X Y V m X' Y' V' win s) w) := by
  by_cases h : regE n X Y V m X' Y' V' win s = 0
  · obtain ⟨h1, h2, h3, h4, h5, h6, h7, h8⟩ := regE_zero h
    have := rregister_good A n c1 X Y V B m c2 X' Y' V' win s h1 h2 h3 h4 h5 h6 h7 h8 w hc1 hc2
    unfold rgV
    rw [if_pos h, h]
    exact this
  · have := rregister_bad A n c1 X Y V B m c2 X' Y' V' win s w hc1 hc2 h
    unfold rgV
    rw [if_neg h]
    exact this
end Go.Proofs.Ytaehfildhmljeaa
