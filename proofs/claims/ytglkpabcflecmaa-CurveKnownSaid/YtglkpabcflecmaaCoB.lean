/- 'meets', a search by halves, 'least' and 'common'. -/
import Derived.Test.YtglkpabcflecmaaCoA
namespace Go.Proofs.Ytglkpabcflecmaa
open Go.RowKit Go.Shelf

theorem cor_cells {W : World} {g : Nat} {A : Cor} (h : BoxAt W g 101 (corC A)) : W.cell? ⟨g, 0, none⟩ = some (.int .i64 A.x) ∧ W.cell? ⟨g, 1, none⟩ = some (.int .i64 A.y) ∧ W.cell? ⟨g, 2, none⟩ = some (.int .i64 A.p) ∧ W.cell? ⟨g, 3, none⟩ = some (.int .i64 A.q) ∧ W.cell? ⟨g, 4, none⟩ = some (.int .i64 A.l) ∧ W.cell? ⟨g, 5, none⟩ = some (.int .i64 A.s) ∧ W.cell? ⟨g, 6, none⟩ = some (.int .i64 A.h) ∧ W.cell? ⟨g, 7, none⟩ = some (.int .i64 A.p) ∧ W.cell? ⟨g, 8, none⟩ = some (.int .i64 A.q) ∧ W.cell? ⟨g, 9, none⟩ = some (.int .i64 (-A.q)) ∧ W.cell? ⟨g, 10, none⟩ = some (.int .i64 A.p) ∧ W.cell? ⟨g, 11, none⟩ = some (.int .i64 A.a) ∧ W.cell? ⟨g, 12, none⟩ = some (.int .i64 (-A.h)) ∧ W.cell? ⟨g, 13, none⟩ = some (.int .i64 A.b) ∧ W.cell? ⟨g, 14, none⟩ = some (.int .i64 A.h) :=
  ⟨h.cell 0, h.cell 1, h.cell 2, h.cell 3, h.cell 4, h.cell 5, h.cell 6, h.cell 7, h.cell 8, h.cell 9, h.cell 10, h.cell 11, h.cell 12, h.cell 13, h.cell 14⟩

set_option maxRecDepth 100000 in
set_option maxHeartbeats 8000000 in
theorem meets_any (A B : Cor) (hA : A.Ok) (hB : B.Ok) (w : World) :
    Calls Try.prog 82 #[corV A, corV B] w fun e w' => e = .returned (.bool (A.meetB B)) ∧ Below w.heap.size w w' := by
  obtain ⟨b1, b2, hB0⟩ := cor_boxes w A B
  obtain ⟨f, hf⟩ : ∃ f, f = A.farB B := ⟨_, rfl⟩
  obtain ⟨s, hs⟩ : ∃ s, s = A.sepB B := ⟨_, rfl⟩
  obtain ⟨t, ht⟩ : ∃ s, s = B.sepB A := ⟨_, rfl⟩
  have HFar := Lib.hid (fun W => far_any A B hA hB W)
  rw [← hf] at HFar
  have hm : A.meetB B = (!f && (!s && !t)) := by rw [hf, hs, ht]; rfl
  rw [hm]
  cases f with
  | true =>
    clear hm hf hs ht
    go_enter Try.func82, Try.ntmps82
    go_upto_region 1 with fail
    generalize (w.alloc (.cells (corC A) 101)).alloc (.cells (corC B) 101) = w0 at *
    obtain ⟨c0, c1, c2, c3, c4, c5, c6, c7, c8, c9, c10, c11, c12, c13, c14⟩ := cor_cells (b1)
    obtain ⟨d0, d1, d2, d3, d4, d5, d6, d7, d8, d9, d10, d11, d12, d13, d14⟩ := cor_cells (b2)
    go_wp2_with (go_at_call 91; (with_reducible refine (HFar.out _).mono ?_); rintro e w1 ⟨rfl, hb1⟩)
    go_ret
    exact ⟨by simp, below_step hB0 hb1⟩
  | false =>
    have HS1 := Lib.hid (fun W => sep_any A B hA hB hf.symm W)
    have HS2 := Lib.hid (fun W => sep_any B A hB hA ((Cor.far_sym B A).trans hf.symm) W)
    rw [← hs] at HS1
    rw [← ht] at HS2
    clear hm hf hs ht
    go_enter Try.func82, Try.ntmps82
    go_upto_region 1 with fail
    generalize (w.alloc (.cells (corC A) 101)).alloc (.cells (corC B) 101) = w0 at *
    obtain ⟨c0, c1, c2, c3, c4, c5, c6, c7, c8, c9, c10, c11, c12, c13, c14⟩ := cor_cells (b1)
    obtain ⟨d0, d1, d2, d3, d4, d5, d6, d7, d8, d9, d10, d11, d12, d13, d14⟩ := cor_cells (b2)
    go_upto_region 3 with (go_at_call 91; (with_reducible refine (HFar.out _).mono ?_); rintro e w1 ⟨rfl, hb1⟩)
    clear c0 d0 c1 d1 c2 d2 c3 d3 c4 d4 c5 d5 c6 d6 c7 d7 c8 d8 c9 d9 c10 d10 c11 d11 c12 d12 c13 d13 c14 d14
    obtain ⟨c0, c1, c2, c3, c4, c5, c6, c7, c8, c9, c10, c11, c12, c13, c14⟩ := cor_cells (box_step b1 hb1)
    obtain ⟨d0, d1, d2, d3, d4, d5, d6, d7, d8, d9, d10, d11, d12, d13, d14⟩ := cor_cells (box_step b2 hb1)
    cases s with
    | true =>
      go_wp2_with (go_at_call 92; (with_reducible refine (HS1.out _).mono ?_); rintro e w2 ⟨rfl, hb2⟩)
      go_ret
      exact ⟨by simp, below_step (below_step hB0 hb1) hb2⟩
    | false =>
      have HC : Hid (∀ w2, Below w1.heap.size w1 w2 → BoxAt w2 w.heap.size 101 (corC A) ∧ BoxAt w2 (w.heap.size + 1) 101 (corC B)) := Lib.hid (fun w2 hb2 => ⟨box_step (box_step b1 hb1) hb2, box_step (box_step b2 hb1) hb2⟩)
      go_wp2_with (first
        | (go_at_call 92; (with_reducible refine (HS1.out _).mono ?_); rintro e w2 ⟨rfl, hb2⟩; obtain ⟨u1, u2⟩ := HC.out _ hb2; obtain ⟨x0, x1, x2, x3, x4, x5, x6, x7, x8, x9, x10, x11, x12, x13, x14⟩ := cor_cells u1; obtain ⟨y0, y1, y2, y3, y4, y5, y6, y7, y8, y9, y10, y11, y12, y13, y14⟩ := cor_cells u2)
        | (go_at_call 92; (with_reducible refine (HS2.out _).mono ?_); rintro e w3 ⟨rfl, hb3⟩))
      go_ret
      exact ⟨by simp, below_step (below_step (below_step hB0 hb1) hb2) hb3⟩
end Go.Proofs.Ytglkpabcflecmaa
namespace Go.Proofs.Ytglkpabcflecmaa
open Go.RowKit Go.Shelf

/-- The search between i and j, with so many rounds at most. -/
def srchF (p : Nat → Bool) : Nat → Nat → Nat → Nat
  | 0, i, _ => i
  | f + 1, i, j => if i < j then (if p ((i + j) / 2) then srchF p f i ((i + j) / 2) else srchF p f ((i + j) / 2 + 1) j) else i
theorem srchF_fuel (p : Nat → Bool) : ∀ (f g i j : Nat), j - i ≤ f → j - i ≤ g → srchF p f i j = srchF p g i j := by
  intro f
  induction f with
  | zero =>
    intro g i j h1 h2
    cases g with
    | zero => rfl
    | succ g =>
      show i = _
      unfold srchF
      rw [if_neg (by omega)]
  | succ f ih =>
    intro g i j h1 h2
    cases g with
    | zero =>
      show _ = i
      unfold srchF
      rw [if_neg (by omega)]
    | succ g =>
      unfold srchF
      by_cases h : i < j
      · rw [if_pos h, if_pos h]
        split
        · exact ih g _ _ (by omega) (by omega)
        · exact ih g _ _ (by omega) (by omega)
      · rw [if_neg h, if_neg h]
/-- The search between i and j. -/
def srch (p : Nat → Bool) (i j : Nat) : Nat := srchF p (j - i) i j
theorem srch_yes {p : Nat → Bool} {i j : Nat} (h : i < j) (hp : p ((i + j) / 2) = true) : srch p i j = srch p i ((i + j) / 2) := by
  unfold srch
  obtain ⟨f, hf⟩ : ∃ f, j - i = f + 1 := ⟨j - i - 1, by omega⟩
  rw [hf]
  show (if i < j then (if p ((i + j) / 2) then srchF p f i ((i + j) / 2) else srchF p f ((i + j) / 2 + 1) j) else i) = _
  rw [if_pos h, if_pos hp]
  exact srchF_fuel p _ _ _ _ (by omega) (by omega)
theorem srch_no {p : Nat → Bool} {i j : Nat} (h : i < j) (hp : p ((i + j) / 2) = false) : srch p i j = srch p ((i + j) / 2 + 1) j := by
  unfold srch
  obtain ⟨f, hf⟩ : ∃ f, j - i = f + 1 := ⟨j - i - 1, by omega⟩
  rw [hf]
  show (if i < j then (if p ((i + j) / 2) then srchF p f i ((i + j) / 2) else srchF p f ((i + j) / 2 + 1) j) else i) = _
  rw [if_pos h, if_neg (by simp [hp])]
  exact srchF_fuel p _ _ _ _ (by omega) (by omega)
theorem srch_end {p : Nat → Bool} {i j : Nat} (h : j ≤ i) : srch p i j = i := by
  unfold srch
  rw [show j - i = 0 by omega]
  rfl
theorem srch_bd (p : Nat → Bool) : ∀ (f i j : Nat), j - i ≤ f → i ≤ j → i ≤ srch p i j ∧ srch p i j ≤ j := by
  intro f
  induction f with
  | zero => intro i j h1 h2; rw [srch_end (by omega)]; omega
  | succ f ih =>
    intro i j h1 h2
    by_cases h : i < j
    · cases hp : p ((i + j) / 2) with
      | true => rw [srch_yes h hp]; have := ih i ((i + j) / 2) (by omega) (by omega); omega
      | false => rw [srch_no h hp]; have := ih ((i + j) / 2 + 1) j (by omega) (by omega); omega
    · rw [srch_end (by omega)]; omega

set_option maxRecDepth 100000 in
set_option maxHeartbeats 8000000 in
/-- **sort.Search**, over a function that captures one variable. -/
theorem search_any (p : Nat → Bool) (n L : Nat) (hn : n ≤ 1048576) (w : World)
    (HP : ∀ k, k < n → ∀ W, Below w.heap.size w W → Calls Try.prog 100 #[.int .i64 k, .pointer (some ⟨L, 0, none⟩)] W fun e w' => e = .returned (.bool (p k)) ∧ Below W.heap.size W w') :
    Calls Try.prog 99 #[.int .i64 n, .func (.func 100) #[] #[.pointer (some ⟨L, 0, none⟩)]] w fun e w' => e = .returned (.int .i64 (srch p 0 n)) ∧ Below w.heap.size w w' := by
  have HPP := Lib.hid HP
  clear HP
  have I : ∃ i j : Nat, i ≤ j ∧ j ≤ n ∧ (Value.int .i64 0) = .int .i64 i ∧ (Value.int .i64 n) = .int .i64 j ∧ Hid (srch p i j = srch p 0 n) ∧ Hid (Below w.heap.size w w) := ⟨0, n, by omega, by omega, rfl, rfl, Lib.hid rfl, Lib.hid (Below.refl _ _)⟩
  go_enter Try.func99, Try.ntmps99
  go_wp2
  go_loopw [5, 6] (fun iv jv wr => ∃ i j : Nat, i ≤ j ∧ j ≤ n ∧ iv = .int .i64 i ∧ jv = .int .i64 j ∧ Hid (srch p i j = srch p 0 n) ∧ Hid (Below w.heap.size w wr)) (fun iv jv _ => (intOf jv).toNat - (intOf iv).toNat)
  case atStart => exact I
  case round =>
    clear I
    obtain ⟨i, j, hij, hjn, rfl, rfl, HS, HB⟩ := hrel
    by_cases h : i < j
    · have h' : (i : Int) < (j : Int) := by omega
      obtain ⟨m, hm⟩ : ∃ m, m = (i + j) / 2 := ⟨_, rfl⟩
      have hmi : ((i : Int) + (j : Int)) / 2 = (m : Int) := by omega
      have hmj : m < j := by omega
      have him : i ≤ m := by omega
      obtain ⟨t, ht⟩ : ∃ t, t = p m := ⟨_, rfl⟩
      have HC := Lib.hid (HPP.out m (by omega) wr HB.out)
      rw [← ht] at HC
      have HR : Hid ((t = true → srch p i m = srch p 0 n) ∧ (t = false → srch p (m + 1) j = srch p 0 n)) := by
        refine ⟨fun h1 => ?_, fun h1 => ?_⟩
        · rw [← HS.out, srch_yes h (by rw [← hm, ← ht, h1]), hm]
        · rw [← HS.out, srch_no h (by rw [← hm, ← ht, h1]), hm]
      clear hm ht HPP HS
      go_upto_region 4 with fail
      clear hmi
      cases t with
      | true =>
        have HR1 := Lib.hid (HR.out.1 rfl)
        clear HR
        go_wp2_with (go_at_call 100; (with_reducible refine HC.out.mono ?_); rintro e w1 ⟨rfl, hb1⟩)
        go_roundw
        case rel => exact ⟨i, m, by omega, by omega, rfl, rfl, HR1, Lib.hid (below_step HB.out hb1)⟩
        case measure => simp [intOf]; omega
      | false =>
        have HR1 := Lib.hid (HR.out.2 rfl)
        clear HR
        go_wp2_with (go_at_call 100; (with_reducible refine HC.out.mono ?_); rintro e w1 ⟨rfl, hb1⟩)
        go_roundw
        case rel => exact ⟨m + 1, j, by omega, by omega, by go_num, rfl, HR1, Lib.hid (below_step HB.out hb1)⟩
        case measure => simp [intOf]; omega
    · have h' : ¬ (i : Int) < (j : Int) := by omega
      have hs : srch p 0 n = i := by rw [← HS.out]; exact srch_end (by omega)
      go_wp2
      go_ret
      exact ⟨by simp, HB.out⟩
end Go.Proofs.Ytglkpabcflecmaa
namespace Go.Proofs.Ytglkpabcflecmaa
open Go.RowKit Go.Shelf

set_option maxRecDepth 100000 in
set_option maxHeartbeats 8000000 in
theorem cut1_any (A B : Cor) (hA : A.Ok) (hB : B.Ok) (La Lb : Nat) (k : Int) (k0 : 0 ≤ k) (k1 : k ≤ A.l) (w : World) (b1 : BoxAt w La 101 (corC A)) (b2 : BoxAt w Lb 101 (corC B)) :
    Calls Try.prog 94 #[.int .i64 k, .pointer (some ⟨La, 0, none⟩), .pointer (some ⟨Lb, 0, none⟩)] w fun e w' => e = .returned (.bool ((A.cut 0 k).meetB B)) ∧ Below w.heap.size w w' := by
  have e1 := b1.lt
  have e2 := b2.lt
  obtain ⟨c0, c1, c2, c3, c4, c5, c6, c7, c8, c9, c10, c11, c12, c13, c14⟩ := cor_cells b1
  obtain ⟨d0, d1, d2, d3, d4, d5, d6, d7, d8, d9, d10, d11, d12, d13, d14⟩ := cor_cells b2
  have HC := Lib.hid (fun W => cut_any A 0 k W)
  have hl := hA.l0
  have hl1 := hA.l1
  have HM := Lib.hid (fun W => meets_any (A.cut 0 k) B (hA.cut (by omega) (by omega) (by omega) (by omega)) hB W)
  
  clear hA hB b1 b2
  go_enter Try.func94, Try.ntmps94
  have hBx : Below w.heap.size w w.drew := (Below.refl _ _).drew
  go_upto_region 1 with fail
  go_region_held3 (fun w' => w'.cell? ⟨La, 0, none⟩ = some (.int .i64 A.x) ∧ w'.cell? ⟨La, 1, none⟩ = some (.int .i64 A.y) ∧ w'.cell? ⟨La, 2, none⟩ = some (.int .i64 A.p) ∧ w'.cell? ⟨La, 3, none⟩ = some (.int .i64 A.q) ∧ w'.cell? ⟨La, 4, none⟩ = some (.int .i64 A.l) ∧ w'.cell? ⟨La, 5, none⟩ = some (.int .i64 A.s) ∧ w'.cell? ⟨La, 6, none⟩ = some (.int .i64 A.h) ∧ w'.cell? ⟨La, 7, none⟩ = some (.int .i64 A.p) ∧ w'.cell? ⟨La, 8, none⟩ = some (.int .i64 A.q) ∧ w'.cell? ⟨La, 9, none⟩ = some (.int .i64 (-A.q)) ∧ w'.cell? ⟨La, 10, none⟩ = some (.int .i64 A.p) ∧ w'.cell? ⟨La, 11, none⟩ = some (.int .i64 A.a) ∧ w'.cell? ⟨La, 12, none⟩ = some (.int .i64 (-A.h)) ∧ w'.cell? ⟨La, 13, none⟩ = some (.int .i64 A.b) ∧ w'.cell? ⟨La, 14, none⟩ = some (.int .i64 A.h) ∧ w'.cell? ⟨Lb, 0, none⟩ = some (.int .i64 B.x) ∧ w'.cell? ⟨Lb, 1, none⟩ = some (.int .i64 B.y) ∧ w'.cell? ⟨Lb, 2, none⟩ = some (.int .i64 B.p) ∧ w'.cell? ⟨Lb, 3, none⟩ = some (.int .i64 B.q) ∧ w'.cell? ⟨Lb, 4, none⟩ = some (.int .i64 B.l) ∧ w'.cell? ⟨Lb, 5, none⟩ = some (.int .i64 B.s) ∧ w'.cell? ⟨Lb, 6, none⟩ = some (.int .i64 B.h) ∧ w'.cell? ⟨Lb, 7, none⟩ = some (.int .i64 B.p) ∧ w'.cell? ⟨Lb, 8, none⟩ = some (.int .i64 B.q) ∧ w'.cell? ⟨Lb, 9, none⟩ = some (.int .i64 (-B.q)) ∧ w'.cell? ⟨Lb, 10, none⟩ = some (.int .i64 B.p) ∧ w'.cell? ⟨Lb, 11, none⟩ = some (.int .i64 B.a) ∧ w'.cell? ⟨Lb, 12, none⟩ = some (.int .i64 (-B.h)) ∧ w'.cell? ⟨Lb, 13, none⟩ = some (.int .i64 B.b) ∧ w'.cell? ⟨Lb, 14, none⟩ = some (.int .i64 B.h))
    (refine ⟨?_, ?_, ?_, ?_, ?_, ?_, ?_, ?_, ?_, ?_, ?_, ?_, ?_, ?_, ?_, ?_, ?_, ?_, ?_, ?_, ?_, ?_, ?_, ?_, ?_, ?_, ?_, ?_, ?_, ?_⟩ <;> exact (Below.cell hBx (by assumption)).trans (by assumption))
    (first
      | (go_at_call 95; (with_reducible refine (HC.out _).mono ?_); rintro e w7 ⟨rfl, hb7⟩; replace hBx := below_step hBx hb7)
      | (go_at_call 82; (with_reducible refine (HM.out _).mono ?_); rintro e w7 ⟨rfl, hb7⟩; replace hBx := below_step hBx hb7))
  all_goals go_wp2
  all_goals go_ret
  all_goals exact ⟨by simp, hBx⟩

set_option maxRecDepth 100000 in
set_option maxHeartbeats 8000000 in
theorem cut2_any (A B : Cor) (hA : A.Ok) (hB : B.Ok) (La Lb : Nat) (k : Int) (k0 : 0 ≤ k) (k1 : k ≤ A.l) (w : World) (b1 : BoxAt w La 101 (corC A)) (b2 : BoxAt w Lb 101 (corC B)) :
    Calls Try.prog 96 #[.int .i64 k, .pointer (some ⟨La, 0, none⟩), .pointer (some ⟨Lb, 0, none⟩)] w fun e w' => e = .returned (.bool ((A.cut (A.l - k) A.l).meetB B)) ∧ Below w.heap.size w w' := by
  have e1 := b1.lt
  have e2 := b2.lt
  obtain ⟨c0, c1, c2, c3, c4, c5, c6, c7, c8, c9, c10, c11, c12, c13, c14⟩ := cor_cells b1
  obtain ⟨d0, d1, d2, d3, d4, d5, d6, d7, d8, d9, d10, d11, d12, d13, d14⟩ := cor_cells b2
  have HC := Lib.hid (fun W => cut_any A (A.l - k) A.l W)
  have hl := hA.l0
  have hl1 := hA.l1
  have HM := Lib.hid (fun W => meets_any (A.cut (A.l - k) A.l) B (hA.cut (by omega) (by omega) (by omega) (by omega)) hB W)
  have hwr : IntKind.i64.wrap (A.l - k) = A.l - k := IntWalk.i64_in _ (by omega)
  clear hA hB b1 b2
  go_enter Try.func96, Try.ntmps96
  have hBx : Below w.heap.size w w.drew := (Below.refl _ _).drew
  go_upto_region 1 with fail
  go_region_held3 (fun w' => w'.cell? ⟨La, 0, none⟩ = some (.int .i64 A.x) ∧ w'.cell? ⟨La, 1, none⟩ = some (.int .i64 A.y) ∧ w'.cell? ⟨La, 2, none⟩ = some (.int .i64 A.p) ∧ w'.cell? ⟨La, 3, none⟩ = some (.int .i64 A.q) ∧ w'.cell? ⟨La, 4, none⟩ = some (.int .i64 A.l) ∧ w'.cell? ⟨La, 5, none⟩ = some (.int .i64 A.s) ∧ w'.cell? ⟨La, 6, none⟩ = some (.int .i64 A.h) ∧ w'.cell? ⟨La, 7, none⟩ = some (.int .i64 A.p) ∧ w'.cell? ⟨La, 8, none⟩ = some (.int .i64 A.q) ∧ w'.cell? ⟨La, 9, none⟩ = some (.int .i64 (-A.q)) ∧ w'.cell? ⟨La, 10, none⟩ = some (.int .i64 A.p) ∧ w'.cell? ⟨La, 11, none⟩ = some (.int .i64 A.a) ∧ w'.cell? ⟨La, 12, none⟩ = some (.int .i64 (-A.h)) ∧ w'.cell? ⟨La, 13, none⟩ = some (.int .i64 A.b) ∧ w'.cell? ⟨La, 14, none⟩ = some (.int .i64 A.h) ∧ w'.cell? ⟨Lb, 0, none⟩ = some (.int .i64 B.x) ∧ w'.cell? ⟨Lb, 1, none⟩ = some (.int .i64 B.y) ∧ w'.cell? ⟨Lb, 2, none⟩ = some (.int .i64 B.p) ∧ w'.cell? ⟨Lb, 3, none⟩ = some (.int .i64 B.q) ∧ w'.cell? ⟨Lb, 4, none⟩ = some (.int .i64 B.l) ∧ w'.cell? ⟨Lb, 5, none⟩ = some (.int .i64 B.s) ∧ w'.cell? ⟨Lb, 6, none⟩ = some (.int .i64 B.h) ∧ w'.cell? ⟨Lb, 7, none⟩ = some (.int .i64 B.p) ∧ w'.cell? ⟨Lb, 8, none⟩ = some (.int .i64 B.q) ∧ w'.cell? ⟨Lb, 9, none⟩ = some (.int .i64 (-B.q)) ∧ w'.cell? ⟨Lb, 10, none⟩ = some (.int .i64 B.p) ∧ w'.cell? ⟨Lb, 11, none⟩ = some (.int .i64 B.a) ∧ w'.cell? ⟨Lb, 12, none⟩ = some (.int .i64 (-B.h)) ∧ w'.cell? ⟨Lb, 13, none⟩ = some (.int .i64 B.b) ∧ w'.cell? ⟨Lb, 14, none⟩ = some (.int .i64 B.h))
    (refine ⟨?_, ?_, ?_, ?_, ?_, ?_, ?_, ?_, ?_, ?_, ?_, ?_, ?_, ?_, ?_, ?_, ?_, ?_, ?_, ?_, ?_, ?_, ?_, ?_, ?_, ?_, ?_, ?_, ?_, ?_⟩ <;> exact (Below.cell hBx (by assumption)).trans (by assumption))
    (first
      | (go_at_call 95; (with_reducible refine (HC.out _).mono ?_); rintro e w7 ⟨rfl, hb7⟩; replace hBx := below_step hBx hb7)
      | (go_at_call 82; (with_reducible refine (HM.out _).mono ?_); rintro e w7 ⟨rfl, hb7⟩; replace hBx := below_step hBx hb7))
  all_goals go_wp2
  all_goals go_ret
  all_goals exact ⟨by simp, hBx⟩
end Go.Proofs.Ytglkpabcflecmaa
namespace Go.Proofs.Ytglkpabcflecmaa
open Go.RowKit Go.Shelf

set_option maxRecDepth 100000 in
set_option maxHeartbeats 4000000 in
theorem lesc94_any (L La Lb : Nat) (i : Int) (r : Bool) (w : World) (hb : BoxAt w L 93 #[.func (.func 94) #[] #[.pointer (some ⟨La, 0, none⟩), .pointer (some ⟨Lb, 0, none⟩)]])
    (HP : Calls Try.prog 94 #[.int .i64 i, .pointer (some ⟨La, 0, none⟩), .pointer (some ⟨Lb, 0, none⟩)] w fun e w' => e = .returned (.bool r) ∧ Below w.heap.size w w') :
    Calls Try.prog 100 #[.int .i64 i, .pointer (some ⟨L, 0, none⟩)] w fun e w' => e = .returned (.bool r) ∧ Below w.heap.size w w' := by
  have c0 : w.cell? ⟨L, 0, none⟩ = some (.func (.func 94) #[] #[.pointer (some ⟨La, 0, none⟩), .pointer (some ⟨Lb, 0, none⟩)]) := hb.cell 0
  have HQ := Lib.hid HP
  clear HP hb
  go_enter Try.func100, Try.ntmps100
  go_wp2_with (go_at_call 94; (with_reducible refine HQ.out.mono ?_); rintro e w7 ⟨rfl, hb7⟩)
  go_ret
  exact ⟨by simp, hb7⟩

set_option maxRecDepth 100000 in
set_option maxHeartbeats 4000000 in
/-- **least**, over a function that captures two variables. -/
theorem least94_any (p : Nat → Bool) (n La Lb : Nat) (hn : n ≤ 1048576) (w : World)
    (HP : ∀ k, k < n → ∀ W, Below w.heap.size w W → Calls Try.prog 94 #[.int .i64 k, .pointer (some ⟨La, 0, none⟩), .pointer (some ⟨Lb, 0, none⟩)] W fun e w' => e = .returned (.bool (p k)) ∧ Below W.heap.size W w') :
    Calls Try.prog 93 #[.int .i64 n, .func (.func 94) #[] #[.pointer (some ⟨La, 0, none⟩), .pointer (some ⟨Lb, 0, none⟩)]] w fun e w' => e = .returned (.int .i64 (srch p 0 n)) ∧ Below w.heap.size w w' := by
  have hB0 : Below w.heap.size w (w.alloc (.cells #[.func (.func 94) #[] #[.pointer (some ⟨La, 0, none⟩), .pointer (some ⟨Lb, 0, none⟩)]] 93)) := (Below.refl _ w).alloc (Nat.le_refl _) _
  have hb := BoxAt.new w 93 #[.func (.func 94) #[] #[.pointer (some ⟨La, 0, none⟩), .pointer (some ⟨Lb, 0, none⟩)]]
  have HS := Lib.hid (search_any p n w.heap.size hn _ (fun k hk W hW => lesc94_any w.heap.size La Lb k (p k) W (box_step hb hW) (HP k hk W (below_step hB0 hW))))
  have hmf : ∀ fn first cap W, (Instr.makeFunc fn first cap).run Try.prog W = .ok (.func fn first cap) W := fun _ _ _ _ => rfl
  clear HP
  go_enter Try.func93, Try.ntmps93
  go_wp2_with (go_at_call 99; (with_reducible refine HS.out.mono ?_); rintro e w7 ⟨rfl, hb7⟩)
  go_ret
  exact ⟨by simp, below_step hB0 hb7⟩

set_option maxRecDepth 100000 in
set_option maxHeartbeats 4000000 in
theorem lesc96_any (L La Lb : Nat) (i : Int) (r : Bool) (w : World) (hb : BoxAt w L 93 #[.func (.func 96) #[] #[.pointer (some ⟨La, 0, none⟩), .pointer (some ⟨Lb, 0, none⟩)]])
    (HP : Calls Try.prog 96 #[.int .i64 i, .pointer (some ⟨La, 0, none⟩), .pointer (some ⟨Lb, 0, none⟩)] w fun e w' => e = .returned (.bool r) ∧ Below w.heap.size w w') :
    Calls Try.prog 100 #[.int .i64 i, .pointer (some ⟨L, 0, none⟩)] w fun e w' => e = .returned (.bool r) ∧ Below w.heap.size w w' := by
  have c0 : w.cell? ⟨L, 0, none⟩ = some (.func (.func 96) #[] #[.pointer (some ⟨La, 0, none⟩), .pointer (some ⟨Lb, 0, none⟩)]) := hb.cell 0
  have HQ := Lib.hid HP
  clear HP hb
  go_enter Try.func100, Try.ntmps100
  go_wp2_with (go_at_call 96; (with_reducible refine HQ.out.mono ?_); rintro e w7 ⟨rfl, hb7⟩)
  go_ret
  exact ⟨by simp, hb7⟩

set_option maxRecDepth 100000 in
set_option maxHeartbeats 4000000 in
/-- **least**, over a function that captures two variables. -/
theorem least96_any (p : Nat → Bool) (n La Lb : Nat) (hn : n ≤ 1048576) (w : World)
    (HP : ∀ k, k < n → ∀ W, Below w.heap.size w W → Calls Try.prog 96 #[.int .i64 k, .pointer (some ⟨La, 0, none⟩), .pointer (some ⟨Lb, 0, none⟩)] W fun e w' => e = .returned (.bool (p k)) ∧ Below W.heap.size W w') :
    Calls Try.prog 93 #[.int .i64 n, .func (.func 96) #[] #[.pointer (some ⟨La, 0, none⟩), .pointer (some ⟨Lb, 0, none⟩)]] w fun e w' => e = .returned (.int .i64 (srch p 0 n)) ∧ Below w.heap.size w w' := by
  have hB0 : Below w.heap.size w (w.alloc (.cells #[.func (.func 96) #[] #[.pointer (some ⟨La, 0, none⟩), .pointer (some ⟨Lb, 0, none⟩)]] 93)) := (Below.refl _ w).alloc (Nat.le_refl _) _
  have hb := BoxAt.new w 93 #[.func (.func 96) #[] #[.pointer (some ⟨La, 0, none⟩), .pointer (some ⟨Lb, 0, none⟩)]]
  have HS := Lib.hid (search_any p n w.heap.size hn _ (fun k hk W hW => lesc96_any w.heap.size La Lb k (p k) W (box_step hb hW) (HP k hk W (below_step hB0 hW))))
  have hmf : ∀ fn first cap W, (Instr.makeFunc fn first cap).run Try.prog W = .ok (.func fn first cap) W := fun _ _ _ _ => rfl
  clear HP
  go_enter Try.func93, Try.ntmps93
  go_wp2_with (go_at_call 99; (with_reducible refine HS.out.mono ?_); rintro e w7 ⟨rfl, hb7⟩)
  go_ret
  exact ⟨by simp, below_step hB0 hb7⟩
end Go.Proofs.Ytglkpabcflecmaa
namespace Go.Proofs.Ytglkpabcflecmaa
open Go.RowKit Go.Shelf

namespace Cor
/-- What the two searches find. -/
def n (A : Cor) : Nat := A.l.toNat
def fromN (A B : Cor) : Nat := srch (fun k => (A.cut 0 (k : Int)).meetB B) 0 A.n
def cutN (A B : Cor) : Nat := srch (fun k => (A.cut (A.l - (k : Int)) A.l).meetB B) 0 A.n
/-- The offsets that 'common' returns. -/
def cFrom (A B : Cor) : Int := A.s + max 0 ((fromN A B : Int) - 1)
def cTo (A B : Cor) : Int := A.s + min A.l (A.l - (cutN A B : Int) + 1)
theorem n_eq {A : Cor} (h : A.Ok) : (A.n : Int) = A.l := by
  have := h.l0
  unfold n
  omega
theorem fromN_le (A B : Cor) : fromN A B ≤ A.n := (srch_bd _ _ 0 A.n (Nat.le_refl _) (by omega)).2
theorem cutN_le (A B : Cor) : cutN A B ≤ A.n := (srch_bd _ _ 0 A.n (Nat.le_refl _) (by omega)).2
end Cor

set_option maxRecDepth 100000 in
set_option maxHeartbeats 8000000 in
/-- **common.** -/
theorem common_any (A B : Cor) (hA : A.Ok) (hB : B.Ok) (s0 : 0 ≤ A.s) (s1 : A.s ≤ 100000000000000) (w : World) :
    Calls Try.prog 83 #[corV A, corV B] w fun e w' => e = .returned (.tuple #[.int .i64 (A.cFrom B), .int .i64 (A.cTo B)]) ∧ Below w.heap.size w w' := by
  obtain ⟨b1, b2, hB0⟩ := cor_boxes w A B
  obtain ⟨w0, hw0⟩ : ∃ x, x = (w.alloc (.cells (corC A) 101)).alloc (.cells (corC B) 101) := ⟨_, rfl⟩
  rw [← hw0] at b1 b2 hB0
  have hn := Cor.n_eq hA
  have l0 := hA.l0
  have l1 := hA.l1
  have f1 := Cor.fromN_le A B
  have f2 := Cor.cutN_le A B
  have HL1 : Hid (∀ W, Below w0.heap.size w0 W → Calls Try.prog 93 #[.int .i64 A.l, .func (.func 94) #[] #[.pointer (some ⟨w.heap.size, 0, none⟩), .pointer (some ⟨w.heap.size + 1, 0, none⟩)]] W fun e w' => e = .returned (.int .i64 (A.fromN B)) ∧ Below W.heap.size W w') := Lib.hid (fun W hW => by
    have := least94_any (fun k => (A.cut 0 (k : Int)).meetB B) A.n w.heap.size (w.heap.size + 1) (by omega) W (fun k hk W' hW' => cut1_any A B hA hB _ _ k (by omega) (by omega) W' (box_step (box_step b1 hW) hW') (box_step (box_step b2 hW) hW'))
    rw [hn] at this
    exact this)
  have HL2 : Hid (∀ W, Below w0.heap.size w0 W → Calls Try.prog 93 #[.int .i64 A.l, .func (.func 96) #[] #[.pointer (some ⟨w.heap.size, 0, none⟩), .pointer (some ⟨w.heap.size + 1, 0, none⟩)]] W fun e w' => e = .returned (.int .i64 (A.cutN B)) ∧ Below W.heap.size W w') := Lib.hid (fun W hW => by
    have := least96_any (fun k => (A.cut (A.l - (k : Int)) A.l).meetB B) A.n w.heap.size (w.heap.size + 1) (by omega) W (fun k hk W' hW' => cut2_any A B hA hB _ _ k (by omega) (by omega) W' (box_step (box_step b1 hW) hW') (box_step (box_step b2 hW) hW'))
    rw [hn] at this
    exact this)
  have hr1 : A.cFrom B = A.s + max 0 ((A.fromN B : Int) - 1) := rfl
  have hr2 : A.cTo B = A.s + min A.l (A.l - (A.cutN B : Int) + 1) := rfl
  generalize A.fromN B = F at *
  generalize A.cutN B = G at *
  obtain ⟨R1, hR1⟩ : ∃ z, z = A.cFrom B := ⟨_, rfl⟩
  obtain ⟨R2, hR2⟩ : ∃ z, z = A.cTo B := ⟨_, rfl⟩
  rw [← hR1] at hr1 ⊢
  rw [← hR2] at hr2 ⊢
  have w1 : IntKind.i64.wrap (A.s + if (0 : Int) < (F : Int) - 1 then (F : Int) - 1 else 0) = R1 := by rw [if_max, ← hr1]; exact IntWalk.i64_in _ (by omega)
  have w2 : IntKind.i64.wrap (A.s + if A.l - (G : Int) + 1 < A.l then A.l - (G : Int) + 1 else A.l) = R2 := by rw [if_min, ← hr2]; exact IntWalk.i64_in _ (by omega)
  have hmf : ∀ fn first cap W, (Instr.makeFunc fn first cap).run Try.prog W = .ok (.func fn first cap) W := fun _ _ _ _ => rfl
  have HW : Hid (∀ W, Below w0.heap.size w0 W → W.cell? ⟨w.heap.size, 4, none⟩ = some (.int .i64 A.l) ∧ W.cell? ⟨w.heap.size, 5, none⟩ = some (.int .i64 A.s)) := Lib.hid (fun W hW => ⟨(box_step b1 hW).cell 4, (box_step b1 hW).cell 5⟩)
  have c4 : w0.cell? ⟨w.heap.size, 4, none⟩ = some (.int .i64 A.l) := b1.cell 4
  have g1 : (F : Int) ≤ A.l := by omega
  have g2 : (G : Int) ≤ A.l := by omega
  have g3 : (0 : Int) ≤ (F : Int) := by omega
  have g4 : (0 : Int) ≤ (G : Int) := by omega
  have HR1 := Lib.hid hr1
  have HR2 := Lib.hid hr2
  clear hA hB hn hr1 hr2 hR1 hR2 f1 f2 b1 b2
  go_enter Try.func83, Try.ntmps83
  go_upto_region 1 with fail
  rw [← hw0]
  clear hw0
  go_upto_region 2 with (go_at_call 93; (with_reducible refine (HL1.out _ (Below.refl _ _)).mono ?_); rintro e wa ⟨rfl, hba⟩)
  have hBa := below_step hB0 hba
  obtain ⟨c4, c5⟩ := HW.out _ hba
  have HL2b := Lib.hid (HL2.out _ hba)
  clear HL1 HL2
  go_upto_region 3 with (go_at_call 93; (with_reducible refine HL2b.out.mono ?_); rintro e wb ⟨rfl, hbb⟩)
  have hBb := below_step hBa hbb
  obtain ⟨c4, c5⟩ := HW.out _ (below_step hba hbb)
  clear HL2b
  go_upto_region 4 with fail
  go_quiet (fail)
  have hBc : Below w.heap.size w (wb.drewN nq) := below_drewN hBb _
  generalize wb.drewN nq = wc at *
  go_wp2
  all_goals have hr1 := HR1.out
  all_goals have hr2 := HR2.out
  all_goals exact bodyPost_ret (v := .tuple #[.int .i64 R1, .int .i64 R2]) (by simp [results, Try.results83, go_sem] <;> omega) rfl ⟨rfl, hBc⟩
end Go.Proofs.Ytglkpabcflecmaa
