/- Books in memory; CheckBook of a valid book. -/
import Derived.Test.YtnpnfdnaglcnfaaDoorOrdM
import Derived.Test.YtnpnfdnaglcnfaaDoorWat
import Derived.Test.YtnpnfdnaglcnfaaDoorVf
namespace Go.Proofs.YtnpnfdnaglcnfaaDoor
open Go.RowKit Go.Shelf

/-- Laws lie in a slice. -/
def LawsL (w : World) (A : Option Addr) (bs : List (Nat × List Nd)) : Prop := 0 < bs.length → ∃ b off, A = some ⟨b, off, none⟩ ∧ ∀ i p, bs[i]? = some p → w.cell? ⟨b, off + i * 2, none⟩ = some (iv p.1) ∧ ∃ C c, w.cell? ⟨b, off + i * 2 + 1, none⟩ = some (.slice C p.2.length c) ∧ NdsL w C p.2
theorem LawsL.below {w w' : World} {A : Option Addr} {bs : List (Nat × List Nd)} (h : LawsL w A bs) (hb : Below w.heap.size w w') : LawsL w' A bs := fun hn => by
  obtain ⟨b, off, e, hp⟩ := h hn
  refine ⟨b, off, e, fun i p hi => ?_⟩
  obtain ⟨h1, C, c, h2, h3⟩ := hp i p hi
  exact ⟨(hb.cell (p := ⟨b, off + i * 2, none⟩) (World.block_lt_of_cell? w _ h1)).trans h1, C, c, (hb.cell (p := ⟨b, off + i * 2 + 1, none⟩) (World.block_lt_of_cell? w _ h2)).trans h2, h3.below hb⟩
theorem LawsL.at {w : World} {A : Option Addr} {bs : List (Nat × List Nd)} (h : LawsL w A bs) {i : Nat} {p : Nat × List Nd} (hi : bs[i]? = some p) : ∃ b off C c, A = some ⟨b, off, none⟩ ∧ w.cell? ⟨b, off + i * 2, none⟩ = some (iv p.1) ∧ w.cell? ⟨b, off + i * 2 + 1, none⟩ = some (.slice C p.2.length c) ∧ NdsL w C p.2 := by
  obtain ⟨b, off, e, hp⟩ := h (by have := (List.getElem?_eq_some_iff.1 hi).1; omega)
  obtain ⟨h1, C, c, h2, h3⟩ := hp i p hi
  exact ⟨b, off, C, c, e, h1, h2, h3⟩
/-- A book that is valid for the width 2. -/
def BkOk (bs : List (Nat × List Nd)) : Prop := bs.length ≤ 8 ∧ ∀ p ∈ bs, p.1 ≤ 9 ∧ chkE p.2 2 = 0
set_option maxRecDepth 100000 in
set_option maxHeartbeats 4000000 in
theorem book_ok (A : Option Addr) (cap : Nat) (bs : List (Nat × List Nd)) (w : World) (hA : LawsL w A bs) (hb : BkOk bs) :
    Calls Tryd.prog 88 #[.slice A bs.length cap, iv 2] w fun e w' => e = .returned (iv 0) ∧ Below w.heap.size w w' := by
  have HA := Lib.hid hA
  have HK := Lib.hid hb.2
  have hl := hb.1
  obtain ⟨N, hN⟩ : ∃ N, N = bs.length := ⟨_, rfl⟩
  rw [← hN] at hl ⊢
  have HN := Lib.hid hN
  have HW := Lib.hid (fun W => (width_any 2 W).mono (R' := fun e w' => e = .returned (iv 0) ∧ w' = W) fun e w' h => by rw [if_pos (by decide)] at h; exact h)
  have g1 : ¬ (8 : Int) < (N : Int) := by omega
  clear hA hb hN
  go_enter Tryd.func88, Tryd.ntmps88
  go_wp2
  go_loopw [13] (fun i wr => ∃ k : Nat, k ≤ N ∧ i = iv k ∧ Hid (Below w.heap.size w wr)) (fun i _ => N - (intOf i).toNat)
  case atStart => exact ⟨0, Nat.zero_le _, rfl, Lib.hid (Below.refl _ _)⟩
  case round =>
    obtain ⟨k, hk, rfl, HB⟩ := hrel
    have i0 : (0 : Int) ≤ (k : Int) := Int.natCast_nonneg _
    by_cases hlt : k < N
    · have i1 : (k : Int) < (N : Int) := by omega
      obtain ⟨p, hp, _⟩ := drop_at (L := bs) (k := k) (by rw [← HN.out]; exact hlt)
      obtain ⟨b, off, C, c, rfl, c0, c1, hn⟩ := (HA.out.below HB.out).at hp
      have l0 := World.block_lt_of_cell? wr _ c0
      obtain ⟨p1, p2⟩ := HK.out p (List.mem_of_getElem? hp)
      have HC := Lib.hid (fun W (hW : Below wr.heap.size wr W) => check_any C c p.2 2 W (hn.below hW))
      rw [p2] at HC
      have HWi := Lib.hid (fun W => (within_int 0 (p.1 : Int) 9 W).mono (R' := fun e w' => e = .returned (.bool true) ∧ w' = W) fun e w' h => by rw [decide_eq_true (by omega)] at h; exact h)
      clear hp hn p2
      obtain ⟨r, L⟩ := p
      dsimp only at *
      generalize L.length = M at *
      have hb0 : Below wr.heap.size wr (wr.alloc (.cells #[iv r, .slice C M c] 71)) := (Below.refl _ wr).alloc (Nat.le_refl _) _
      go_wp2_with (first
        | (go_at_call 48; (with_reducible refine (HWi.out _).mono ?_); rintro e w1 ⟨rfl, hw⟩; obtain rfl := hw.symm)
        | (go_at_call 14; (with_reducible refine (HC.out _ hb0).mono ?_); rintro e w2 ⟨rfl, hb2⟩))
      exact ⟨⟨k + 1, by omega, by go_num, Lib.hid (HB.out.trans ((below_step hb0 hb2).mono HB.out.size))⟩, by simp [intOf]; omega⟩
    · obtain rfl : k = N := by omega
      have i1 : ¬ (k : Int) < (k : Int) := by omega
      go_wp2_with (go_at_call 44; (with_reducible refine (HW.out _).mono ?_); rintro e w1 ⟨rfl, hw⟩; obtain rfl := hw.symm)
      go_ret
      exact ⟨rfl, HB.out⟩
end Go.Proofs.YtnpnfdnaglcnfaaDoor
