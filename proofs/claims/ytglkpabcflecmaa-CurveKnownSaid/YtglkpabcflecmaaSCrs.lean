/- SameCrosses of two rows of the same crosses. -/
import Derived.Test.YtglkpabcflecmaaCoD
import Derived.Test.YtglkpabcflecmaaRChk
import Derived.BigQuiet
namespace Go.Proofs.Ytglkpabcflecmaa
open Go.RowKit Go.Shelf

/-- Crosses in a block. -/
def QAt (W : World) (g : Nat) (L : List Quad) : Prop := ∀ i, i < L.length → ∃ q, L[i]? = some q ∧ W.cell? ⟨g, i * 4, none⟩ = some (.int .i64 q.fa) ∧ W.cell? ⟨g, i * 4 + 1, none⟩ = some (.int .i64 q.ta) ∧ W.cell? ⟨g, i * 4 + 2, none⟩ = some (.int .i64 q.fb) ∧ W.cell? ⟨g, i * 4 + 3, none⟩ = some (.int .i64 q.tb)
def Qs (W : World) (R : Option Addr) (L : List Quad) : Prop := 0 < L.length → ∃ g, R = some ⟨g, 0, none⟩ ∧ QAt W g L ∧ g < W.heap.size
theorem Qs.below {W W' : World} {R : Option Addr} {L : List Quad} (h : Qs W R L) (hb : Below W.heap.size W W') : Qs W' R L := fun h0 => by
  obtain ⟨g, h1, h2, h3⟩ := h h0
  have hc : ∀ k, W'.cell? ⟨g, k, none⟩ = W.cell? ⟨g, k, none⟩ := fun k => World.cell?_of_block (hb.block g h3)
  refine ⟨g, h1, fun i hi => ?_, Nat.lt_of_lt_of_le h3 hb.size⟩
  obtain ⟨q, e, q1, q2, q3, q4⟩ := h2 i hi
  exact ⟨q, e, (hc _).trans q1, (hc _).trans q2, (hc _).trans q3, (hc _).trans q4⟩
theorem qcells_len (L : List Quad) : (qcells L).length = L.length * 4 := by
  induction L with
  | nil => rfl
  | cons q L ih => unfold qcells at *; rw [List.flatMap_cons, List.length_append, ih]; simp; omega
theorem qcells_get (L : List Quad) {i : Nat} (hi : i < L.length) : ∃ q, L[i]? = some q ∧ (qcells L)[i * 4]? = some (.int .i64 q.fa) ∧ (qcells L)[i * 4 + 1]? = some (.int .i64 q.ta) ∧ (qcells L)[i * 4 + 2]? = some (.int .i64 q.fb) ∧ (qcells L)[i * 4 + 3]? = some (.int .i64 q.tb) := by
  induction L generalizing i with
  | nil => simp at hi
  | cons q L ih =>
    have e : qcells (q :: L) = [.int .i64 q.fa, .int .i64 q.ta, .int .i64 q.fb, .int .i64 q.tb] ++ qcells L := by simp [qcells]
    rw [e]
    cases i with
    | zero => exact ⟨q, rfl, rfl, rfl, rfl, rfl⟩
    | succ i =>
      obtain ⟨q', h1, h2, h3, h4, h5⟩ := ih (i := i) (by simpa using hi)
      have g : ∀ k, ([Value.int .i64 q.fa, .int .i64 q.ta, .int .i64 q.fb, .int .i64 q.tb] ++ qcells L)[(i + 1) * 4 + k]? = (qcells L)[i * 4 + k]? := fun k => by
        rw [List.getElem?_append_right (by simp; omega)]
        congr 1
        simp
        omega
      exact ⟨q', by simpa using h1, (g 0).trans h2, (g 1).trans h3, (g 2).trans h4, (g 3).trans h5⟩
theorem qs_of_own {W : World} {base : Nat} {v : Value} {L : List Quad} (h : W.ownsRow base 66 4 v L.length (qcells L)) : ∃ R cap, v = .slice R L.length cap ∧ Qs W R L := by
  obtain ⟨_, h2⟩ := h
  rcases h2 with ⟨rfl, h0⟩ | ⟨g, cap, cur, rfl, _, hc, _, _, _, ht⟩
  · exact ⟨none, 0, by rw [h0], fun h => absurd h (by omega)⟩
  · refine ⟨_, cap, rfl, fun _ => ⟨g, rfl, fun i hi => ?_, (Array.getElem?_eq_some_iff.1 hc).1⟩⟩
    obtain ⟨q, e, q1, q2, q3, q4⟩ := qcells_get L hi
    have hcell : ∀ k, k < L.length * 4 → W.cell? ⟨g, k, none⟩ = (qcells L)[k]? := fun k hk => by
      rw [World.cell?, hc, ← ht, List.getElem?_take, if_pos hk]
      simp
    exact ⟨q, e, (hcell _ (by omega)).trans q1, (hcell _ (by omega)).trans q2, (hcell _ (by omega)).trans q3, (hcell _ (by omega)).trans q4⟩

set_option maxRecDepth 100000 in
set_option maxHeartbeats 8000000 in
/-- **SameCrosses, of two rows of the same crosses.** -/
theorem same_crs (R1 R2 : Option Addr) (c1 c2 : Nat) (L : List Quad) (w : World) (hL : L.length ≤ 1000000) (h1 : Qs w R1 L) (h2 : Qs w R2 L) :
    Calls Try.prog 45 #[.slice R1 L.length c1, .slice R2 L.length c2] w fun e w' => e = .returned (.bool true) ∧ Below w.heap.size w w' := by
  have H1 := Lib.hid h1
  have H2 := Lib.hid h2
  clear h1 h2
  obtain ⟨n, hn⟩ : ∃ n, n = L.length := ⟨_, rfl⟩
  rw [← hn] at hL ⊢
  have HN := Lib.hid hn
  clear hn
  go_enter Try.func45, Try.ntmps45
  go_wp2
  go_loopw [5] (fun i wr => ∃ k : Nat, k ≤ n ∧ i = .int .i64 k ∧ Below w.heap.size w wr ∧ Hid (Qs wr R1 L) ∧ Hid (Qs wr R2 L)) (fun i _ => n - (intOf i).toNat)
  case atStart => exact ⟨0, Nat.zero_le _, rfl, Below.refl _ _, H1, H2⟩
  case round =>
    clear H1 H2
    obtain ⟨k, hk, rfl, hB, H1, H2⟩ := hrel
    by_cases hlt : k < n
    · obtain ⟨g1, e1, q1, l1⟩ := H1.out (by rw [← HN.out]; omega)
      obtain ⟨g2, e2, q2, l2⟩ := H2.out (by rw [← HN.out]; omega)
      subst e1
      subst e2
      obtain ⟨q, hq, a0, a1, a2, a3⟩ := q1 k (by rw [← HN.out]; omega)
      obtain ⟨q', hq', b0, b1, b2, b3⟩ := q2 k (by rw [← HN.out]; omega)
      have e : q' = q := by rw [hq] at hq'; exact (Option.some.inj hq').symm
      rw [e] at b0 b1 b2 b3
      clear e hq hq' q1 q2
      have i1 : (0 : Int) ≤ (k : Int) := Int.natCast_nonneg _
      have i2 : (k : Int) < (n : Int) := by omega
      go_wp2_with fail
      go_quiet (fail)
      go_wp2
      go_roundw
      case rel => exact ⟨k + 1, by omega, by go_num, below_drewN hB _, H1, H2⟩
      case measure => simp [intOf]; omega
    · obtain rfl : k = n := by omega
      go_wp2
      go_ret
      exact ⟨rfl, hB⟩
end Go.Proofs.Ytglkpabcflecmaa
