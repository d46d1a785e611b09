/- The horizon of a node; slices.Backward of nodes. -/
import Derived.Test.YtnpnfdnaglcnfaaDoorOne
import Derived.Deep.OwnRows
namespace Go.Proofs.YtnpnfdnaglcnfaaDoor
open Go.RowKit Go.Shelf

set_option maxRecDepth 100000 in
set_option maxHeartbeats 4000000 in
theorem hv_any (n : Nd) (a b : Int) (w : World) (h0 : 0 ≤ n.hi) (h1 : n.hi ≤ 20) (ha : 0 ≤ a ∧ a ≤ 1000000) (hb : 0 ≤ b ∧ b ≤ 1000000) :
    Calls Tryd.prog 72 #[ndV n, iv a, iv b] w fun e w' => e = .returned (iv (hv n a b)) ∧ Below w.heap.size w w' := by
  obtain ⟨a1, a2⟩ := ha
  obtain ⟨b1, b2⟩ := hb
  go_enter Tryd.func72, Tryd.ntmps72
  go_wp2
  all_goals go_ret
  all_goals (refine ⟨?_, by repeat (first | exact Below.refl _ _ | refine Below.drew ?_ | refine Below.setCell ?_ (by first | omega | (simp; omega) | simp) _ | refine Below.alloc ?_ (by first | omega | (simp; omega) | simp) _)⟩)
  all_goals show Ending.returned (iv _) = Ending.returned (iv _)
  all_goals congr 2
  all_goals simp only [beq_iff_eq, beq_eq_false_iff_ne, decide_eq_true_eq, decide_eq_false_iff_not, Bool.and_eq_true, Bool.and_eq_false_iff, Bool.not_eq_eq_eq_not, Bool.not_true, Bool.not_false] at *
  all_goals unfold hv
  all_goals (repeat' split)
  all_goals (first | rfl | omega)

theorem back_fn (A : Option Addr) (n cap : Nat) (w : World) :
    Calls Tryd.prog 99 #[.slice A n cap] w fun e w' => e = .returned (.func (.func 115) #[] #[.pointer (some ⟨w.heap.size, 0, none⟩)]) ∧ w' = w.alloc (.cells #[.slice A n cap] 22) := by
  go_enter Tryd.func99, Tryd.ntmps99
  go_wp2
  go_ret
  exact ⟨rfl, rfl⟩
def nd0 : Nd := ⟨0, 0, 0, 0, 0, 0⟩
/-- A node of a list. -/
def ndF (L : List Nd) (i : Nat) : Nd := (L[i]?).getD nd0
theorem ndF_at {L : List Nd} {i : Nat} (h : i < L.length) : L[i]? = some (ndF L i) := by
  unfold ndF
  rw [List.getElem?_eq_getElem h]
  rfl
/-- The last t places of m, from the last one on. -/
def dnL (m t : Nat) : List Nat := (List.range t).map fun s => m - 1 - s
theorem dnL_len (m t : Nat) : (dnL m t).length = t := by simp [dnL]
theorem dnL_succ (m t : Nat) : dnL m (t + 1) = dnL m t ++ [m - 1 - t] := by
  unfold dnL
  rw [List.range_succ, List.map_append]
  rfl

set_option maxRecDepth 100000 in
set_option maxHeartbeats 8000000 in
theorem back_in (f : Nat) (hf : 1 ≤ f) (l sb cap : Nat) (A : Option Addr) (L : List Nd) (m : Nat) (hL : m = L.length) (hm : m ≤ 1000000) (J : List Nat → World → Prop) (W : World)
    (hJ : ∀ pre W, J pre W → BoxAt W sb 22 #[.slice A m cap] ∧ NdsL W A L)
    (hY : ∀ pre (x : Nat) W, J pre W → (x = m - 1 - pre.length ∧ pre.length < m) → YieldAt Fence.wide (f - 1) Tryd.prog l #[iv x, ndV (ndF L x)] W fun e W' => e = .returned (.bool true) ∧ J (pre ++ [x]) W' ∧ True)
    (h0 : J [] W) :
    CallsIn Fence.wide f Tryd.prog 115 #[.func (.yield l) #[] #[], .pointer (some ⟨sb, 0, none⟩)] W fun e W' => (∃ v, e = .returned v) ∧ J (dnL m m) W' := by
  have HJ := Lib.hid hJ
  have HY := Lib.hid hY
  have H0 := Lib.hid h0
  have HLm := Lib.hid hL
  have b0 := (hJ _ _ h0).1
  have c0 : W.cell? ⟨sb, 0, none⟩ = some (.slice A m cap) := b0.cell 0
  have l0 := b0.lt
  have wm : IntKind.i64.wrap ((m : Int) - 1) = (m : Int) - 1 := IntWalk.i64_in _ (by omega)
  clear hJ hY h0 b0 hL
  refine callsIn_of_wp Tryd.func115 rfl trivial ?_ rfl
  simp only [Tryd.ntmps115, List.size_toArray, List.length_cons, List.length_nil, Nat.reduceAdd, Nat.reduceSub, Array.replicate_succ, Array.replicate_zero, List.push_toArray, List.append_toArray, List.nil_append, List.cons_append]
  gi_wp2
  gi_loopw [3] (fun iv wr => ∃ t : Nat, t ≤ m ∧ iv = .int .i64 ((m : Int) - 1 - (t : Int)) ∧ Hid (J (dnL m t) wr)) (fun iv _ => (intOf iv + 1).toNat)
  case atStart => exact ⟨0, Nat.zero_le _, by simp, H0⟩
  case round =>
    obtain ⟨t, ht, rfl, HT⟩ := hrel
    by_cases hlt : t < m
    · obtain ⟨x, hx⟩ : ∃ x, x = m - 1 - t := ⟨_, rfl⟩
      have e : (m : Int) - 1 - (t : Int) = (x : Int) := by omega
      have e' : Hid ((m : Int) - 1 - ((t + 1 : Nat) : Int) = (x : Int) - 1) := Lib.hid (by omega)
      rw [e]
      have i0 : (0 : Int) ≤ (x : Int) := Int.natCast_nonneg _
      have i1 : (x : Int) < (m : Int) := by omega
      have wx : IntKind.i64.wrap ((x : Int) - 1) = (x : Int) - 1 := IntWalk.i64_in _ (by omega)
      obtain ⟨b1, z1⟩ := HJ.out _ _ HT.out
      have c1 : wr.cell? ⟨sb, 0, none⟩ = some (.slice A m cap) := b1.cell 0
      have hat := ndF_at (L := L) (i := x) (by rw [← HLm.out]; omega)
      obtain ⟨b, off, rfl, d0, d1, d2, d3, d4, d5⟩ := z1.at hat
      have l1 := b1.lt
      have l2 : b < wr.heap.size := World.block_lt_of_cell? wr _ d0
      obtain ⟨fn, tmps, assign, body, hy, hRd⟩ := HY.out _ x wr HT.out ⟨by rw [dnL_len]; exact hx, by rw [dnL_len]; exact hlt⟩
      have HD : Hid (dnL m (t + 1) = dnL m t ++ [x]) := Lib.hid (by rw [dnL_succ, hx])
      generalize ndF L x = nd at *
      clear b1 z1 e hx HT hat
      gi_wp2
      refine hRd.mono ?_
      rintro e W4 ⟨rfl, hJ4, _⟩
      have HJ4 := Lib.hid hJ4
      clear hJ4
      gi_wp2
      go_roundw
      case rel => exact ⟨t + 1, by omega, by rw [e'.out], Lib.hid (by rw [HD.out]; exact HJ4.out)⟩
      case measure => first | (simp [intOf]; done) | (simp [intOf]; omega)
    · obtain rfl : t = m := by omega
      have e : (t : Int) - 1 - (t : Int) = -1 := by omega
      rw [e]
      gi_wp2
      refine bodyPost_end (results_none rfl _ _ _) rfl ?_
      exact ⟨⟨_, rfl⟩, HT.out⟩
end Go.Proofs.YtnpnfdnaglcnfaaDoor
