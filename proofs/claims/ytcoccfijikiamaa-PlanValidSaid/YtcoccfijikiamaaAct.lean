/- Act; the check of plans. -/
import Derived.Test.YtcoccfijikiamaaRmp
namespace Go.Proofs.Ytcoccfijikiamaa
open Go.RowKit Go.Shelf

abbrev pv (A : Option Addr) (n cap : Nat) : Value := .agg #[.slice A n cap]
/-- The act number i. -/
def actF (L : List Int) (i : Int) : Int := L.getD (clp i 0 ((L.length : Int) - 1)).toNat 0
set_option maxRecDepth 100000 in
set_option maxHeartbeats 4000000 in
theorem act_any (A : Option Addr) (cap : Nat) (L : List Int) (i : Int) (w : World) (hA : NumL w A L) (hl : L.length ≤ 1000000) :
    Calls Try.prog 12 #[pv A L.length cap, iv i] w fun e w' => e = .returned (iv (actF L i)) ∧ Below w.heap.size w w' := by
  obtain ⟨x, hx⟩ : ∃ x, x = actF L i := ⟨_, rfl⟩
  rw [← hx]
  have hB : Below w.heap.size w (w.alloc (.cells #[.slice A L.length cap] 26)) := (Below.refl _ w).alloc (Nat.le_refl _) _
  by_cases h0 : L.length = 0
  · have hx0 : x = 0 := by rw [hx, actF, List.length_eq_zero_iff.1 h0]; rfl
    subst hx0
    rw [h0] at hB ⊢
    clear hx hA
    go_enter Try.func12, Try.ntmps12
    go_wp2
    go_ret
    exact ⟨rfl, hB⟩
  · obtain ⟨j, hj, hjl⟩ : ∃ j : Nat, clp i 0 ((L.length : Int) - 1) = (j : Int) ∧ j < L.length := ⟨(clp i 0 ((L.length : Int) - 1)).toNat, by unfold clp; omega, by unfold clp; omega⟩
    have hc := L[j]?
    have hxj : L[j]? = some x := by
      rw [hx, actF, hj, Int.toNat_natCast, List.getD_eq_getElem?_getD, List.getElem?_eq_getElem hjl]; rfl
    obtain ⟨b, off, rfl, c1⟩ := (hA.below hB).at hxj
    have l1 := World.block_lt_of_cell? _ _ c1
    have HC := Lib.hid (fun W => clamp_int i 0 ((L.length : Int) - 1) W)
    rw [hj] at HC
    have c0 : (w.alloc (.cells #[.slice (some ⟨b, off, none⟩) L.length cap] 26)).cell? ⟨w.heap.size, 0, none⟩ = some (.slice (some ⟨b, off, none⟩) L.length cap) := (BoxAt.new w 26 #[.slice (some ⟨b, off, none⟩) L.length cap]).cell 0
    generalize L.length = N at *
    have j0 : (0 : Int) ≤ (j : Int) := Int.natCast_nonneg _
    have j1 : (j : Int) < (N : Int) := by omega
    have hw1 : IntKind.i64.wrap ((N : Int) - 1) = (N : Int) - 1 := IntWalk.i64_in _ (by omega)
    have l0 : w.heap.size < (w.alloc (.cells #[.slice (some ⟨b, off, none⟩) N cap] 26)).heap.size := by rw [World.size_alloc]; omega
    clear hx hxj hA hj hc
    go_enter Try.func12, Try.ntmps12
    go_wp2
    go_quiet ((go_at_call 31; with_reducible exact Calls.quiet_of_same (HC.out _)))
    go_wp2
    go_ret
    exact ⟨rfl, below_drewN hB⟩
theorem lst_get (a : Int) : ∀ (L : List Int), 0 < L.length → L[L.length - 1]? = some (lst a L)
  | [], h => by simp at h
  | [x], _ => rfl
  | x :: y :: l, _ => by
    have h := lst_get x (y :: l) (by simp)
    simp only [List.length_cons, Nat.add_sub_cancel] at h ⊢
    exact h
theorem actF_end (L : List Int) (i : Int) (h : 0 < L.length) (hi : (L.length : Int) - 1 ≤ i) : actF L i = lst 0 L := by
  have e : (clp i 0 ((L.length : Int) - 1)).toNat = L.length - 1 := by unfold clp; omega
  rw [actF, e, List.getD_eq_getElem?_getD, lst_get 0 L h]; rfl
def inB (c : Car) (x : Int) : Bool := decide (-c.brk ≤ x ∧ x ≤ c.acc)
/-- Successive acts differ by at most r. -/
def chn (r : Int) : List Int → Bool
  | a :: b :: l => decide (a - r ≤ b ∧ b ≤ a + r) && chn r (b :: l)
  | _ => true
/-- The error of a plan for a car. -/
def chkP (c : Car) (L : List Int) : Int := if ¬ c.ok then 2 else if L.length = 0 then 6 else if 200 < L.length then 5 else if L.all (inB c) = false then 2 else if 0 < lst 0 L then 2 else if chn c.rate L = false then 11 else 0
end Go.Proofs.Ytcoccfijikiamaa
