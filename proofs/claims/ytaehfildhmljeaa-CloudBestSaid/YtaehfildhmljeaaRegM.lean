/- The best shift, said candidate by candidate. Plain mathematics. -/
import Derived.Test.YtaehfildhmljeaaMatA
import Derived.Test.YtaehfildhmljeaaRSz
namespace Go.Proofs.Ytaehfildhmljeaa

def inW (p : Pt) (win : Int) : Bool := decide (-win ≤ p.1) && decide (p.1 ≤ win) && (decide (-win ≤ p.2) && decide (p.2 ≤ win))
/-- Whether a candidate with c matches is better than the best so far. -/
def betB (p : Pt) (c : Nat) (st : Pt × Nat) : Bool := decide (st.2 < c) || (decide (c = st.2) && smpB p st.1)
section
variable (n : Nat) (X Y : Nat → Int) (m : Nat) (X' Y' : Nat → Int) (win s : Int)
def regStep (st : Pt × Nat) (p : Pt) : Pt × Nat :=
  if inW p win then (if betB p (matF n X Y m X' Y' p.1 p.2 s) st then (p, matF n X Y m X' Y' p.1 p.2 s) else st) else st
def regJ (st : Pt × Nat) (i : Nat) : Nat → Pt × Nat
  | 0 => st
  | j + 1 => regStep n X Y m X' Y' win s (regJ st i j) (X i - X' j, Y i - Y' j)
def regI : Nat → Pt × Nat
  | 0 => ((0, 0), matF n X Y m X' Y' 0 0 s)
  | i + 1 => regJ n X Y m X' Y' win s (regI i) i m
end
def regE (n : Nat) (X Y V : Nat → Int) (m : Nat) (X' Y' V' : Nat → Int) (win s : Int) : Int :=
  if chkF n X Y V ≠ 0 then chkF n X Y V else if chkF m X' Y' V' ≠ 0 then chkF m X' Y' V' else if 60 < n ∨ 60 < m then 8 else if 0 ≤ win ∧ win ≤ 2000 ∧ 0 ≤ s ∧ s ≤ 2000 then 0 else 2
/-- The best so far is a small shift. -/
def smlP (st : Pt × Nat) : Prop := (-2000 ≤ st.1.1 ∧ st.1.1 ≤ 2000) ∧ (-2000 ≤ st.1.2 ∧ st.1.2 ≤ 2000) ∧ st.2 ≤ 1000
theorem inW_iff (p : Pt) (win : Int) : inW p win = true ↔ (-win ≤ p.1 ∧ p.1 ≤ win) ∧ (-win ≤ p.2 ∧ p.2 ≤ win) := by
  unfold inW; simp
theorem matF_le (n : Nat) (X Y : Nat → Int) (m : Nat) (X' Y' : Nat → Int) (a b s : Int) : matF n X Y m X' Y' a b s ≤ m := cntB_le _ _
theorem regStep_sml {n : Nat} {X Y : Nat → Int} {m : Nat} {X' Y' : Nat → Int} {win s : Int} (hm : m ≤ 60) (hw : win ≤ 2000) {st : Pt × Nat} (h : smlP st) (p : Pt) : smlP (regStep n X Y m X' Y' win s st p) := by
  unfold regStep
  split
  · rename_i hi
    have := (inW_iff p win).1 hi
    split
    · have hh := matF_le n X Y m X' Y' p.1 p.2 s
      unfold smlP
      simp only
      omega
    · exact h
  · exact h
theorem regJ_sml {n : Nat} {X Y : Nat → Int} {m : Nat} {X' Y' : Nat → Int} {win s : Int} (hm : m ≤ 60) (hw : win ≤ 2000) {st : Pt × Nat} (h : smlP st) (i : Nat) : ∀ j, smlP (regJ n X Y m X' Y' win s st i j) := by
  intro j
  induction j with
  | zero => exact h
  | succ j ih => exact regStep_sml hm hw ih _
theorem regI_sml {n : Nat} {X Y : Nat → Int} {m : Nat} {X' Y' : Nat → Int} {win s : Int} (hm : m ≤ 60) (hw : win ≤ 2000) : ∀ i, smlP (regI n X Y m X' Y' win s i) := by
  intro i
  induction i with
  | zero =>
    have hh := matF_le n X Y m X' Y' 0 0 s
    unfold smlP regI
    simp only
    omega
  | succ i ih => exact regJ_sml hm hw ih i m
end Go.Proofs.Ytaehfildhmljeaa
