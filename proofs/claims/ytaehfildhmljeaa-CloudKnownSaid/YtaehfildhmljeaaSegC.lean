/- The closure that finds roots. -/
import Derived.Test.YtaehfildhmljeaaAid
import Derived.Test.YtaehfildhmljeaaSegM
namespace Go.Proofs.Ytaehfildhmljeaa
open Go.RowKit Go.Shelf

/-- A row of n numbers in a block of its own. -/
def NatAt (w : World) (g n : Nat) (F : Nat → Nat) : Prop := ∃ cs : Array Value, BoxAt w g 3 cs ∧ cs.size = n ∧ ∀ i, i < n → cs[i]? = some (.int .i64 (F i))
theorem NatAt.cell {w : World} {g n : Nat} {F : Nat → Nat} (h : NatAt w g n F) {i : Nat} (hi : i < n) : w.cell? ⟨g, i, none⟩ = some (.int .i64 (F i)) := by
  obtain ⟨cs, hb, _, hc⟩ := h
  exact (hb.cell i).trans (hc i hi)
theorem NatAt.frozen {w : World} {g n : Nat} {F : Nat → Nat} (h : NatAt w g n F) (i : Nat) : w.frozen? ⟨g, i, none⟩ = false := by
  obtain ⟨cs, hb, _⟩ := h
  exact hb.frozen i
theorem NatAt.lt {w : World} {g n : Nat} {F : Nat → Nat} (h : NatAt w g n F) : g < w.heap.size := by
  obtain ⟨cs, hb, _⟩ := h
  exact hb.lt
theorem NatAt.below {w w' : World} {g n : Nat} {F : Nat → Nat} (h : NatAt w g n F) (hb : Below w.heap.size w w') : NatAt w' g n F := by
  obtain ⟨cs, h1, h2⟩ := h
  exact ⟨cs, box_step h1 hb, h2⟩
theorem NatAt.set {w : World} {g n : Nat} {F : Nat → Nat} (h : NatAt w g n F) (k v : Nat) : NatAt (w.setCell ⟨g, k, none⟩ (.int .i64 v)) g n (upd F k v) := by
  obtain ⟨cs, h1, h2, h3⟩ := h
  refine ⟨_, h1.set k _, by simpa using h2, fun i hi => ?_⟩
  unfold upd
  rw [Array.getElem?_setIfInBounds]
  by_cases he : k = i
  · subst he
    rw [if_pos rfl, if_pos (by omega), if_pos rfl]
  · rw [if_neg he, if_neg (fun e => he e.symm)]
    exact h3 i hi
theorem NatAt.other {w : World} {g h n : Nat} {F : Nat → Nat} (hr : NatAt w g n F) (hne : g ≠ h) (i : Nat) (v : Value) : NatAt (w.setCell ⟨h, i, none⟩ v) g n F := by
  obtain ⟨cs, h1, h2⟩ := hr
  exact ⟨cs, h1.other hne i v, h2⟩
theorem NatAt.drew {w : World} {g n : Nat} {F : Nat → Nat} (h : NatAt w g n F) : NatAt w.drew g n F := h
/-- Only block g has turned, and new ones. -/
abbrev Only (w w' : World) (g : Nat) : Prop := w.grownBy w' (some g)
theorem only_refl (w : World) (g : Nat) : Only w w g := ⟨rfl, rfl, rfl, Nat.le_refl _, fun _ _ _ => rfl⟩
theorem only_trans {a b c : World} {g : Nat} (h1 : Only a b g) (h2 : Only b c g) : Only a c g :=
  ⟨h2.os.trans h1.os, h2.tape.trans h1.tape, h2.output.trans h1.output, Nat.le_trans h1.size h2.size, fun i hi hne => (h2.block i (Nat.lt_of_lt_of_le hi h1.size) hne).trans (h1.block i hi hne)⟩
theorem only_below {a b : World} {g : Nat} (h : Below a.heap.size a b) : Only a b g := ⟨h.os, h.tape, h.output, h.size, fun i hi _ => h.block i hi⟩
theorem only_set (w : World) (g i : Nat) (v : Value) : Only w (w.setCell ⟨g, i, none⟩ v) g :=
  ⟨(Below.setCell (B := 0) (p := ⟨g, i, none⟩) (Below.refl 0 w) (Nat.zero_le _) v).os, (Below.setCell (B := 0) (p := ⟨g, i, none⟩) (Below.refl 0 w) (Nat.zero_le _) v).tape, (Below.setCell (B := 0) (p := ⟨g, i, none⟩) (Below.refl 0 w) (Nat.zero_le _) v).output, by simp, fun j _ hne => Below.heap_setCell _ _ _ _ (fun e => hne (by rw [e]))⟩
theorem only_drew (w : World) (g : Nat) : Only w w.drew g := only_below (Below.refl _ w).drew
def RootPost (B : Nat → Nat) (n m k g : Nat) (w : World) (e : Ending) (w' : World) : Prop :=
  ∃ B', e = .returned (.int .i64 (rt B k)) ∧ NatAt w' g n B' ∧ Dn B' m ∧ (∀ j, j < m → rt B' j = rt B j) ∧ (∀ j, k < j → B' j = B j) ∧ Only w w' g

def RootMid (B : Nat → Nat) (n m k g : Nat) (w w' : World) : Prop :=
  ∃ B', NatAt w' g n B' ∧ Dn B' m ∧ (∀ j, j < m → rt B' j = rt B j) ∧ (∀ j, k < j → B' j = B j) ∧ Only w w' g ∧ B' k = rt B k
theorem root_mid {B B' : Nat → Nat} {n m k q g : Nat} {w w1 : World} (he : ¬ B k = k) (hd : Dn B m) (hk : k < m) (hq : q = B k) (hr : rt B k = rt B (B k)) (hlt : q < k) (hd1 : Dn B' m) (hA : NatAt w1 g n B') (h1 : ∀ j, j < m → rt B' j = rt B j) (h2 : ∀ j, q < j → B' j = B j) (ho : Only w.drew w1 g) :
    RootMid B n m k g w (w1.setCell ⟨g, k, none⟩ (.int .i64 (rt B q))) := by
  subst hq
  have e1 : B' k = B k := h2 k hlt
  have e2 : rt B' k = rt B k := h1 k hk
  have hs := rt_short hd1 hk (by rw [e1]; exact he)
  rw [e2] at hs
  have hok := rt_ok hd k hk
  rw [← hr]
  refine ⟨upd B' k (rt B k), hA.set k _, dn_upd hd1 hok.1, fun j hj => (hs j hj).trans (h1 j hj), fun j hj => by rw [upd_other _ _ (by omega)]; exact h2 j (by omega), only_trans (only_trans (only_drew w g) ho) (only_set w1 g k _), upd_same _ _ _⟩

set_option maxRecDepth 100000 in
set_option maxHeartbeats 4000000 in
theorem root_any (g Lb Lr n cap m : Nat) (_hn : n ≤ 1000000) (hm : m ≤ n) : ∀ (k : Nat) (B : Nat → Nat) (w : World), k < m → Dn B m → NatAt w g n B → BoxAt w Lb 41 #[.slice (some ⟨g, 0, none⟩) n cap] → BoxAt w Lr 100 #[.func (.func 114) #[] #[.pointer (some ⟨Lb, 0, none⟩), .pointer (some ⟨Lr, 0, none⟩)]] → g ≠ Lb → g ≠ Lr →
    Calls Try.prog 114 #[.int .i64 k, .pointer (some ⟨Lb, 0, none⟩), .pointer (some ⟨Lr, 0, none⟩)] w (RootPost B n m k g w) := by
  intro k
  induction k using Nat.strongRecOn with
  | _ k ih =>
    intro B w hk hd hA bb br n1 n2
    have i1 : (0 : Int) ≤ (k : Int) := Int.natCast_nonneg _
    have i2 : (k : Int) < (n : Int) := by omega
    have c0 : w.cell? ⟨Lb, 0, none⟩ = some (.slice (some ⟨g, 0, none⟩) n cap) := bb.cell 0
    have c1 : w.cell? ⟨Lr, 0, none⟩ = some (.func (.func 114) #[] #[.pointer (some ⟨Lb, 0, none⟩), .pointer (some ⟨Lr, 0, none⟩)]) := br.cell 0
    have c2 : w.cell? ⟨g, k, none⟩ = some (.int .i64 (B k)) := hA.cell (by omega)
    have hb := hd k hk
    by_cases he : B k = k
    · have hr := rt_fix he
      rw [he] at c2
      have HR := Lib.hid hr
      have HE := Lib.hid he
      have HA := Lib.hid hA
      clear hr he
      go_enter Try.func114, Try.ntmps114
      go_wp2
      go_ret
      exact ⟨B, by rw [HR.out]; rfl, HA.out, hd, fun _ _ => rfl, fun _ _ => rfl, only_refl _ _⟩
    · have hr := rt_step hd hk he
      have hlt : B k < k := by omega
      have HI := Lib.hid (fun W => ih (B k) hlt B W)
      have HR := Lib.hid hr
      have HN := Lib.hid he
      have he2 : ((B k : Int) != (k : Int)) = true := by simp; omega
      have hkm : B k < m := by omega
      obtain ⟨q, hq⟩ : ∃ q, q = B k := ⟨_, rfl⟩
      rw [← hq] at c2 he2 hlt hkm HI
      obtain ⟨r, hrr⟩ : ∃ r, r = rt B k := ⟨_, rfl⟩
      have HQ := Lib.hid hq
      have HRR := Lib.hid hrr
      have f0 := hA.frozen k
      have l1 := hA.lt
      have l2 := bb.lt
      have l3 := br.lt
      have HP : Hid (∀ W B', NatAt W g n B' → (∀ j, q < j → B' j = B j) → Only w W g → W.cell? ⟨Lb, 0, none⟩ = some (.slice (some ⟨g, 0, none⟩) n cap) ∧ W.cell? ⟨Lr, 0, none⟩ = some (.func (.func 114) #[] #[.pointer (some ⟨Lb, 0, none⟩), .pointer (some ⟨Lr, 0, none⟩)]) ∧ W.cell? ⟨g, k, none⟩ = some (.int .i64 q) ∧ W.frozen? ⟨g, k, none⟩ = false ∧ g < W.heap.size) := Lib.hid (fun W B' h1 h2 h3 =>
        ⟨(bb.grown h3 (by simpa using Ne.symm n1)).cell 0, (br.grown h3 (by simpa using Ne.symm n2)).cell 0, by rw [h1.cell (by omega), h2 k hlt, hq], h1.frozen k, h1.lt⟩)
      have HA := Lib.hid hA
      have HBB := Lib.hid bb
      have HBR := Lib.hid br
      clear hr he hq hrr ih hA bb br
      go_enter Try.func114, Try.ntmps114
      go_upto_region 2 with fail
      go_cut [4] from 11 to 19 (fun v wx => v = .int .i64 0 ∧ RootMid B n m k g w wx)
      case first =>
        go_region_law
          (first
            | (go_simp; go_at_call 114; (with_reducible refine (HI.out _ hkm hd HA.out.drew (BoxAt.drew HBB.out) (BoxAt.drew HBR.out) n1 n2).mono ?_); rintro e w1 ⟨B', rfl, hA1, hd1, hr1, hs1, ho1⟩; obtain ⟨y0, y1, y2, y3, y4⟩ := HP.out w1 B' hA1 hs1 (only_trans (only_drew w g) ho1); have HA1 := Lib.hid hA1; have HR1 := Lib.hid hr1; have HS1 := Lib.hid hs1; clear hA1 hr1 hs1))
        all_goals go_wp2
        all_goals go_meet
        all_goals exact ⟨rfl, root_mid HN.out hd hk HQ.out HR.out hlt hd1 HA1.out HR1.out HS1.out ho1⟩
      case rest =>
        obtain ⟨wd, rfl⟩ : ∃ x : World, x = wc := ⟨_, rfl⟩
        obtain ⟨rfl, B'', h1, h2, h3, h4, h5, h6⟩ := hcut
        have c3 : wd.cell? ⟨Lb, 0, none⟩ = some (.slice (some ⟨g, 0, none⟩) n cap) := (BoxAt.grown HBB.out h5 (by simpa using Ne.symm n1)).cell 0
        have c4 : wd.cell? ⟨g, k, none⟩ = some (.int .i64 (rt B k)) := by rw [h1.cell (by omega), h6]
        have l4 := h1.lt
        clear h6
        go_wp2
        go_ret
        exact ⟨B'', rfl, h1, h2, h3, h4, h5⟩
end Go.Proofs.Ytaehfildhmljeaa
