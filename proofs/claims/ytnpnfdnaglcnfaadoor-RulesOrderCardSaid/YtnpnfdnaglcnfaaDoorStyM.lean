/- What RulesStays says, as mathematics. -/
import Derived.Test.YtnpnfdnaglcnfaaDoorEvl
import Derived.Test.YtnpnfdnaglcnfaaDoorRul
import Derived.Test.YtnpnfdnaglcnfaaDoorTcm
namespace Go.Proofs.YtnpnfdnaglcnfaaDoor
open Go.RowKit Go.Shelf

theorem one_flat : ∀ (x : Fm), x.wf → ∀ (m : Nat) (rest : List Nd), one (m + 1) (x.flat ++ rest) = one m rest
  | .lf n, h, m, rest => by
    have h : prt n.op = 0 := h
    show one (m + prt n.op) rest = _
    rw [h]; rfl
  | .un n a, h, m, rest => by
    have h1 : prt n.op = 1 := h.1
    show one (m + prt n.op) (a.flat ++ rest) = _
    rw [h1]; exact one_flat a h.2 m rest
  | .bi n a b, h, m, rest => by
    have h1 : prt n.op = 2 := h.1
    show one (m + prt n.op) (a.flat ++ b.flat ++ rest) = _
    rw [h1, List.append_assoc, show m + 2 = m + 1 + 1 from rfl, one_flat a h.2.1 (m + 1), one_flat b h.2.2 m]
theorem feL_all {α : Type} {g : α → Int} : ∀ {l : List α}, (∀ n ∈ l, g n = 0) → feL g l = 0
  | [], _ => rfl
  | n :: l, h => by
    unfold feL
    rw [if_neg (by simp [h n (by simp)])]
    exact feL_all fun m hm => h m (by simp [hm])
theorem ndE_wide {n : Nd} (h : ndE 3 n = 0) : ndE 12 n = 0 := by
  unfold ndE at h ⊢
  repeat' split at h
  all_goals (repeat' split)
  all_goals omega
theorem shp_ok {x : Fm} {w : Int} (hw : x.wf) (hok : x.ok w) (h1 : 1 ≤ w ∧ w ≤ 12) (hl : x.flat.length ≤ 15) : shpE x.flat w = 0 := by
  unfold shpE
  have h2 : feL (ndE w) x.flat = 0 := feL_all hok
  have h3 : one 1 x.flat = 0 := by
    have := one_flat x hw 0 []
    rw [List.append_nil] at this
    exact this
  rw [if_neg (by simpa using h1), if_neg (by omega), if_neg (by simp [h2]), h3]
theorem horL_flat {x : Fm} (hw : x.wf) : horL x.flat = x.hor := by
  unfold horL stk
  rw [stk_flat hv 0 x hw []]
  rfl
theorem chk_ok {x : Fm} (hw : x.wf) (hok : x.ok 3) (hl : x.flat.length ≤ 15) (hh : x.hor ≤ 12) : chkE x.flat 3 = 0 := by
  unfold chkE
  rw [shp_ok hw hok (by decide) hl, if_neg (by simp), horL_flat hw, if_neg (by omega)]
theorem hrz_ok {x : Fm} (hw : x.wf) (hok : x.ok 3) (hl : x.flat.length ≤ 15) : hrzF x.flat = x.hor := by
  unfold hrzF
  rw [shp_ok hw (fun n hn => ndE_wide (hok n hn)) (by decide) hl, if_pos rfl, horL_flat hw]
theorem tr_ok {t : List (List Int)} (h : TrOk 3 40 t) (n : Nat) : trE (t.take n) 3 = 0 := by
  obtain ⟨h1, h2⟩ := h
  unfold trE
  rw [if_neg (by decide), if_neg (by rw [List.length_take]; omega)]
  refine feL_all fun r hr => ?_
  obtain ⟨h3, h4⟩ := h2 r (List.mem_of_mem_take hr)
  unfold rwE
  rw [if_neg (by simp [h3])]
  refine feL_all fun v hv => ?_
  have := h4 v hv
  unfold vlE
  split <;> omega
theorem vds_flat (t : List (List Int)) {x : Fm} (hw : x.wf) : vdsF t x.flat = evT t x := by
  unfold vdsF lnS stk
  rw [stk_flat (vdV t) (fun _ => 0) x hw []]
  rfl
theorem evR_ok {t : List (List Int)} {x : Fm} (hw : x.wf) (hok : x.ok 3) (hl : x.flat.length ≤ 15) (hh : x.hor ≤ 12) (ht : TrOk 3 40 t) (n i : Nat) : evR x.flat 3 (t.take n) i = .tuple #[iv (evT (t.take n) x i), iv 0] := by
  have h0 : ¬ (i : Int) < 0 := by omega
  have he : evE x.flat 3 (t.take n) i = 0 := by
    unfold evE
    rw [chk_ok hw hok hl hh, tr_ok ht n]
    simp [h0]
  have hv : evV x.flat 3 (t.take n) i = evT (t.take n) x i := by
    unfold evV
    rw [he, vds_flat _ hw]
    simpa using ev_sat (t.take n) x i
  unfold evR
  rw [he, hv]
theorem sty_mono (t : List (List Int)) {x : Fm} (hok : x.ok 3) {n m : Nat} (h : n ≤ m) (i : Nat) : lek (evT (t.take n) x i) (evT (t.take m) x i) := by
  have e : t.take m = t.take n ++ (t.take m).drop n := by
    have := (List.take_append_drop n (t.take m)).symm
    rwa [List.take_take, Nat.min_eq_left h] at this
  have := stays (t.take n) ((t.take m).drop n) x hok i
  rwa [← e] at this
theorem sty_dec (t : List (List Int)) {x : Fm} (hw : x.wf) (hok : x.ok 3) {n : Nat} (hn : n ≤ t.length) (i : Nat) (h : (i : Int) + x.hor < n) : evT (t.take n) x i ≠ 2 :=
  decides (t.take n) x hok hw i (by rw [List.length_take, Nat.min_eq_left hn]; exact h)
theorem rows_take {W : World} {A : Option Addr} {t : List (List Int)} (h : RowsL W A t) (n : Nat) : RowsL W A (t.take n) := fun hn => by
  rw [List.length_take] at hn
  obtain ⟨b, off, e, hp⟩ := h (by omega)
  refine ⟨b, off, e, fun i r hi => hp i r ?_⟩
  rw [List.getElem?_take] at hi
  split at hi
  · exact hi
  · cases hi
theorem short_take {t : List (List Int)} (h : TrOk 3 40 t) (n : Nat) : Short (t.take n) := fun r hr => by
  have := (h.2 r (List.mem_of_mem_take hr)).1
  omega
/-- Eval over the first rows. -/
theorem eval_take (A : Option Addr) (cap : Nat) {x : Fm} (B : Option Addr) (cb : Nat) {t : List (List Int)} (hw : x.wf) (hok : x.ok 3) (hl : x.flat.length ≤ 15) (hh : x.hor ≤ 12) (ht : TrOk 3 40 t) (n : Nat) (hn : n ≤ t.length) (i : Nat) (hi : i ≤ 1000) (w : World) (hA : NdsL w A x.flat) (hB : RowsL w B t) :
    Calls Tryd.prog 29 #[.slice A x.flat.length cap, iv 3, .slice B n cb, iv i] w fun e w' => e = .returned (.tuple #[iv (evT (t.take n) x i), iv 0]) ∧ Below w.heap.size w w' := by
  have h := eval_any A cap x.flat 3 B cb (t.take n) i w (by omega) (short_take ht n) hA (rows_take hB n)
  rw [evR_ok hw hok hl hh ht, List.length_take, Nat.min_eq_left hn] at h
  exact h
end Go.Proofs.YtnpnfdnaglcnfaaDoor
