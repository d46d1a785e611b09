/- A heap of the nearest points, the last one on top: mathematics. An entry is (number, square). A heap of the nearest points: its methods Len, Less, Swap. A heap of the nearest points: container/heap's up and down, Push and Pop. A heap of the nearest points: the methods Push and Pop; container/heap's Push and Pop. The nearest points in order: a sorted list of keys (square, number) of at most k: mathematics. A range over a function, where it is known what the iterator yields next; slices.Backward of a row of zeros. What stands in memory while the nearest points are taken out of the heap, the last one first. The program's Nearest. The program's Nearest of any cloud, spot and number. -/
import Derived.Test.YtaehfildhmljeaaIdxR
import Derived.Test.YtaehfildhmljeaaCmp3
import Derived.Test.YtaehfildhmljeaaCor
import Derived.Deep.RegionHeld3
import Derived.Handy
import Derived.Test.YtaehfildhmljeaaHlG
namespace Go.Proofs.Ytaehfildhmljeaa

/-- a comes before b: a smaller square, or the same one and a smaller number. -/
def nbB (a b : Pt) : Bool := befB (a.2, a.1) (b.2, b.1)
theorem nb_iff (a b : Pt) : nbB a b = true ↔ a.2 < b.2 ∨ (a.2 = b.2 ∧ a.1 < b.1) := bef_iff _ _
theorem nb_no (a b : Pt) : nbB a b = false ↔ ¬ (a.2 < b.2 ∨ (a.2 = b.2 ∧ a.1 < b.1)) := bef_no _ _
theorem nb_irr (a : Pt) : nbB a a = false := bef_irr _
/-- a does not come before b, b not before c. -/
theorem nb_le {a b c : Pt} (h : nbB a b = false) (h' : nbB b c = false) : nbB a c = false := by
  rw [nb_no] at *
  omega
theorem nb_asym {a b : Pt} (h : nbB a b = true) : nbB b a = false := by
  rw [nb_iff] at h
  rw [nb_no]
  omega
/-- Two entries exchanged. -/
def swp (E : Nat → Pt) (i j : Nat) (k : Nat) : Pt := if k = i then E j else if k = j then E i else E k
section
variable {E : Nat → Pt} {i j m : Nat}
theorem swp_l : swp E i j i = E j := by unfold swp; rw [if_pos rfl]
theorem swp_r : swp E i j j = E i := by
  unfold swp
  split
  · rename_i h; rw [h]
  · rw [if_pos rfl]
theorem swp_o {k : Nat} (h : k ≠ i) (h' : k ≠ j) : swp E i j k = E k := by unfold swp; rw [if_neg h, if_neg h']
theorem swp_swp (k : Nat) : swp (swp E i j) i j k = E k := by
  by_cases h : k = i
  · subst h; rw [swp_l, swp_r]
  · by_cases h' : k = j
    · subst h'; rw [swp_r, swp_l]
    · rw [swp_o h h', swp_o h h']
end
/-- The same entries, each once. -/
def SameE (m : Nat) (E F : Nat → Pt) : Prop := (∀ x, (∃ k, k < m ∧ F k = x) ↔ (∃ k, k < m ∧ E k = x)) ∧ ((∀ a b, a < m → b < m → E a = E b → a = b) → ∀ a b, a < m → b < m → F a = F b → a = b)
theorem SameE.refl (m : Nat) (E : Nat → Pt) : SameE m E E := ⟨fun _ => Iff.rfl, fun h => h⟩
theorem SameE.trans {m : Nat} {E F G : Nat → Pt} (h : SameE m E F) (h' : SameE m F G) : SameE m E G := ⟨fun x => (h'.1 x).trans (h.1 x), fun q => h'.2 (h.2 q)⟩
def tau (i j k : Nat) : Nat := if k = i then j else if k = j then i else k
theorem tau_lt {i j k m : Nat} (hi : i < m) (hj : j < m) (hk : k < m) : tau i j k < m := by
  unfold tau
  split
  · exact hj
  · split
    · exact hi
    · exact hk
theorem swp_tau (E : Nat → Pt) (i j k : Nat) : swp E i j k = E (tau i j k) := by
  unfold swp tau
  split
  · rfl
  · split <;> rfl
theorem tau_inj {i j a b : Nat} (h : tau i j a = tau i j b) : a = b := by
  unfold tau at h
  repeat' split at h
  all_goals omega
theorem tau_tau (i j k : Nat) : tau i j (tau i j k) = k := by
  unfold tau
  repeat' split
  all_goals omega
theorem sameE_swp {m : Nat} (E : Nat → Pt) {i j : Nat} (hi : i < m) (hj : j < m) : SameE m E (swp E i j) := by
  refine ⟨fun x => ⟨fun ⟨k, hk, e⟩ => ⟨tau i j k, tau_lt hi hj hk, (swp_tau E i j k).symm.trans e⟩, fun ⟨k, hk, e⟩ => ⟨tau i j k, tau_lt hi hj hk, by rw [swp_tau, tau_tau]; exact e⟩⟩, fun h a b ha hb e => ?_⟩
  rw [swp_tau, swp_tau] at e
  exact tau_inj (h _ _ (tau_lt hi hj ha) (tau_lt hi hj hb) e)
/-- No entry comes behind its parent, but at the places that q excepts. -/
def HpX (q : Nat → Prop) (m : Nat) (E : Nat → Pt) : Prop := ∀ c, 0 < c → c < m → ¬ q c → nbB (E ((c - 1) / 2)) (E c) = false
def HpE (m : Nat) (E : Nat → Pt) : Prop := ∀ c, 0 < c → c < m → nbB (E ((c - 1) / 2)) (E c) = false
/-- On the way up: a heap but at j; the children of j fit j's parent. -/
def UpI (m j : Nat) (E : Nat → Pt) : Prop := (∀ c, 0 < c → c < m → c ≠ j → nbB (E ((c - 1) / 2)) (E c) = false) ∧ (0 < j → ∀ c, 0 < c → c < m → (c - 1) / 2 = j → nbB (E ((j - 1) / 2)) (E c) = false)
theorem up_stop {m j : Nat} {E : Nat → Pt} (h : UpI m j E) (hj : j = 0 ∨ nbB (E ((j - 1) / 2)) (E j) = false) : HpE m E := fun c h0 hc => by
  by_cases e : c = j
  · subst e
    rcases hj with hj | hj
    · omega
    · exact hj
  · exact h.1 c h0 hc e
theorem up_step {m j : Nat} {E : Nat → Pt} (h : UpI m j E) (h0 : 0 < j) (hjm : j < m) (hl : nbB (E ((j - 1) / 2)) (E j) = true) : UpI m ((j - 1) / 2) (swp E ((j - 1) / 2) j) := by
  obtain ⟨i, hi⟩ : ∃ i, i = (j - 1) / 2 := ⟨_, rfl⟩
  rw [← hi] at hl ⊢
  have hij : i < j := by omega
  obtain ⟨h1, h2⟩ := h
  have h2 := h2 h0
  rw [← hi] at h2
  have hls := nb_asym hl
  have hki : ∀ c, 0 < c → c < m → (c - 1) / 2 = i → c ≠ j → nbB (E i) (E c) = false := fun c a b e hne => by
    have := h1 c a b hne
    rwa [e] at this
  refine ⟨fun c c0 cm hc => ?_, fun i0 c c0 cm hc => ?_⟩
  · by_cases e : c = j
    · subst e
      rw [← hi, swp_l, swp_r]
      exact hls
    · rw [swp_o hc e]
      by_cases e1 : (c - 1) / 2 = j
      · rw [e1, swp_r]
        exact h2 c c0 cm e1
      · by_cases e2 : (c - 1) / 2 = i
        · rw [e2, swp_l]
          exact nb_le hls (hki c c0 cm e2 e)
        · rw [swp_o e2 e1]
          exact h1 c c0 cm e
  · rw [swp_o (by omega) (by omega)]
    have hp := h1 i i0 (by omega) (by omega)
    by_cases e : c = j
    · subst e
      rw [swp_r]
      exact hp
    · rw [swp_o (by omega) e]
      exact nb_le hp (hki c c0 cm hc e)
/-- On the way down: a heap but for the children of i; these fit i's parent. -/
def DnI (m i : Nat) (E : Nat → Pt) : Prop := (∀ c, 0 < c → c < m → (c - 1) / 2 ≠ i → nbB (E ((c - 1) / 2)) (E c) = false) ∧ (0 < i → ∀ c, 0 < c → c < m → (c - 1) / 2 = i → nbB (E ((i - 1) / 2)) (E c) = false)
theorem dn_stop {m i : Nat} {E : Nat → Pt} (h : DnI m i E) (hj : ∀ c, 0 < c → c < m → (c - 1) / 2 = i → nbB (E i) (E c) = false) : HpE m E := fun c h0 hc => by
  by_cases e : (c - 1) / 2 = i
  · rw [e]; exact hj c h0 hc e
  · exact h.1 c h0 hc e
/-- The child that moves up is one that none of i's children comes behind. -/
theorem dn_step {m i j : Nat} {E : Nat → Pt} (h : DnI m i E) (hj0 : 0 < j) (hjm : j < m) (hji : (j - 1) / 2 = i) (hmx : ∀ c, 0 < c → c < m → (c - 1) / 2 = i → nbB (E j) (E c) = false) (hl : nbB (E i) (E j) = true) : DnI m j (swp E i j) := by
  have hij : i < j := by omega
  obtain ⟨h1, h2⟩ := h
  refine ⟨fun c c0 cm hc => ?_, fun _ c c0 cm hc => ?_⟩
  · by_cases e2 : (c - 1) / 2 = i
    · rw [e2, swp_l]
      by_cases e : c = j
      · subst e
        rw [swp_r]
        exact nb_asym hl
      · rw [swp_o (by omega) e]
        exact hmx c c0 cm e2
    · rw [swp_o e2 hc]
      by_cases e : c = i
      · subst e
        rw [swp_l]
        exact h2 c0 j hj0 hjm hji
      · rw [swp_o e (by omega)]
        exact h1 c c0 cm e2
  · rw [hji, swp_l, swp_o (by omega) (by omega)]
    have := h1 c c0 cm (by omega)
    rwa [hc] at this
theorem heap_top {m : Nat} {E : Nat → Pt} (h : HpE m E) : ∀ c, c < m → nbB (E 0) (E c) = false := by
  intro c
  induction c using Nat.strongRecOn with
  | _ c ih =>
    intro hc
    by_cases c0 : c = 0
    · rw [c0]; exact nb_irr _
    · exact nb_le (ih ((c - 1) / 2) (by omega) (by omega)) (h c (by omega) hc)
/-- An entry behind the others: on the way up from it. -/
theorem up_new {m : Nat} {E : Nat → Pt} {x : Pt} (h : HpE m E) : UpI (m + 1) m (fun k => if k = m then x else E k) := by
  refine ⟨fun c c0 cm hc => ?_, fun m0 c c0 cm hc => by omega⟩
  simp only
  rw [if_neg (by omega), if_neg hc]
  exact h c c0 (by omega)
/-- The last one on top: on the way down from it. -/
theorem dn_new {m : Nat} {E : Nat → Pt} (h : HpE (m + 1) E) : DnI m 0 (swp E 0 m) := by
  refine ⟨fun c c0 cm hc => ?_, fun h => absurd h (by omega)⟩
  rw [swp_o (by omega) (by omega), swp_o (by omega) (by omega)]
  exact h c c0 (by omega)
end Go.Proofs.Ytaehfildhmljeaa

namespace Go.Proofs.Ytaehfildhmljeaa
open Go.RowKit Go.Shelf

/-- The first m entries. -/
def eL (E : Nat → Pt) (m : Nat) : List Pt := (List.range m).map E
theorem eL_len (E : Nat → Pt) (m : Nat) : (eL E m).length = m := by simp [eL]
theorem eL_get {E : Nat → Pt} {m i : Nat} (h : i < m) : (eL E m)[i]? = some (E i) := by simp [eL, h]
theorem eL_swp (E : Nat → Pt) {m i j : Nat} (hi : i < m) (hj : j < m) : ((eL E m).set i (E j)).set j (E i) = eL (swp E i j) m := by
  apply List.ext_getElem?
  intro k
  by_cases hk : k < m
  · rw [eL_get hk, List.getElem?_set, List.getElem?_set, eL_get hk]
    by_cases h1 : j = k
    · subst h1
      rw [if_pos rfl, if_pos (by simp [eL_len, hj]), swp_r]
    · rw [if_neg h1]
      by_cases h2 : i = k
      · subst h2
        rw [if_pos rfl, if_pos (by rw [eL_len]; exact hi), swp_l]
      · rw [if_neg h2, swp_o (fun e => h2 e.symm) (fun e => h1 e.symm)]
  · rw [List.getElem?_eq_none (by simp [eL_len]; omega), List.getElem?_eq_none (by simp [eL_len]; omega)]
theorem eL_succ (E : Nat → Pt) (m : Nat) : eL E (m + 1) = eL E m ++ [E m] := by
  unfold eL
  rw [List.range_succ, List.map_append]
  rfl
theorem eL_new (E : Nat → Pt) (m : Nat) (x : Pt) : eL (fun k => if k = m then x else E k) (m + 1) = eL E m ++ [x] := by
  rw [eL_succ]
  have : eL (fun k => if k = m then x else E k) m = eL E m := by
    unfold eL
    apply List.map_congr_left
    intro k hk
    have := List.mem_range.1 hk
    rw [if_neg (by omega)]
  rw [this, if_pos rfl]
theorem eL_take (E : Nat → Pt) (m : Nat) : (eL E (m + 1)).take m = eL E m := by
  rw [eL_succ]
  simp [eL_len]
theorem or_pos (a b c d : Int) : decide (0 < orF (cmpF a c) (cmpF b d)) = nbB (d, c) (b, a) := by
  have h : nbB (d, c) (b, a) = decide (c < a ∨ (c = a ∧ d < b)) := by
    by_cases h : c < a ∨ (c = a ∧ d < b)
    · rw [decide_eq_true h]; exact (nb_iff _ _).2 h
    · rw [decide_eq_false h]; exact (nb_no _ _).2 h
  rw [h]
  unfold orF cmpF
  apply Bool.eq_iff_iff.2
  simp only [decide_eq_true_eq]
  repeat' split
  all_goals omega
theorem isnan2_any (a : Int) (w : World) : Calls Try.prog 165 #[.int .i64 a] w fun e w' => e = .returned (.bool false) ∧ w' = w := by
  go_enter Try.func165, Try.ntmps165
  go_wp2
  go_ret
  exact ⟨by simp, rfl⟩
theorem cmp2_any (a b : Int) (w : World) : Calls Try.prog 164 #[.int .i64 a, .int .i64 b] w fun e w' => e = .returned (.int .i64 (cmpF a b)) ∧ w' = w := by
  rcases Int.lt_trichotomy a b with h | h | h
  · have HE : Hid (cmpF a b = -1) := Lib.hid (by unfold cmpF; rw [if_pos h])
    go_enter Try.func164, Try.ntmps164
    go_wp2_with (go_at_call 165; (with_reducible refine (isnan2_any _ _).mono ?_); rintro e w1 ⟨rfl, rfl⟩)
    go_ret
    exact ⟨by rw [HE.out]; rfl, rfl⟩
  · subst h
    have HE : Hid (cmpF a a = 0) := Lib.hid (by unfold cmpF; simp)
    go_enter Try.func164, Try.ntmps164
    go_wp2_with (go_at_call 165; (with_reducible refine (isnan2_any _ _).mono ?_); rintro e w1 ⟨rfl, rfl⟩)
    go_ret
    exact ⟨by rw [HE.out]; rfl, rfl⟩
  · have HE : Hid (cmpF a b = 1) := Lib.hid (by unfold cmpF; rw [if_neg (by omega), if_pos h])
    have h2 : ¬ a < b := by omega
    go_enter Try.func164, Try.ntmps164
    go_wp2_with (go_at_call 165; (with_reducible refine (isnan2_any _ _).mono ?_); rintro e w1 ⟨rfl, rfl⟩)
    go_ret
    exact ⟨by rw [HE.out]; rfl, rfl⟩
theorem len_nb (v : Value) (m : Nat) (A : Option Addr) (c : Nat) (w : World) (hv : v = .slice A m c) : Calls Try.prog 161 #[v] w fun e w' => e = .returned (.int .i64 m) ∧ w' = w := by
  subst hv
  go_enter Try.func161, Try.ntmps161
  go_wp2
  go_ret
  exact ⟨rfl, rfl⟩
theorem nb_cells {W : World} {base g m c : Nat} {E : Nat → Pt} (h : W.ownsRow base 94 2 (.slice (some ⟨g, 0, none⟩) m c) m (ptV (eL E m))) {i : Nat} (hi : i < m) :
    W.cell? ⟨g, i * 2, none⟩ = some (.int .i64 (E i).1) ∧ W.cell? ⟨g, i * 2 + 1, none⟩ = some (.int .i64 (E i).2) := by
  obtain ⟨a, b⟩ := ptV_get (eL E m) i (E i) (eL_get hi)
  exact ⟨by rw [World.ownsRow.cellAt h _ (by omega)]; exact a, by rw [World.ownsRow.cellAt h _ (by omega)]; exact b⟩

set_option maxRecDepth 100000 in
set_option maxHeartbeats 4000000 in
theorem less_nb (base g m c i j : Nat) (E : Nat → Pt) (r : Bool) (w : World) (h : w.ownsRow base 94 2 (.slice (some ⟨g, 0, none⟩) m c) m (ptV (eL E m))) (hi : i < m) (hj : j < m) (hr : Hid (nbB (E j) (E i) = r)) :
    Calls Try.prog 162 #[.slice (some ⟨g, 0, none⟩) m c, .int .i64 i, .int .i64 j] w fun e w' => e = .returned (.bool r) ∧ Below w.heap.size w w' := by
  obtain ⟨p0, p1⟩ := nb_cells h hi
  obtain ⟨p2, p3⟩ := nb_cells h hj
  have l1 := (h.lt g rfl).2
  clear h
  obtain ⟨⟨a, b⟩, hab⟩ : ∃ x, x = E i := ⟨_, rfl⟩
  obtain ⟨⟨a', b'⟩, hab'⟩ : ∃ x, x = E j := ⟨_, rfl⟩
  rw [← hab] at p0 p1 hr
  rw [← hab'] at p2 p3 hr
  clear hab hab'
  simp only at p0 p1 p2 p3
  have HX := Lib.hid (fun W => cmp_any b b' W)
  have HY := Lib.hid (fun W => cmp2_any a a' W)
  have hR := or_pos b a b' a'
  rw [hr.out] at hR
  obtain ⟨u, hu⟩ : ∃ u, u = cmpF b b' := ⟨_, rfl⟩
  obtain ⟨v, hv⟩ : ∃ v, v = cmpF a a' := ⟨_, rfl⟩
  rw [← hu] at HX hR
  rw [← hv] at HY hR
  have HO := Lib.hid (fun W G (hb : BoxAt W G 3 #[.int .i64 u, .int .i64 v]) => or_any u v G W hb)
  obtain ⟨z, hz⟩ : ∃ z, z = orF u v := ⟨_, rfl⟩
  rw [← hz] at HO hR
  clear hu hv hr hz
  have i0 : (0 : Int) ≤ (i : Int) := Int.natCast_nonneg _
  have i1 : (i : Int) < (m : Int) := by omega
  have j0 : (0 : Int) ≤ (j : Int) := Int.natCast_nonneg _
  have j1 : (j : Int) < (m : Int) := by omega
  go_enter Try.func162, Try.ntmps162
  go_upto_region 1 with fail
  go_region_held3 (fun W => W.cell? ⟨g, i * 2, none⟩ = some (.int .i64 a) ∧ W.cell? ⟨g, i * 2 + 1, none⟩ = some (.int .i64 b) ∧ W.cell? ⟨g, j * 2, none⟩ = some (.int .i64 a') ∧ W.cell? ⟨g, j * 2 + 1, none⟩ = some (.int .i64 b'))
    (first | exact ⟨p0, p1, p2, p3⟩ | go_keep)
    (first
      | (go_at_call 106; (with_reducible refine (HX.out _).mono ?_); rintro e w1 ⟨rfl, rfl⟩)
      | (go_at_call 164; (with_reducible refine (HY.out _).mono ?_); rintro e w1 ⟨rfl, rfl⟩)
      | (go_at_call 105; (with_reducible refine (HO.out _ _ (BoxAt.drew (BoxAt.new w 3 #[.int .i64 u, .int .i64 v]))).mono ?_); rintro e w1 ⟨rfl, rfl⟩))
  all_goals go_wp2
  all_goals go_ret
  all_goals exact ⟨rfl, Below.drew ((Below.refl _ _).alloc (Nat.le_refl _) _)⟩

theorem grown_trans {w w1 w2 : World} {row : Option Nat} (h : w.grownBy w1 row) (h' : w1.grownBy w2 row) : w.grownBy w2 row :=
  ⟨h'.os.trans h.os, h'.tape.trans h.tape, h'.output.trans h.output, Nat.le_trans h.size h'.size, fun k hk hn => (h'.block k (Nat.lt_of_lt_of_le hk h.size) hn).trans (h.block k hk hn)⟩
theorem grown_drew {w w1 : World} {row : Option Nat} (h : w.grownBy w1 row) : w.grownBy w1.drew row := ⟨h.os, h.tape, h.output, h.size, h.block⟩
set_option maxRecDepth 100000 in
set_option maxHeartbeats 4000000 in
theorem swap_ne (base g m c i j : Nat) (E : Nat → Pt) (w : World) (h : w.ownsRow base 94 2 (.slice (some ⟨g, 0, none⟩) m c) m (ptV (eL E m))) (hi : i < m) (hj : j < m) (hij : i ≠ j) :
    Calls Try.prog 163 #[.slice (some ⟨g, 0, none⟩) m c, .int .i64 i, .int .i64 j] w fun e w' => e = .returned (.tuple #[]) ∧ w'.ownsRow base 94 2 (.slice (some ⟨g, 0, none⟩) m c) m (ptV (eL (swp E i j) m)) ∧ w.grownBy w' (some g) := by
  obtain ⟨p0, p1⟩ := nb_cells h hi
  obtain ⟨p2, p3⟩ := nb_cells h hj
  have l1 := (h.lt g rfl).2
  have f0 := World.ownsRow.frozenAt h (i * 2)
  have f1 := World.ownsRow.frozenAt h (i * 2 + 1)
  have f2 := World.ownsRow.frozenAt h (j * 2)
  have f3 := World.ownsRow.frozenAt h (j * 2 + 1)
  have HS : Hid ((((((w.setCell ⟨g, i * 2, none⟩ (.int .i64 (E j).1)).setCell ⟨g, i * 2 + 1, none⟩ (.int .i64 (E j).2)).setCell ⟨g, j * 2, none⟩ (.int .i64 (E i).1)).setCell ⟨g, j * 2 + 1, none⟩ (.int .i64 (E i).2)).ownsRow base 94 2 (.slice (some ⟨g, 0, none⟩) m c) m (ptV (eL (swp E i j) m))) ∧
      w.grownBy ((((w.setCell ⟨g, i * 2, none⟩ (.int .i64 (E j).1)).setCell ⟨g, i * 2 + 1, none⟩ (.int .i64 (E j).2)).setCell ⟨g, j * 2, none⟩ (.int .i64 (E i).1)).setCell ⟨g, j * 2 + 1, none⟩ (.int .i64 (E i).2)) (some g)) := Lib.hid (by
    have s0 := h.stored (i * 2) (.int .i64 (E j).1)
    have s1 := s0.1.stored (i * 2 + 1) (.int .i64 (E j).2)
    have s2 := s1.1.stored (j * 2) (.int .i64 (E i).1)
    have s3 := s2.1.stored (j * 2 + 1) (.int .i64 (E i).2)
    refine ⟨?_, grown_trans (grown_trans (grown_trans s0.2 s1.2) s2.2) s3.2⟩
    have := s3.1
    rwa [ptV_set, ptV_set, eL_swp E hi hj] at this)
  obtain ⟨⟨a, b⟩, hab⟩ : ∃ x, x = E i := ⟨_, rfl⟩
  obtain ⟨⟨a', b'⟩, hab'⟩ : ∃ x, x = E j := ⟨_, rfl⟩
  rw [← hab] at p0 p1 HS
  rw [← hab'] at p2 p3 HS
  clear hab hab' h
  simp only at p0 p1 p2 p3
  have i0 : (0 : Int) ≤ (i : Int) := Int.natCast_nonneg _
  have i1 : (i : Int) < (m : Int) := by omega
  have j0 : (0 : Int) ≤ (j : Int) := Int.natCast_nonneg _
  have j1 : (j : Int) < (m : Int) := by omega
  go_enter Try.func163, Try.ntmps163
  go_wp2
  go_region
  all_goals (try go_wp2)
  all_goals go_end0
  all_goals exact ⟨rfl, HS.out.1, grown_drew HS.out.2⟩
set_option maxRecDepth 100000 in
set_option maxHeartbeats 4000000 in
theorem swap_eq (base g m c i : Nat) (E : Nat → Pt) (w : World) (h : w.ownsRow base 94 2 (.slice (some ⟨g, 0, none⟩) m c) m (ptV (eL E m))) (hi : i < m) :
    Calls Try.prog 163 #[.slice (some ⟨g, 0, none⟩) m c, .int .i64 i, .int .i64 i] w fun e w' => e = .returned (.tuple #[]) ∧ w'.ownsRow base 94 2 (.slice (some ⟨g, 0, none⟩) m c) m (ptV (eL (swp E i i) m)) ∧ w.grownBy w' (some g) := by
  obtain ⟨p0, p1⟩ := nb_cells h hi
  have l1 := (h.lt g rfl).2
  have f0 := World.ownsRow.frozenAt h (i * 2)
  have f1 := World.ownsRow.frozenAt h (i * 2 + 1)
  have HS : Hid ((((((w.setCell ⟨g, i * 2, none⟩ (.int .i64 (E i).1)).setCell ⟨g, i * 2 + 1, none⟩ (.int .i64 (E i).2)).setCell ⟨g, i * 2, none⟩ (.int .i64 (E i).1)).setCell ⟨g, i * 2 + 1, none⟩ (.int .i64 (E i).2)).ownsRow base 94 2 (.slice (some ⟨g, 0, none⟩) m c) m (ptV (eL (swp E i i) m))) ∧
      w.grownBy ((((w.setCell ⟨g, i * 2, none⟩ (.int .i64 (E i).1)).setCell ⟨g, i * 2 + 1, none⟩ (.int .i64 (E i).2)).setCell ⟨g, i * 2, none⟩ (.int .i64 (E i).1)).setCell ⟨g, i * 2 + 1, none⟩ (.int .i64 (E i).2)) (some g)) := Lib.hid (by
    have s0 := h.stored (i * 2) (.int .i64 (E i).1)
    have s1 := s0.1.stored (i * 2 + 1) (.int .i64 (E i).2)
    have s2 := s1.1.stored (i * 2) (.int .i64 (E i).1)
    have s3 := s2.1.stored (i * 2 + 1) (.int .i64 (E i).2)
    refine ⟨?_, grown_trans (grown_trans (grown_trans s0.2 s1.2) s2.2) s3.2⟩
    have := s3.1
    rwa [ptV_set, ptV_set, eL_swp E hi hi] at this)
  obtain ⟨⟨a, b⟩, hab⟩ : ∃ x, x = E i := ⟨_, rfl⟩
  rw [← hab] at p0 p1 HS
  clear hab h
  simp only at p0 p1
  have i0 : (0 : Int) ≤ (i : Int) := Int.natCast_nonneg _
  have i1 : (i : Int) < (m : Int) := by omega
  go_enter Try.func163, Try.ntmps163
  go_wp2
  go_region
  all_goals (try go_wp2)
  all_goals go_end0
  all_goals exact ⟨rfl, HS.out.1, grown_drew HS.out.2⟩
theorem swap_nb (base g m c i j : Nat) (E : Nat → Pt) (w : World) (h : w.ownsRow base 94 2 (.slice (some ⟨g, 0, none⟩) m c) m (ptV (eL E m))) (hi : i < m) (hj : j < m) :
    Calls Try.prog 163 #[.slice (some ⟨g, 0, none⟩) m c, .int .i64 i, .int .i64 j] w fun e w' => e = .returned (.tuple #[]) ∧ w'.ownsRow base 94 2 (.slice (some ⟨g, 0, none⟩) m c) m (ptV (eL (swp E i j) m)) ∧ w.grownBy w' (some g) := by
  by_cases hij : i = j
  · subst hij
    exact swap_eq base g m c i E w h hi
  · exact swap_ne base g m c i j E w h hi hj hij
end Go.Proofs.Ytaehfildhmljeaa

namespace Go.Proofs.Ytaehfildhmljeaa
open Go.RowKit Go.Shelf

theorem load_at {W : World} {bx : Nat} {v : Value} (h : W.cell? ⟨bx, 0, none⟩ = some v) : (loadVar 90 ⟨bx, 0, none⟩).run Try.prog W = .ok v W := by
  simp [loadVar, go_sem, h]
theorem meth_len0 (W : World) (bx : Nat) : (method 271 92 (.pointer (some ⟨bx, 0, none⟩)) "Len").run Try.prog W = (do let r ← loadVar 90 ⟨bx, 0, none⟩; pure (161, r) : Sem (FuncId × Value)).run Try.prog W := by kernel_rfl
theorem meth_less0 (W : World) (bx : Nat) : (method 271 92 (.pointer (some ⟨bx, 0, none⟩)) "Less").run Try.prog W = (do let r ← loadVar 90 ⟨bx, 0, none⟩; pure (162, r) : Sem (FuncId × Value)).run Try.prog W := by kernel_rfl
theorem meth_swap0 (W : World) (bx : Nat) : (method 271 92 (.pointer (some ⟨bx, 0, none⟩)) "Swap").run Try.prog W = (do let r ← loadVar 90 ⟨bx, 0, none⟩; pure (163, r) : Sem (FuncId × Value)).run Try.prog W := by kernel_rfl
theorem meth_push (W : World) (bx : Nat) : (method 271 92 (.pointer (some ⟨bx, 0, none⟩)) "Push").run Try.prog W = .ok (167, .pointer (some ⟨bx, 0, none⟩)) W := by kernel_rfl
theorem meth_pop (W : World) (bx : Nat) : (method 271 92 (.pointer (some ⟨bx, 0, none⟩)) "Pop").run Try.prog W = .ok (166, .pointer (some ⟨bx, 0, none⟩)) W := by kernel_rfl
section
variable {W : World} {bx : Nat} {v : Value}
theorem meth_len (h : W.cell? ⟨bx, 0, none⟩ = some v) : (method 271 92 (.pointer (some ⟨bx, 0, none⟩)) "Len").run Try.prog W = .ok (161, v) W := by
  rw [meth_len0, Sem.run_bind, load_at h]; rfl
theorem meth_less (h : W.cell? ⟨bx, 0, none⟩ = some v) : (method 271 92 (.pointer (some ⟨bx, 0, none⟩)) "Less").run Try.prog W = .ok (162, v) W := by
  rw [meth_less0, Sem.run_bind, load_at h]; rfl
theorem meth_swap (h : W.cell? ⟨bx, 0, none⟩ = some v) : (method 271 92 (.pointer (some ⟨bx, 0, none⟩)) "Swap").run Try.prog W = .ok (163, v) W := by
  rw [meth_swap0, Sem.run_bind, load_at h]; rfl
end

theorem grown_some {w w1 : World} {g : Nat} (h : Below w.heap.size w w1) : w.grownBy w1 (some g) := ⟨h.os, h.tape, h.output, h.size, fun k hk _ => h.block k hk⟩
set_option maxRecDepth 100000 in
set_option maxHeartbeats 4000000 in
theorem up_nb (base g c m bx j : Nat) (E : Nat → Pt) (w : World) (hb : BoxAt w bx 90 #[.slice (some ⟨g, 0, none⟩) m c]) (hne : bx ≠ g) (h : w.ownsRow base 94 2 (.slice (some ⟨g, 0, none⟩) m c) m (ptV (eL E m))) (hj : j < m) (hm : m ≤ 1000000) (hU : UpI m j E) :
    Calls Try.prog 109 #[.iface 92 (.pointer (some ⟨bx, 0, none⟩)), .int .i64 j] w fun e w' => e = .returned (.tuple #[]) ∧ ∃ E', HpE m E' ∧ SameE m E E' ∧ w'.ownsRow base 94 2 (.slice (some ⟨g, 0, none⟩) m c) m (ptV (eL E' m)) ∧ w.grownBy w' (some g) := by
  have HB := Lib.hid hb
  have HO := Lib.hid h
  have HU := Lib.hid hU
  clear hb h hU
  go_enter Try.func109, Try.ntmps109
  go_wp2
  go_loopw [1, 4] (fun jv iv wr => ∃ (j' : Nat) (E' : Nat → Pt), jv = .int .i64 j' ∧ j' < m ∧ Hid (UpI m j' E') ∧ Hid (SameE m E E') ∧ Hid (wr.ownsRow base 94 2 (.slice (some ⟨g, 0, none⟩) m c) m (ptV (eL E' m))) ∧ Hid (w.grownBy wr (some g))) (fun jv _ _ => (intOf jv).toNat)
  case atStart => exact ⟨j, E, rfl, hj, HU, Lib.hid (SameE.refl _ _), HO, Lib.hid (grown_some (Below.refl _ _))⟩
  case round =>
    obtain ⟨j', E', rfl, hj', HU', HS, HR, HG⟩ := hrel
    have hc : wr.cell? ⟨bx, 0, none⟩ = some (.slice (some ⟨g, 0, none⟩) m c) := (HB.out.grown HG.out (by simpa using hne)).cell 0
    have hl0 := (HB.out.grown HG.out (by simpa using hne)).lt
    have wj : IntKind.i64.wrap ((j' : Int) - 1) = (j' : Int) - 1 := IntWalk.i64_in _ (by omega)
    obtain ⟨i, hi⟩ : ∃ i, i = (j' - 1) / 2 := ⟨_, rfl⟩
    have him : i < m := by omega
    have q : ((j' : Int) - 1).tdiv 2 = (i : Int) := by
      by_cases h0 : j' = 0
      · subst h0; subst hi; rfl
      · have e : (j' : Int) - 1 = ((j' - 1 : Nat) : Int) := by omega
        rw [e, hi]
        exact (Int.ofNat_tdiv _ _).symm
    have HL := Lib.hid (fun r W (h : W.ownsRow base 94 2 (.slice (some ⟨g, 0, none⟩) m c) m (ptV (eL E' m))) (hr : nbB (E' i) (E' j') = r) => less_nb base g m c j' i E' r W h hj' him (Lib.hid hr))
    clear HU HO
    by_cases h0 : j' = 0
    · have e1 : ((i : Int) == (j' : Int)) = true := by rw [hi, h0]; rfl
      have HF := Lib.hid (up_stop HU'.out (Or.inl h0))
      clear HL hi h0 HU'
      go_wp2
      go_end0
      exact ⟨rfl, E', HF.out, HS.out, HR.out, HG.out⟩
    · have e1 : ((i : Int) == (j' : Int)) = false := by simp; omega
      cases hl : nbB (E' i) (E' j') with
      | false =>
        have HF := Lib.hid (up_stop HU'.out (Or.inr (by rw [← hi]; exact hl)))
        have HL2 := Lib.hid (HL.out _ wr HR.out hl)
        clear HL hi h0 HU' hl
        go_wp2_with (first
          | (rw [meth_less hc])
          | (go_at_call 162; (with_reducible refine HL2.out.mono ?_); rintro e w1 ⟨rfl, hb1⟩))
        go_end0
        exact ⟨rfl, E', HF.out, HS.out, HR.out.kept (grown_of_below hb1) (Classical.em _), grown_trans HG.out (grown_some hb1)⟩
      | true =>
        have HF := Lib.hid (up_step HU'.out (by omega) hj' (by rw [← hi]; exact hl))
        have HE := Lib.hid (sameE_swp E' him hj')
        have HL2 := Lib.hid (HL.out _ wr HR.out hl)
        have hij : i ≠ j' := by omega
        have HSw := Lib.hid (fun W (h : W.ownsRow base 94 2 (.slice (some ⟨g, 0, none⟩) m c) m (ptV (eL E' m))) => swap_nb base g m c i j' E' W h him hj')
        have hlt : i < j' := by omega
        rw [← hi] at HF
        clear HL hi h0 HU' hl hij
        go_wp2_with (first
          | (rw [meth_less hc])
          | (go_at_call 162; (with_reducible refine HL2.out.mono ?_); rintro e w1 ⟨rfl, hb1⟩; have hc1 : w1.cell? ⟨bx, 0, none⟩ = some (.slice (some ⟨g, 0, none⟩) m c) := (hb1.cell (p := ⟨bx, 0, none⟩) hl0).trans hc; have HR1 := Lib.hid (HR.out.kept (grown_of_below hb1) (Classical.em _)))
          | (rw [meth_swap hc1])
          | (go_at_call 163; (with_reducible refine (HSw.out _ HR1.out).mono ?_); rintro e w2 ⟨rfl, hr2, hg2⟩))
        go_roundw
        case rel => exact ⟨i, _, rfl, him, HF, Lib.hid (HS.out.trans HE.out), Lib.hid hr2, Lib.hid (grown_trans (grown_trans HG.out (grown_some hb1)) hg2)⟩
        case measure => first | (simp [intOf]; done) | (simp [intOf]; omega)

set_option maxRecDepth 100000 in
set_option maxHeartbeats 16000000 in
theorem down_nb (base g c M n bx : Nat) (E : Nat → Pt) (w : World) (hb : BoxAt w bx 90 #[.slice (some ⟨g, 0, none⟩) M c]) (hne : bx ≠ g) (h : w.ownsRow base 94 2 (.slice (some ⟨g, 0, none⟩) M c) M (ptV (eL E M))) (hn : n ≤ M) (hM : 0 < M) (hm : M ≤ 1000000) (hD : DnI n 0 E) :
    Calls Try.prog 112 #[.iface 92 (.pointer (some ⟨bx, 0, none⟩)), .int .i64 0, .int .i64 n] w fun e w' => Hid (∃ r, e = .returned (.bool r)) ∧ ∃ E', HpE n E' ∧ SameE n E E' ∧ (∀ k, n ≤ k → E' k = E k) ∧ w'.ownsRow base 94 2 (.slice (some ⟨g, 0, none⟩) M c) M (ptV (eL E' M)) ∧ w.grownBy w' (some g) := by
  have HB := Lib.hid hb
  have HO := Lib.hid h
  have HD := Lib.hid hD
  clear hb h hD
  go_enter Try.func112, Try.ntmps112
  go_wp2
  go_loopw [7, 8, 9, 10] (fun iv _ _ _ wr => ∃ (i : Nat) (E' : Nat → Pt), iv = .int .i64 i ∧ i < M ∧ Hid (DnI n i E') ∧ Hid (SameE n E E') ∧ Hid (∀ k, n ≤ k → E' k = E k) ∧ Hid (wr.ownsRow base 94 2 (.slice (some ⟨g, 0, none⟩) M c) M (ptV (eL E' M))) ∧ Hid (w.grownBy wr (some g))) (fun iv _ _ _ _ => M - (intOf iv).toNat)
  case atStart => exact ⟨0, E, rfl, hM, HD, Lib.hid (SameE.refl _ _), Lib.hid (fun _ _ => rfl), HO, Lib.hid (grown_some (Below.refl _ _))⟩
  case round =>
    obtain ⟨i, E', rfl, hiM, HD', HS, HX, HR, HG⟩ := hrel
    have hc : wr.cell? ⟨bx, 0, none⟩ = some (.slice (some ⟨g, 0, none⟩) M c) := (HB.out.grown HG.out (by simpa using hne)).cell 0
    have hl0 := (HB.out.grown HG.out (by simpa using hne)).lt
    obtain ⟨j1, hj1⟩ : ∃ j1, j1 = 2 * i + 1 := ⟨_, rfl⟩
    obtain ⟨j2, hj2⟩ : ∃ j2, j2 = 2 * i + 2 := ⟨_, rfl⟩
    have p1 : IntKind.i64.wrap (2 * (i : Int) + 1) = (j1 : Int) := by rw [IntWalk.i64_in _ (by omega)]; omega
    have p2 : IntKind.i64.wrap ((j1 : Int) + 1) = (j2 : Int) := by rw [IntWalk.i64_in _ (by omega)]; omega
    have HJ := Lib.hid (And.intro hj1 hj2)
    clear hj1 hj2
    have HL := Lib.hid (fun a b r W (h : W.ownsRow base 94 2 (.slice (some ⟨g, 0, none⟩) M c) M (ptV (eL E' M))) (ha : a < M) (hb : b < M) (hr : nbB (E' b) (E' a) = r) => less_nb base g M c a b E' r W h ha hb (Lib.hid hr))
    have hch : Hid (∀ c, 0 < c → (c - 1) / 2 = i → c = j1 ∨ c = j2) := Lib.hid (fun c h0 h1 => by have := HJ.out; omega)
    clear HO HD
    by_cases a1 : n ≤ j1
    · have b1 : (n : Int) ≤ (j1 : Int) := by omega
      have HF := Lib.hid (dn_stop HD'.out (fun c h0 hc h1 => by have := hch.out c h0 h1; have := HJ.out; omega))
      clear HL HD' hch
      go_wp2
      go_ret
      exact ⟨Lib.hid ⟨_, rfl⟩, E', HF.out, HS.out, HX.out, HR.out, HG.out⟩
    · have b1 : ¬ (n : Int) ≤ (j1 : Int) := by omega
      have b2 : ¬ (j1 : Int) < 0 := by have := HJ.out; omega
      by_cases a2 : j2 < n
      · have b3 : (j2 : Int) < (n : Int) := by have := HJ.out; omega
        cases hr : nbB (E' j1) (E' j2) with
        | true =>
          have HLa := Lib.hid (fun W h => HL.out j2 j1 true W h (by have := HJ.out; omega) (by have := HJ.out; omega) hr)
          have hmx : Hid (∀ c, 0 < c → c < n → (c - 1) / 2 = i → nbB (E' j2) (E' c) = false) := Lib.hid (fun c h0 hc h1 => by
            rcases hch.out c h0 h1 with rfl | rfl
            · exact nb_asym hr
            · exact nb_irr _)
          clear hr
          have hjn : j2 < n := by have := HJ.out; omega
          have hji : (j2 - 1) / 2 = i := by have := HJ.out; omega
          have hin : i < n := by have := HJ.out; omega
          cases hl : nbB (E' i) (E' j2) with
          | false =>
            have HF := Lib.hid (dn_stop HD'.out (fun c h0 hc h1 => nb_le hl (hmx.out c h0 hc h1)))
            have HLb := Lib.hid (fun W h => HL.out j2 i false W h (by have := HJ.out; omega) hiM hl)
            clear HL HD' hch hmx hl hjn hji hin
            go_wp2_with (first
              | (rw [meth_less hc])
              | (go_at_call 162; (with_reducible refine (HLa.out _ HR.out).mono ?_); rintro e w0 ⟨rfl, hb0⟩; have hc0 : w0.cell? ⟨bx, 0, none⟩ = some (.slice (some ⟨g, 0, none⟩) M c) := (hb0.cell (p := ⟨bx, 0, none⟩) hl0).trans hc; have hl1 := Nat.lt_of_lt_of_le hl0 hb0.size; have HR0 := Lib.hid (HR.out.kept (grown_of_below hb0) (Classical.em _)); have HG0 := Lib.hid (grown_trans HG.out (grown_some hb0)); clear hc)
              | (rw [meth_less hc0])
              | (go_at_call 162; (with_reducible refine (HLb.out _ HR0.out).mono ?_); rintro e w1 ⟨rfl, hb1⟩; have hc1 : w1.cell? ⟨bx, 0, none⟩ = some (.slice (some ⟨g, 0, none⟩) M c) := (hb1.cell (p := ⟨bx, 0, none⟩) hl1).trans hc0; have HR1 := Lib.hid (HR0.out.kept (grown_of_below hb1) (Classical.em _)); have HG1 := Lib.hid (grown_trans HG0.out (grown_some hb1))))
            go_ret
            exact ⟨Lib.hid ⟨_, rfl⟩, E', HF.out, HS.out, HX.out, HR1.out, HG1.out⟩
          | true =>
            have HF := Lib.hid (dn_step HD'.out (by have := HJ.out; omega) hjn hji hmx.out hl)
            have HE := Lib.hid (sameE_swp E' hin hjn)
            have HSw := Lib.hid (fun W (h : W.ownsRow base 94 2 (.slice (some ⟨g, 0, none⟩) M c) M (ptV (eL E' M))) => swap_nb base g M c i j2 E' W h hiM (by have := HJ.out; omega))
            have HX2 : Hid (∀ k, n ≤ k → swp E' i j2 k = E k) := Lib.hid (fun k hk => by rw [swp_o (by have := HJ.out; omega) (by have := HJ.out; omega)]; exact HX.out k hk)
            have hlt : i < j2 := by have := HJ.out; omega
            have hjM : j2 < M := by have := HJ.out; omega
            have HLb := Lib.hid (fun W h => HL.out j2 i true W h (by have := HJ.out; omega) hiM hl)
            clear HL HD' hch hmx hl hjn hji hin
            go_wp2_with (first
              | (rw [meth_less hc])
              | (go_at_call 162; (with_reducible refine (HLa.out _ HR.out).mono ?_); rintro e w0 ⟨rfl, hb0⟩; have hc0 : w0.cell? ⟨bx, 0, none⟩ = some (.slice (some ⟨g, 0, none⟩) M c) := (hb0.cell (p := ⟨bx, 0, none⟩) hl0).trans hc; have hl1 := Nat.lt_of_lt_of_le hl0 hb0.size; have HR0 := Lib.hid (HR.out.kept (grown_of_below hb0) (Classical.em _)); have HG0 := Lib.hid (grown_trans HG.out (grown_some hb0)); clear hc)
              | (rw [meth_less hc0])
              | (go_at_call 162; (with_reducible refine (HLb.out _ HR0.out).mono ?_); rintro e w1 ⟨rfl, hb1⟩; have hc1 : w1.cell? ⟨bx, 0, none⟩ = some (.slice (some ⟨g, 0, none⟩) M c) := (hb1.cell (p := ⟨bx, 0, none⟩) hl1).trans hc0; have HR1 := Lib.hid (HR0.out.kept (grown_of_below hb1) (Classical.em _)); have HG1 := Lib.hid (grown_trans HG0.out (grown_some hb1)))
              | (rw [meth_swap hc1])
              | (go_at_call 163; (with_reducible refine (HSw.out _ HR1.out).mono ?_); rintro e w2 ⟨rfl, hr2, hg2⟩))
            go_roundw
            case rel => exact ⟨j2, _, rfl, hjM, HF, Lib.hid (HS.out.trans HE.out), HX2, Lib.hid hr2, Lib.hid (grown_trans HG1.out hg2)⟩
            case measure => first | (simp [intOf]; done) | (simp [intOf]; omega)
        | false =>
          have HLa := Lib.hid (fun W h => HL.out j2 j1 false W h (by have := HJ.out; omega) (by have := HJ.out; omega) hr)
          have hmx : Hid (∀ c, 0 < c → c < n → (c - 1) / 2 = i → nbB (E' j1) (E' c) = false) := Lib.hid (fun c h0 hc h1 => by
            rcases hch.out c h0 h1 with rfl | rfl
            · exact nb_irr _
            · exact hr)
          clear hr
          have hjn : j1 < n := by have := HJ.out; omega
          have hji : (j1 - 1) / 2 = i := by have := HJ.out; omega
          have hin : i < n := by have := HJ.out; omega
          cases hl : nbB (E' i) (E' j1) with
          | false =>
            have HF := Lib.hid (dn_stop HD'.out (fun c h0 hc h1 => nb_le hl (hmx.out c h0 hc h1)))
            have HLb := Lib.hid (fun W h => HL.out j1 i false W h (by have := HJ.out; omega) hiM hl)
            clear HL HD' hch hmx hl hjn hji hin
            go_wp2_with (first
              | (rw [meth_less hc])
              | (go_at_call 162; (with_reducible refine (HLa.out _ HR.out).mono ?_); rintro e w0 ⟨rfl, hb0⟩; have hc0 : w0.cell? ⟨bx, 0, none⟩ = some (.slice (some ⟨g, 0, none⟩) M c) := (hb0.cell (p := ⟨bx, 0, none⟩) hl0).trans hc; have hl1 := Nat.lt_of_lt_of_le hl0 hb0.size; have HR0 := Lib.hid (HR.out.kept (grown_of_below hb0) (Classical.em _)); have HG0 := Lib.hid (grown_trans HG.out (grown_some hb0)); clear hc)
              | (rw [meth_less hc0])
              | (go_at_call 162; (with_reducible refine (HLb.out _ HR0.out).mono ?_); rintro e w1 ⟨rfl, hb1⟩; have hc1 : w1.cell? ⟨bx, 0, none⟩ = some (.slice (some ⟨g, 0, none⟩) M c) := (hb1.cell (p := ⟨bx, 0, none⟩) hl1).trans hc0; have HR1 := Lib.hid (HR0.out.kept (grown_of_below hb1) (Classical.em _)); have HG1 := Lib.hid (grown_trans HG0.out (grown_some hb1))))
            go_ret
            exact ⟨Lib.hid ⟨_, rfl⟩, E', HF.out, HS.out, HX.out, HR1.out, HG1.out⟩
          | true =>
            have HF := Lib.hid (dn_step HD'.out (by have := HJ.out; omega) hjn hji hmx.out hl)
            have HE := Lib.hid (sameE_swp E' hin hjn)
            have HSw := Lib.hid (fun W (h : W.ownsRow base 94 2 (.slice (some ⟨g, 0, none⟩) M c) M (ptV (eL E' M))) => swap_nb base g M c i j1 E' W h hiM (by have := HJ.out; omega))
            have HX2 : Hid (∀ k, n ≤ k → swp E' i j1 k = E k) := Lib.hid (fun k hk => by rw [swp_o (by have := HJ.out; omega) (by have := HJ.out; omega)]; exact HX.out k hk)
            have hlt : i < j1 := by have := HJ.out; omega
            have hjM : j1 < M := by have := HJ.out; omega
            have HLb := Lib.hid (fun W h => HL.out j1 i true W h (by have := HJ.out; omega) hiM hl)
            clear HL HD' hch hmx hl hjn hji hin
            go_wp2_with (first
              | (rw [meth_less hc])
              | (go_at_call 162; (with_reducible refine (HLa.out _ HR.out).mono ?_); rintro e w0 ⟨rfl, hb0⟩; have hc0 : w0.cell? ⟨bx, 0, none⟩ = some (.slice (some ⟨g, 0, none⟩) M c) := (hb0.cell (p := ⟨bx, 0, none⟩) hl0).trans hc; have hl1 := Nat.lt_of_lt_of_le hl0 hb0.size; have HR0 := Lib.hid (HR.out.kept (grown_of_below hb0) (Classical.em _)); have HG0 := Lib.hid (grown_trans HG.out (grown_some hb0)); clear hc)
              | (rw [meth_less hc0])
              | (go_at_call 162; (with_reducible refine (HLb.out _ HR0.out).mono ?_); rintro e w1 ⟨rfl, hb1⟩; have hc1 : w1.cell? ⟨bx, 0, none⟩ = some (.slice (some ⟨g, 0, none⟩) M c) := (hb1.cell (p := ⟨bx, 0, none⟩) hl1).trans hc0; have HR1 := Lib.hid (HR0.out.kept (grown_of_below hb1) (Classical.em _)); have HG1 := Lib.hid (grown_trans HG0.out (grown_some hb1)))
              | (rw [meth_swap hc1])
              | (go_at_call 163; (with_reducible refine (HSw.out _ HR1.out).mono ?_); rintro e w2 ⟨rfl, hr2, hg2⟩))
            go_roundw
            case rel => exact ⟨j1, _, rfl, hjM, HF, Lib.hid (HS.out.trans HE.out), HX2, Lib.hid hr2, Lib.hid (grown_trans HG1.out hg2)⟩
            case measure => first | (simp [intOf]; done) | (simp [intOf]; omega)
      · have b3 : ¬ (j2 : Int) < (n : Int) := by have := HJ.out; omega
        have hmx : Hid (∀ c, 0 < c → c < n → (c - 1) / 2 = i → nbB (E' j1) (E' c) = false) := Lib.hid (fun c h0 hc h1 => by
          rcases hch.out c h0 h1 with rfl | rfl
          · exact nb_irr _
          · omega)
        have hjn : j1 < n := by have := HJ.out; omega
        have hji : (j1 - 1) / 2 = i := by have := HJ.out; omega
        have hin : i < n := by have := HJ.out; omega
        cases hl : nbB (E' i) (E' j1) with
        | false =>
          have HF := Lib.hid (dn_stop HD'.out (fun c h0 hc h1 => nb_le hl (hmx.out c h0 hc h1)))
          have HLb := Lib.hid (fun W h => HL.out j1 i false W h (by have := HJ.out; omega) hiM hl)
          clear HL HD' hch hmx hl hjn hji hin
          go_wp2_with (first
            | (rw [meth_less hc])
            | (go_at_call 162; (with_reducible refine (HLb.out _ HR.out).mono ?_); rintro e w1 ⟨rfl, hb1⟩; have hc1 : w1.cell? ⟨bx, 0, none⟩ = some (.slice (some ⟨g, 0, none⟩) M c) := (hb1.cell (p := ⟨bx, 0, none⟩) hl0).trans hc; have HR1 := Lib.hid (HR.out.kept (grown_of_below hb1) (Classical.em _)); have HG1 := Lib.hid (grown_trans HG.out (grown_some hb1))))
          go_ret
          exact ⟨Lib.hid ⟨_, rfl⟩, E', HF.out, HS.out, HX.out, HR1.out, HG1.out⟩
        | true =>
          have HF := Lib.hid (dn_step HD'.out (by have := HJ.out; omega) hjn hji hmx.out hl)
          have HE := Lib.hid (sameE_swp E' hin hjn)
          have HSw := Lib.hid (fun W (h : W.ownsRow base 94 2 (.slice (some ⟨g, 0, none⟩) M c) M (ptV (eL E' M))) => swap_nb base g M c i j1 E' W h hiM (by have := HJ.out; omega))
          have HX2 : Hid (∀ k, n ≤ k → swp E' i j1 k = E k) := Lib.hid (fun k hk => by rw [swp_o (by have := HJ.out; omega) (by have := HJ.out; omega)]; exact HX.out k hk)
          have hlt : i < j1 := by have := HJ.out; omega
          have hjM : j1 < M := by have := HJ.out; omega
          have HLb := Lib.hid (fun W h => HL.out j1 i true W h (by have := HJ.out; omega) hiM hl)
          clear HL HD' hch hmx hl hjn hji hin
          go_wp2_with (first
            | (rw [meth_less hc])
            | (go_at_call 162; (with_reducible refine (HLb.out _ HR.out).mono ?_); rintro e w1 ⟨rfl, hb1⟩; have hc1 : w1.cell? ⟨bx, 0, none⟩ = some (.slice (some ⟨g, 0, none⟩) M c) := (hb1.cell (p := ⟨bx, 0, none⟩) hl0).trans hc; have HR1 := Lib.hid (HR.out.kept (grown_of_below hb1) (Classical.em _)); have HG1 := Lib.hid (grown_trans HG.out (grown_some hb1)))
            | (rw [meth_swap hc1])
            | (go_at_call 163; (with_reducible refine (HSw.out _ HR1.out).mono ?_); rintro e w2 ⟨rfl, hr2, hg2⟩))
          go_roundw
          case rel => exact ⟨j1, _, rfl, hjM, HF, Lib.hid (HS.out.trans HE.out), HX2, Lib.hid hr2, Lib.hid (grown_trans HG1.out hg2)⟩
          case measure => first | (simp [intOf]; done) | (simp [intOf]; omega)
end Go.Proofs.Ytaehfildhmljeaa

namespace Go.Proofs.Ytaehfildhmljeaa
open Go.RowKit Go.Shelf

theorem Try.info94 : (Try.prog.info? 94).map (fun i => (i.zero, i.size, i.bytes)) = some (some (.agg #[.int .i64 0, .int .i64 0]), 2, 16) := by kernel_rfl

theorem ta_any (x y : Int) (W : World) : (Instr.typeAssert (.iface 94 (.agg #[.int .i64 x, .int .i64 y])) 20 94 false).run Try.prog W = .ok (.agg #[.int .i64 x, .int .i64 y]) W := by kernel_rfl
theorem grown_set (w : World) (g i : Nat) (u : Value) : w.grownBy (w.setCell ⟨g, i, none⟩ u) (some g) := ⟨rfl, rfl, rfl, by simp, fun k _ hk => Below.heap_setCell _ _ _ _ (fun e => hk (by simp [e]))⟩
/-- Only the blocks a and b are changed. -/
def Off (a b : Nat) (w w' : World) : Prop := w'.os = w.os ∧ w'.tape = w.tape ∧ w'.output = w.output ∧ w.heap.size ≤ w'.heap.size ∧ ∀ k, k < w.heap.size → k ≠ a → k ≠ b → w'.heap[k]? = w.heap[k]?
section
variable {a b : Nat} {w w' w2 : World}
theorem Off.left (h : w.grownBy w' (some a)) : Off a b w w' := ⟨h.os, h.tape, h.output, h.size, fun k hk h1 _ => h.block k hk (by simpa using h1)⟩
theorem Off.right (h : w.grownBy w' (some b)) : Off a b w w' := ⟨h.os, h.tape, h.output, h.size, fun k hk _ h1 => h.block k hk (by simpa using h1)⟩
theorem Off.trans (h : Off a b w w') (h' : Off a b w' w2) : Off a b w w2 :=
  ⟨h'.1.trans h.1, h'.2.1.trans h.2.1, h'.2.2.1.trans h.2.2.1, Nat.le_trans h.2.2.2.1 h'.2.2.2.1, fun k hk h1 h2 => (h'.2.2.2.2 k (Nat.lt_of_lt_of_le hk h.2.2.2.1) h1 h2).trans (h.2.2.2.2 k hk h1 h2)⟩
theorem Off.below {B : Nat} (h : Off a b w w') (ha : B ≤ a) (hb : B ≤ b) (hB : B ≤ w.heap.size) : Below B w w' := ⟨h.1, h.2.1, h.2.2.1, h.2.2.2.1, fun k hk => h.2.2.2.2 k (by omega) (by omega) (by omega)⟩
theorem BoxAt.off {g : Nat} {t : TypeId} {cs : Array Value} (h : BoxAt w g t cs) (ho : Off a b w w') (ha : g ≠ a) (hb : g ≠ b) : BoxAt w' g t cs := (ho.2.2.2.2 g h.lt ha hb).trans h
theorem row_off {base e s n : Nat} {v : Value} {xs : List Value} (h : w.ownsRow base e s v n xs) (ho : Off a b w w') (ha : v.ownBlock ≠ some a) (hb : v.ownBlock ≠ some b) : w'.ownsRow base e s v n xs := by
  refine ⟨h.1, ?_⟩
  rcases h.2 with hn | ⟨g, cap, cur, rfl, h1, hg, h2⟩
  · exact .inl hn
  · refine .inr ⟨g, cap, cur, rfl, h1, ?_, h2⟩
    have hl : g < w.heap.size := (Array.getElem?_eq_some_iff.1 hg).1
    exact (ho.2.2.2.2 g hl (fun e => ha (by simp [Value.ownBlock, e])) (fun e => hb (by simp [Value.ownBlock, e]))).trans hg
end
set_option maxRecDepth 100000 in
set_option maxHeartbeats 4000000 in
theorem push_m (base a bx m : Nat) (x y : Int) (E : Nat → Pt) (v : Value) (w : World) (hb : BoxAt w bx 90 #[v]) (h : w.ownsRow base 94 2 v m (ptV (eL E m))) (hbx : bx < base) (ha : ∀ b, v.ownBlock = some b → b = a) (hbs : base ≤ w.heap.size) (hm : m ≤ 1000000) :
    Calls Try.prog 167 #[.pointer (some ⟨bx, 0, none⟩), .iface 94 (.agg #[.int .i64 x, .int .i64 y])] w fun e w' => e = .returned (.tuple #[]) ∧ ∃ g c, (g = a ∨ w.heap.size ≤ g) ∧ BoxAt w' bx 90 #[.slice (some ⟨g, 0, none⟩) (m + 1) c] ∧
      w'.ownsRow base 94 2 (.slice (some ⟨g, 0, none⟩) (m + 1) c) (m + 1) (ptV (eL (fun k => if k = m then (x, y) else E k) (m + 1))) ∧ Off bx a w w' := by
  obtain ⟨i0_, hi0, hz0, hz1, hz2⟩ := info_parts Try.info94
  have hI0 := Lib.hid hi0
  have hZ0 := Lib.hid hz0
  have hZ1 := Lib.hid hz1
  have hZ2 := Lib.hid hz2
  clear hi0 hz0 hz1 hz2
  obtain ⟨A, c, hv⟩ := own_form h
  subst hv
  have HO := Lib.hid h
  have HBx := Lib.hid hb
  have d0 : w.cell? ⟨bx, 0, none⟩ = some (.slice A m c) := hb.cell 0
  have l0 := hb.lt
  have fz := hb.frozen 0
  clear h hb
  have HA := Lib.hid ha
  clear ha
  have HOd : Hid (w.drew.ownsRow base 94 2 (.slice A m c) m (ptV (eL E m))) := HO
  have hta : ∀ W, (Instr.typeAssert (.iface 94 (.agg #[.int .i64 x, .int .i64 y])) 20 94 false).run Try.prog W = .ok (.agg #[.int .i64 x, .int .i64 y]) W := ta_any x y
  go_enter Try.func167, Try.ntmps167
  go_region_law (refine step_append_lies _ (by rfl) _ _ 90 (by rfl) base 94 i0_ _ 2 16 Try.underlying90 hI0.out hZ0.out hZ1.out hZ2.out rfl (by decide) (.slice A m c) m (ptV (eL E m)) (by rfl) (HOd.out.alloc _) ⟨w.heap.size, 0, none⟩ 1 1 [.int .i64 x, .int .i64 y] (by rfl) (by rfl) (World.news_of_block (cs := #[.int .i64 x, .int .i64 y]) (t := 94) (fr := (0, 0)) (heap_alloc_new _ _)) (by simp [Value.oneCell']) (by decide) (by unfold maxLen; omega) (by omega) (by simp; omega) _ rfl ?_; intro gg cap1 w7 hown7 hgrow hat hlt7; have HB7 : Hid (Below base w w7) := Lib.hid ((((Below.refl base w).alloc hbs (.cells #[.int .i64 x, .int .i64 y] 94)).drew).grown hgrow (by simp; omega) (fun b e => (HO.out.lt b e).1)); have HBx7 : Hid (BoxAt w7 bx 90 #[.slice A m c]) := Lib.hid (HBx.out.below HB7.out hbx); have c7 := HBx7.out.cell 0; have f7 := HBx7.out.frozen 0; have l7 := HBx7.out.lt; have HO7 : Hid (w7.ownsRow base 94 2 (.slice (some ⟨gg, 0, none⟩) (m + 1) cap1) (m + 1) (ptV (eL (fun k => if k = m then (x, y) else E k) (m + 1)))) := Lib.hid (by rw [eL_new, ptV_append]; exact hown7); have HG7 : Hid ((gg = a ∨ w.heap.size ≤ gg) ∧ ∀ k, k < w.heap.size → k ≠ a → w7.heap[k]? = w.heap[k]?) := Lib.hid ⟨by rcases hat with h | h; exact .inl (HA.out _ h); exact .inr (by rw [h]; simp), fun k hk hka => (hgrow.block k (by simp; omega) (fun e => hka (HA.out k e.symm))).trans (Below.heap_alloc w _ k hk)⟩; clear hown7 hgrow hat)
  all_goals (try go_wp2)
  all_goals go_end0
  all_goals exact ⟨rfl, gg, cap1, HG7.out.1, HBx7.out.set 0 _, HO7.out.kept (grown_set _ _ _ _) (Or.inr (by simp [Value.ownBlock]; have := (HO7.out.lt gg rfl).1; omega)),
    HB7.out.os, HB7.out.tape, HB7.out.output, by simp; exact HB7.out.size, fun k hk h1 h2 => (Below.heap_setCell _ _ _ _ h1).trans (HG7.out.2 k hk h2)⟩

theorem off_up {a bx g : Nat} {w w1 w3 : World} (h : Off bx a w w1) (hg : g = a ∨ w.heap.size ≤ g) (h3 : w1.grownBy w3 (some g)) : Off bx a w w3 :=
  ⟨h3.os.trans h.1, h3.tape.trans h.2.1, h3.output.trans h.2.2.1, Nat.le_trans h.2.2.2.1 h3.size, fun k hk h1 h2 => (h3.block k (Nat.lt_of_lt_of_le hk h.2.2.2.1) (fun e => by simp at e; omega)).trans (h.2.2.2.2 k hk h1 h2)⟩
theorem row_short {w : World} {base g m c : Nat} {E : Nat → Pt} (h : w.ownsRow base 94 2 (.slice (some ⟨g, 0, none⟩) (m + 1) c) (m + 1) (ptV (eL E (m + 1)))) : w.ownsRow base 94 2 (.slice (some ⟨g, 0, none⟩) m c) m (ptV (eL E m)) := by
  have e : ptV (eL E m) = (ptV (eL E (m + 1))).take (m * 2) := by rw [ptV_take, eL_take]
  refine ⟨by rw [ptV_len, eL_len], ?_⟩
  rcases h.2 with ⟨h1, _⟩ | ⟨g', cap, cur, h1, h2, h3, h4, h5, h6, h7⟩
  · cases h1
  · obtain ⟨rfl, rfl⟩ : g = g' ∧ c = cap := by simpa using h1
    refine .inr ⟨g, c, cur, rfl, h2, h3, by omega, h5, h6, ?_⟩
    rw [e, ← h7, List.take_take]
    congr 1
    omega

set_option maxRecDepth 100000 in
set_option maxHeartbeats 4000000 in
theorem pop_m (base bx g m c : Nat) (E : Nat → Pt) (w : World) (hb : BoxAt w bx 90 #[.slice (some ⟨g, 0, none⟩) (m + 1) c]) (h : w.ownsRow base 94 2 (.slice (some ⟨g, 0, none⟩) (m + 1) c) (m + 1) (ptV (eL E (m + 1)))) (hbx : bx < base) (hm : m ≤ 1000000) :
    Calls Try.prog 166 #[.pointer (some ⟨bx, 0, none⟩)] w fun e w' => e = .returned (.iface 94 (.agg #[.int .i64 (E m).1, .int .i64 (E m).2])) ∧ BoxAt w' bx 90 #[.slice (some ⟨g, 0, none⟩) m c] ∧
      w'.ownsRow base 94 2 (.slice (some ⟨g, 0, none⟩) m c) m (ptV (eL E m)) ∧ w.grownBy w' (some bx) := by
  have d0 : w.cell? ⟨bx, 0, none⟩ = some (.slice (some ⟨g, 0, none⟩) (m + 1) c) := hb.cell 0
  have l0 := hb.lt
  have fz := hb.frozen 0
  obtain ⟨p0, p1⟩ := nb_cells h (i := m) (by omega)
  have lg := (h.lt g rfl).2
  have lgb := (h.lt g rfl).1
  have hcm : m + 1 ≤ c := by
    rcases h.2 with ⟨h1, _⟩ | ⟨g', cap, cur, h1, _, _, h4, _⟩
    · cases h1
    · obtain ⟨rfl, rfl⟩ : g = g' ∧ c = cap := by simpa using h1
      exact h4
  have HS := Lib.hid (row_short h)
  have HBx := Lib.hid hb
  obtain ⟨⟨x, y⟩, hxy⟩ : ∃ q, q = E m := ⟨_, rfl⟩
  rw [← hxy] at p0 p1 ⊢
  clear hxy h hb
  simp only at p0 p1 ⊢
  have i0 : (0 : Int) ≤ (m : Int) := Int.natCast_nonneg _
  have wm : IntKind.i64.wrap (((m + 1 : Nat) : Int) - 1) = (m : Int) := by rw [IntWalk.i64_in _ (by omega)]; omega
  go_enter Try.func166, Try.ntmps166
  go_wp2
  go_ret
  exact ⟨rfl, (HBx.out.set 0 _).alloc _, (HS.out.kept (grown_set _ _ _ _) (Or.inr (by simp [Value.ownBlock]; omega))).alloc _, grown_trans (grown_set _ _ _ _) (World.grownBy_alloc _ _ _)⟩

set_option maxRecDepth 100000 in
set_option maxHeartbeats 4000000 in
/-- container/heap's Push. -/
theorem hpush_any (base a bx m : Nat) (x y : Int) (E : Nat → Pt) (v : Value) (w : World) (hb : BoxAt w bx 90 #[v]) (h : w.ownsRow base 94 2 v m (ptV (eL E m))) (hbx : bx < base) (ha : ∀ b, v.ownBlock = some b → b = a) (hbs : base ≤ w.heap.size) (hm : m < 1000000) (hH : HpE m E) :
    Calls Try.prog 76 #[.iface 92 (.pointer (some ⟨bx, 0, none⟩)), .iface 94 (.agg #[.int .i64 x, .int .i64 y])] w fun e w' => e = .returned (.tuple #[]) ∧ ∃ g c E', BoxAt w' bx 90 #[.slice (some ⟨g, 0, none⟩) (m + 1) c] ∧
      w'.ownsRow base 94 2 (.slice (some ⟨g, 0, none⟩) (m + 1) c) (m + 1) (ptV (eL E' (m + 1))) ∧ HpE (m + 1) E' ∧ SameE (m + 1) (fun k => if k = m then (x, y) else E k) E' ∧ Off bx a w w' := by
  have HP := Lib.hid (push_m base a bx m x y E v w hb h hbx ha hbs (by omega))
  have HU := Lib.hid (up_new (x := (x, y)) hH)
  have HL := Lib.hid (fun g c w (hb : BoxAt w bx 90 #[.slice (some ⟨g, 0, none⟩) (m + 1) c]) (h : w.ownsRow base 94 2 (.slice (some ⟨g, 0, none⟩) (m + 1) c) (m + 1) (ptV (eL (fun k => if k = m then (x, y) else E k) (m + 1)))) =>
    up_nb base g c (m + 1) bx m _ w hb (by have := (h.lt g rfl).1; omega) h (by omega) (by omega) HU.out)
  have wm : IntKind.i64.wrap (((m + 1 : Nat) : Int) - 1) = (m : Int) := by rw [IntWalk.i64_in _ (by omega)]; omega
  clear hb h hH ha
  generalize (fun k => if k = m then (x, y) else E k) = F at *
  go_enter Try.func76, Try.ntmps76
  go_wp2_with (first
    | (rw [meth_push])
    | (go_at_call 167; (with_reducible refine HP.out.mono ?_); rintro e w1 ⟨rfl, g, c, hga, hb1, hr1, hB1⟩; have c1 := hb1.cell 0; have HGA := Lib.hid hga; have HB1 := Lib.hid hb1; have HR1 := Lib.hid hr1; have HBl := Lib.hid hB1; have hgb := (hr1.lt g rfl).1; clear hb1 hr1 hB1 hga)
    | (rw [meth_len c1])
    | (go_at_call 161; (with_reducible refine (len_nb _ _ _ _ _ rfl).mono ?_); rintro e w2 ⟨rfl, rfl⟩)
    | (go_at_call 109; (with_reducible refine (HL.out g c _ HB1.out HR1.out).mono ?_); rintro e w3 ⟨rfl, E', hh, hs, hr3, hg3⟩))
  go_end0
  exact ⟨rfl, g, c, E', HB1.out.grown hg3 (by simp; omega), hr3, hh, hs, off_up HBl.out HGA.out hg3⟩

set_option maxRecDepth 100000 in
set_option maxHeartbeats 4000000 in
/-- container/heap's Pop. -/
theorem hpop_any (base bx g m c : Nat) (E : Nat → Pt) (w : World) (hb : BoxAt w bx 90 #[.slice (some ⟨g, 0, none⟩) (m + 1) c]) (h : w.ownsRow base 94 2 (.slice (some ⟨g, 0, none⟩) (m + 1) c) (m + 1) (ptV (eL E (m + 1)))) (hbx : bx < base) (hm : m < 1000000) (hH : HpE (m + 1) E) :
    Calls Try.prog 78 #[.iface 92 (.pointer (some ⟨bx, 0, none⟩))] w fun e w' => e = .returned (.iface 94 (.agg #[.int .i64 (E 0).1, .int .i64 (E 0).2])) ∧ ∃ E', BoxAt w' bx 90 #[.slice (some ⟨g, 0, none⟩) m c] ∧
      w'.ownsRow base 94 2 (.slice (some ⟨g, 0, none⟩) m c) m (ptV (eL E' m)) ∧ HpE m E' ∧ SameE m (swp E 0 m) E' ∧ Off bx g w w' := by
  have hne : bx ≠ g := by have := (h.lt g rfl).1; omega
  have c0 := hb.cell 0
  have HB := Lib.hid hb
  have HO := Lib.hid h
  have HSw := Lib.hid (show Calls Try.prog 163 #[.slice (some ⟨g, 0, none⟩) (m + 1) c, .int .i64 0, .int .i64 m] w _ from swap_nb base g (m + 1) c 0 m E w h (by omega) (by omega))
  have HD := Lib.hid (fun w (hb : BoxAt w bx 90 #[.slice (some ⟨g, 0, none⟩) (m + 1) c]) (h : w.ownsRow base 94 2 (.slice (some ⟨g, 0, none⟩) (m + 1) c) (m + 1) (ptV (eL (swp E 0 m) (m + 1)))) =>
    down_nb base g c (m + 1) m bx _ w hb hne h (by omega) (by omega) (by omega) (dn_new hH))
  have HP := Lib.hid (fun E w (hb : BoxAt w bx 90 #[.slice (some ⟨g, 0, none⟩) (m + 1) c]) (h : w.ownsRow base 94 2 (.slice (some ⟨g, 0, none⟩) (m + 1) c) (m + 1) (ptV (eL E (m + 1)))) =>
    pop_m base bx g m c E w hb h hbx (by omega))
  have wm : IntKind.i64.wrap (((m + 1 : Nat) : Int) - 1) = (m : Int) := by rw [IntWalk.i64_in _ (by omega)]; omega
  have hsw : swp E 0 m m = E 0 := swp_r
  clear hb h hH
  go_enter Try.func78, Try.ntmps78
  go_wp2_with (first
    | (rw [meth_len c0])
    | (go_at_call 161; (with_reducible refine (len_nb _ _ _ _ _ rfl).mono ?_); rintro e w2 ⟨rfl, rfl⟩)
    | (rw [meth_swap c0])
    | (go_at_call 163; (with_reducible refine HSw.out.mono ?_); rintro e w1 ⟨rfl, hr1, hg1⟩; have HB1 := Lib.hid (HB.out.grown hg1 (by simpa using hne)); have HR1 := Lib.hid hr1; have HG1 := Lib.hid (Off.right (a := bx) hg1); clear hr1 hg1)
    | (go_at_call 112; (with_reducible refine (HD.out _ HB1.out HR1.out).mono ?_); rintro e w3 ⟨he, E', hh, hs, hx, hr3, hg3⟩; obtain ⟨r, rfl⟩ := he.out; have HB3 := Lib.hid (HB1.out.grown hg3 (by simpa using hne)); have HR3 := Lib.hid hr3; have HG3 := Lib.hid (HG1.out.trans (Off.right (a := bx) hg3)); have HE := Lib.hid (And.intro hh (And.intro hs (hx m (by omega)))); clear hh hs hx hr3 hg3 he)
    | (rw [meth_pop])
    | (go_at_call 166; (with_reducible refine (HP.out E' _ HB3.out HR3.out).mono ?_); rintro e w4 ⟨rfl, hb4, hr4, hg4⟩))
  go_ret
  exact ⟨by rw [HE.out.2.2, hsw]; rfl, E', hb4, hr4, HE.out.1, HE.out.2.1, HG3.out.trans (Off.left hg4)⟩
end Go.Proofs.Ytaehfildhmljeaa

namespace Go.Proofs.Ytaehfildhmljeaa

theorem insU_len1 {c : Pt} : ∀ {L : List Pt}, c ∉ L → (insU c L).length = L.length + 1 := by
  intro L
  induction L with
  | nil => intro _; simp [insU]
  | cons p r ih =>
    intro h
    rw [insU]
    split
    · simp only [List.length_cons]
      rw [ih (fun h2 => h (List.mem_cons_of_mem _ h2))]
    · have hne : ¬ p = c := fun e => h (by rw [e]; exact List.mem_cons_self ..)
      rw [if_neg hne]
      simp
theorem srt_dropLast {L : List Pt} (h : SrtL L) : SrtL L.dropLast := List.Pairwise.sublist (List.dropLast_sublist L) h
theorem srt_at {L : List Pt} (h : SrtL L) {i j : Nat} (hij : i < j) (hj : j < L.length) : befB L[i] L[j] = true := List.pairwise_iff_getElem.1 h i j (by omega) hj hij
/-- The last one of a sorted list comes behind the others. -/
theorem srt_last {L : List Pt} (h : SrtL L) {m : Nat} (hm : L.length = m + 1) : L = L.dropLast ++ [L[m]'(by omega)] ∧ ∀ y, y ∈ L.dropLast → befB y (L[m]'(by omega)) = true := by
  have hne : L ≠ [] := fun e => by rw [e] at hm; simp at hm
  have e : L.getLast hne = L[m]'(by omega) := by
    rw [List.getLast_eq_getElem]
    congr 1
    omega
  refine ⟨?_, fun y hy => ?_⟩
  · rw [← e, List.dropLast_concat_getLast]
  · obtain ⟨i, hi, rfl⟩ := List.mem_iff_getElem.1 hy
    rw [List.getElem_dropLast]
    exact srt_at h (by rw [List.length_dropLast] at hi; omega) (by omega)
/-- The nearest of the first n points, at most k. -/
def kS (k : Nat) (D : Nat → Int) : Nat → List Pt
  | 0 => []
  | n + 1 => if k < (insU (D n, (n : Int)) (kS k D n)).length then (insU (D n, (n : Int)) (kS k D n)).dropLast else insU (D n, (n : Int)) (kS k D n)
/-- What makes a list the nearest of the first n, k of them. -/
structure NstL (k : Nat) (D : Nat → Int) (n : Nat) (M : List Pt) : Prop where
  srt : SrtL M
  mem : ∀ x ∈ M, ∃ a, a < n ∧ x = (D a, (a : Int))
  len : M.length = min k n
  aft : ∀ a, a < n → (D a, (a : Int)) ∉ M → ∀ y ∈ M, befB y (D a, (a : Int)) = true
section
variable {k n : Nat} {D : Nat → Int} {M : List Pt}
theorem kS_new (h : NstL k D n M) : (D n, (n : Int)) ∉ M := fun hm => by
  obtain ⟨a, ha, e⟩ := h.mem _ hm
  have := congrArg Prod.snd e
  simp only at this
  omega
theorem nst_kS : ∀ n, NstL k D n (kS k D n) ∧ (n ≤ k → ∀ a, a < n → (D a, (a : Int)) ∈ kS k D n) := by
  intro n
  induction n with
  | zero => exact ⟨⟨by simp [kS], by simp [kS], by simp [kS], by intro a ha; omega⟩, fun _ a ha => by omega⟩
  | succ n ih =>
    obtain ⟨ih, all⟩ := ih
    have hnew := kS_new ih
    obtain ⟨M, hM⟩ : ∃ M, M = kS k D n := ⟨_, rfl⟩
    obtain ⟨M', hM'⟩ : ∃ M', M' = insU (D n, (n : Int)) M := ⟨_, rfl⟩
    have e : kS k D (n + 1) = if k < M'.length then M'.dropLast else M' := by rw [kS, ← hM, ← hM']
    rw [← hM] at ih all hnew
    have hl : M'.length = M.length + 1 := by rw [hM']; exact insU_len1 hnew
    have hs : SrtL M' := by rw [hM']; exact srt_insU ih.srt
    have hmm : ∀ x, x ∈ M' ↔ x = (D n, (n : Int)) ∨ x ∈ M := fun x => by rw [hM']; exact mem_insU
    have hlm := ih.len
    have hmem : ∀ x ∈ M', ∃ a, a < n + 1 ∧ x = (D a, (a : Int)) := fun x hx => by
      rcases (hmm x).1 hx with rfl | hx
      · exact ⟨n, by omega, rfl⟩
      · obtain ⟨a, ha, e⟩ := ih.mem x hx
        exact ⟨a, by omega, e⟩
    rw [e]
    by_cases hk : k < M'.length
    · rw [if_pos hk]
      obtain ⟨hd, hlast⟩ := srt_last hs hl
      obtain ⟨ℓ, hℓ⟩ : ∃ ℓ, ℓ = M'[M.length]'(by omega) := ⟨_, rfl⟩
      rw [← hℓ] at hd hlast
      have hml : ∀ x, x ∈ M' ↔ x ∈ M'.dropLast ∨ x = ℓ := fun x => by
        conv => lhs; rw [hd]
        rw [List.mem_append, List.mem_singleton]
      refine ⟨⟨srt_dropLast hs, fun x hx => hmem x ((hml x).2 (.inl hx)), by rw [List.length_dropLast]; omega, fun a ha hna y hy => ?_⟩, fun h => by omega⟩
      by_cases ham : (D a, (a : Int)) ∈ M'
      · rcases (hml _).1 ham with h | h
        · exact absurd h hna
        · rw [h]; exact hlast y hy
      · have hane : a ≠ n := fun e => ham ((hmm _).2 (.inl (by rw [e])))
        have haM : (D a, (a : Int)) ∉ M := fun h => ham ((hmm _).2 (.inr h))
        have hafter := ih.aft a (by omega) haM
        rcases (hmm y).1 ((hml y).2 (.inl hy)) with rfl | hyM
        · -- the new one is kept: the last one is an elder one
          have hlM : ℓ ∈ M := by
            rcases (hmm ℓ).1 ((hml ℓ).2 (.inr rfl)) with h | h
            · have := hlast _ hy
              rw [h, bef_irr] at this
              cases this
            · exact h
          exact bef_trans (hlast _ hy) (hafter ℓ hlM)
        · exact hafter y hyM
    · rw [if_neg hk]
      have hall : ∀ a, a < n + 1 → (D a, (a : Int)) ∈ M' := fun a ha => by
        by_cases e : a = n
        · rw [e]; exact (hmm _).2 (.inl rfl)
        · exact (hmm _).2 (.inr (all (by omega) a (by omega)))
      exact ⟨⟨hs, hmem, by omega, fun a ha hna => absurd (hall a ha) hna⟩, fun _ => hall⟩
/-- There is one such list. -/
theorem nst_one {M' : List Pt} (h : NstL k D n M) (h' : NstL k D n M') : M = M' := by
  have hl : M.length = M'.length := by rw [h.len, h'.len]
  have step : ∀ t, t ≤ M.length → ∀ j, j < t → M[j]? = M'[j]? := by
    intro t
    induction t with
    | zero => intro _ j hj; omega
    | succ t ih =>
      intro ht j hj
      by_cases hjt : j < t
      · exact ih (by omega) j hjt
      · obtain rfl : j = t := by omega
        have ih := ih (by omega)
        have key : ∀ {A B : List Pt} (hA : NstL k D n A) (hB : NstL k D n B) (ha : j < A.length) (hb : j < B.length) (_ : ∀ i, i < j → A[i]? = B[i]?), befB A[j] B[j] = true → False := by
          intro A B hA hB ha hb hi hlt
          obtain ⟨a, han, ea⟩ := hA.mem _ (List.getElem_mem ha)
          have hnot : A[j] ∉ B := fun hm => by
            obtain ⟨i, hib, e⟩ := List.mem_iff_getElem.1 hm
            rcases Nat.lt_trichotomy i j with h1 | h1 | h1
            · have e1 := hi i h1
              rw [List.getElem?_eq_getElem (by omega), List.getElem?_eq_getElem hib, Option.some.injEq] at e1
              have := srt_at hA.srt h1 ha
              rw [e1, e, bef_irr] at this
              cases this
            · subst h1
              rw [e, bef_irr] at hlt
              cases hlt
            · have := srt_at hB.srt h1 hib
              rw [e] at this
              exact bef_asym hlt this
          have := hB.aft a han (by rw [← ea]; exact hnot) _ (List.getElem_mem hb)
          rw [← ea] at this
          exact bef_asym hlt this
        have ha : j < M.length := by omega
        have hb : j < M'.length := by omega
        rw [List.getElem?_eq_getElem ha, List.getElem?_eq_getElem hb]
        by_cases e : M[j] = M'[j]
        · rw [e]
        · cases hc : befB M[j] M'[j] with
          | true => exact (key h h' ha hb ih hc).elim
          | false => exact (key h' h hb ha (fun i hi => (ih i hi).symm) (bef_tri hc e)).elim
  apply List.ext_getElem?
  intro j
  by_cases hj : j < M.length
  · exact step _ (Nat.le_refl _) j hj
  · rw [List.getElem?_eq_none (by omega), List.getElem?_eq_none (by omega)]
end
/-- The heap holds the list. -/
def HeldK (m : Nat) (E : Nat → Pt) (M : List Pt) : Prop := M.length = m ∧ (∀ x : Pt, (∃ k, k < m ∧ E k = x) ↔ (x.2, x.1) ∈ M) ∧ ∀ a b, a < m → b < m → E a = E b → a = b
theorem held_nil (E : Nat → Pt) : HeldK 0 E [] := ⟨rfl, fun x => ⟨fun ⟨k, hk, _⟩ => by omega, fun h => by cases h⟩, fun a b ha => by omega⟩
theorem held_push {m : Nat} {E E' : Nat → Pt} {M : List Pt} {x y : Int} (h : HeldK m E M) (hn : (y, x) ∉ M) (hE : SameE (m + 1) (fun k => if k = m then (x, y) else E k) E') : HeldK (m + 1) E' (insU (y, x) M) := by
  refine ⟨by rw [insU_len1 hn, h.1], fun z => ?_, hE.2 ?_⟩
  · rw [hE.1 z, mem_insU]
    constructor
    · rintro ⟨k, hk, e⟩
      simp only at e
      by_cases hkm : k = m
      · rw [if_pos hkm] at e
        rw [← e]
        exact .inl rfl
      · rw [if_neg hkm] at e
        exact .inr ((h.2.1 z).1 ⟨k, by omega, e⟩)
    · rintro (e | e)
      · refine ⟨m, by omega, ?_⟩
        show (if m = m then (x, y) else E m) = z
        rw [if_pos rfl]
        exact (Prod.ext (congrArg Prod.snd e) (congrArg Prod.fst e)).symm
      · obtain ⟨k, hk, e⟩ := (h.2.1 z).2 e
        exact ⟨k, by omega, by show (if k = m then (x, y) else E k) = z; rw [if_neg (by omega)]; exact e⟩
  · intro a b ha hb e
    have hno : ∀ k, k < m → E k ≠ (x, y) := fun k hk e => hn ((h.2.1 (x, y)).1 ⟨k, hk, e⟩)
    by_cases h1 : a = m
    · by_cases h2 : b = m
      · omega
      · simp only [if_pos h1, if_neg h2] at e
        exact absurd e.symm (hno b (by omega))
    · by_cases h2 : b = m
      · simp only [if_pos h2, if_neg h1] at e
        exact absurd e (hno a (by omega))
      · simp only [if_neg h1, if_neg h2] at e
        exact h.2.2 a b (by omega) (by omega) e
theorem held_pop {m : Nat} {E E' : Nat → Pt} {M : List Pt} (h : HeldK (m + 1) E M) (hs : SrtL M) (hH : HpE (m + 1) E) (hE : SameE m (swp E 0 m) E') : HeldK m E' M.dropLast ∧ M[m]? = some ((E 0).2, (E 0).1) := by
  obtain ⟨hl, hm, hi⟩ := h
  obtain ⟨hd, hlast⟩ := srt_last hs hl
  obtain ⟨ℓ, hℓ⟩ : ∃ ℓ, ℓ = M[m]'(by omega) := ⟨_, rfl⟩
  rw [← hℓ] at hd hlast
  have h0 : ((E 0).2, (E 0).1) ∈ M := (hm (E 0)).1 ⟨0, by omega, rfl⟩
  have hml : ∀ x, x ∈ M ↔ x ∈ M.dropLast ∨ x = ℓ := fun x => by
    conv => lhs; rw [hd]
    rw [List.mem_append, List.mem_singleton]
  have e0 : ((E 0).2, (E 0).1) = ℓ := by
    rcases (hml _).1 h0 with h | h
    · exfalso
      have h1 := hlast _ h
      obtain ⟨k, hk, e⟩ := (hm (ℓ.2, ℓ.1)).2 ((hml _).2 (.inr rfl))
      have h2 := heap_top hH k hk
      unfold nbB at h2
      rw [e, h1] at h2
      cases h2
    · exact h
  have hsw := sameE_swp E (show 0 < m + 1 by omega) (show m < m + 1 by omega)
  have hinj := hsw.2 hi
  refine ⟨⟨by rw [List.length_dropLast, hl]; rfl, fun x => ?_, hE.2 (fun a b ha hb e => hinj a b (by omega) (by omega) e)⟩, ?_⟩
  · rw [hE.1 x]
    have hx : (x.2, x.1) ∈ M.dropLast ↔ (x.2, x.1) ∈ M ∧ x ≠ E 0 := by
      rw [hml]
      constructor
      · intro h
        refine ⟨.inl h, fun e => ?_⟩
        have := hlast _ h
        rw [e, e0, bef_irr] at this
        cases this
      · rintro ⟨h | h, hne⟩
        · exact h
        · rw [← e0] at h
          exact absurd (Prod.ext (congrArg Prod.snd h) (congrArg Prod.fst h)) hne
    rw [hx, ← hm x, ← hsw.1 x]
    constructor
    · rintro ⟨k, hk, e⟩
      refine ⟨⟨k, by omega, e⟩, fun e1 => ?_⟩
      have : k = m := hinj k m (by omega) (by omega) (by rw [e, e1, swp_r])
      omega
    · rintro ⟨⟨k, hk, e⟩, hne⟩
      refine ⟨k, ?_, e⟩
      have : k ≠ m := fun e1 => hne (by rw [← e, e1, swp_r])
      omega
  · rw [List.getElem?_eq_getElem (by omega), ← hℓ, e0]
/-- The numbers of the nearest ones. -/
def nstN (k : Nat) (D : Nat → Int) (n : Nat) : List Nat := (kS k D n).map fun q => q.2.toNat
theorem nstN_len (k : Nat) (D : Nat → Int) (n : Nat) : (nstN k D n).length = min k n := by
  unfold nstN
  rw [List.length_map, (nst_kS n).1.len]
end Go.Proofs.Ytaehfildhmljeaa

namespace Go.Proofs.Ytaehfildhmljeaa
open Go.RowKit Go.Shelf

section
variable {F : Fence} {n : Nat} {P : Program} {w : World} {α : Type}
theorem range_allR {g : Operand} {ps : Array Tmp} {assign body : Code} {Q : Exit → Act → World → Prop} {a : Act} (hro : F.round = none) (h1 : 1 ≤ n) {gf : Nat} {lb : Array Value}
    (hg : a.eval g = .func (.func gf) #[] lb) (hFg : F.fn gf) (eg : ∀ args w, (callFunc gf args).run P w = .ok (.enter gf args) w) {encs : α → Array Value} (hps : ∀ x, (encs x).size = ps.size) {N : Nat} {xs : List α}
    (Kp : World → World → Prop) (hKt : ∀ {A B C : World}, Kp A B → Kp B C → Kp A C) (I : List α → World → Prop)
    (hKb : ∀ (s : List α) (W : World) (l : Nat) (o o' : Obj), I s W → w.heap.size ≤ l → W.heap[l]? = some o → o.isCells = false → o.isWalk = false → Kp W (W.putObj l o'))
    (hIa : ∀ s W o, I s W → I s (W.alloc o)) (hIp : ∀ s W l o o', I s W → w.heap.size ≤ l → W.heap[l]? = some o → o.isCells = false → I s (W.putObj l o')) (h0 : I [] w)
    (R : List α → α → Prop) (Ax : α → Act → World → Prop) (hAp : ∀ x a' W l o o', Ax x a' W → w.heap.size ≤ l → W.heap[l]? = some o → o.isCells = false → Ax x a' (W.putObj l o'))
    (hseq : ∀ (o1 o2 : Obj) (W : World), o1.isCells = false → o2.isCells = false → Below w.heap.size w W → W.heap.size = w.heap.size + 2 →
      (∀ pre x W1, Btw I w.heap.size o1 o2 pre W1 → R pre x → pre.length < N → YieldAt F (n - 1 - 1) P (w.heap.size + 1) (encs x) W1 fun e W' => e = .returned (.bool true) ∧ Btw I w.heap.size o1 o2 (pre ++ [x]) W' ∧ Kp W1 W') →
      Btw I w.heap.size o1 o2 [] W → CallsIn F (n - 1) P gf (#[.func (.yield (w.heap.size + 1)) #[] #[]] ++ lb) W fun e W' => (∃ v, e = .returned v) ∧ Btw I w.heap.size o1 o2 xs W')
    (hassign : ∀ (l : Nat) (pre : List α) (x : α) (W : World) (K : Act → World → Prop), I pre W → R pre x → (∀ a' W', KeepsFrom w.heap.size W W' → Kp W W' → I pre W' → Ax x a' W' → K a' W') →
      assign.wpIn (F.inRound l) (n - 1 - 1) P (Exit.then K (fun _ _ _ => False)) { tmps := (ps.zip (encs x)).foldl (fun t (p, v) => t.setIfInBounds p v) a.tmps, defers := [] } W)
    (hbody : ∀ (l : Nat) (pre : List α) (x : α) (a' : Act) (W : World), I pre W → R pre x → Ax x a' W → pre.length < N → body.wpIn (F.inRound l) (n - 1 - 1) P (Bdy w.heap.size Kp I (pre ++ [x]) W) a' W)
    (hdone : ∀ (W : World), I xs W → W.heap[w.heap.size]? = some (.deferred (some [])) → Q .normal { a with defers := { target := .collected w.heap.size, args := #[] } :: a.defers } W) :
    (Code.rangeFunc g ps assign body).wpIn F n P Q a w := by
  refine wpIn_rangeFunc fun fn hfn => ?_
  rw [hro]
  obtain ⟨D, hD⟩ : ∃ D, D = w.heap.size := ⟨_, rfl⟩
  rw [← hD] at hKb hIp hAp hseq hassign hbody hdone
  obtain ⟨rc, hrc⟩ : ∃ rc : LoopState → Loop, rc = fun st => { state := st, pending := none, fn, tmps := a.tmps, params := ps, assign, body, defers := D } := ⟨_, rfl⟩
  obtain ⟨W1, hW1⟩ : ∃ W1, W1 = (w.alloc (.deferred (some []))).alloc (.loop (rc .ready)) := ⟨_, rfl⟩
  have hs1 : W1.heap.size = D + 2 := by rw [hW1, hD]; simp
  have hL : W1.heap[D + 1]? = some (.loop (rc .ready)) := by
    have h := World.alloc_heap_new (w.alloc (.deferred (some []))) (.loop (rc .ready))
    rw [World.size_alloc] at h
    rw [hW1, hD]
    exact h
  have hK : W1.heap[D]? = some (.deferred (some [])) := by
    rw [hW1, hD]
    exact (Below.heap_alloc _ _ _ (by simp)).trans (World.alloc_heap_new w _)
  have hI1 : I [] W1 := by rw [hW1]; exact hIa _ _ _ (hIa _ _ _ h0)
  have hb1 : Below D w W1 := by rw [hW1, hD]; exact ((Below.refl _ w).alloc (Nat.le_refl _) _).alloc (by simp) _
  refine ⟨D + 1, [{ target := .collected D, args := #[] }], W1, { target := .fn (.func gf) lb, args := #[.func (.yield (D + 1)) #[] #[]] }, W1, gf, #[.func (.yield (D + 1)) #[] #[]] ++ lb, W1, ?_, ?_, ?_, ?_, fun _ => h1, ?_⟩
  · rw [hW1, hrc, hD]
    exact run_enterLoop_outer _ _ _ _ _
  · simp only [resolve, hg]
    simp [go_sem]
  · intro f' hf'
    simp [Target.leads] at hf'
    subst hf'
    exact hFg
  · simp [invoke, go_sem, eg]
  · refine (hseq (.loop (rc .ready)) (.deferred (some [])) W1 rfl rfl hb1 hs1 ?_ ⟨hI1, hL, hK⟩).mono ?_
    · rintro pre x W ⟨hi, hl, hk⟩ hR hlen
      have hy := run_yield (P := P) (args := encs x) hl (by rw [hrc]; exact hps x)
      rw [hrc] at hy
      refine ⟨fn, _, assign, body, hy, roundIn_of_wpIn hfn (hassign _ pre x W _ hi hR fun a' Wa hka hkp hia hax => ?_)⟩
      have hl2 := hka.same _ _ (Nat.le_succ D) hl rfl
      have hk2 := hka.same _ _ (Nat.le_refl D) hk rfl
      have hlt := (Array.getElem?_eq_some_iff.1 hl2).1
      obtain ⟨Wb, hWb⟩ : ∃ Wb, Wb = Wa.putObj (D + 1) (.loop { rc .ready with state := .busy }) := ⟨_, rfl⟩
      have hl3 : Wb.heap[D + 1]? = some (.loop { rc .ready with state := .busy }) := by rw [hWb]; exact World.putObj_heap_same hlt
      have hk3 : Wb.heap[D]? = some (.deferred (some [])) := by rw [hWb]; exact (World.putObj_heap_other (by omega)).trans hk2
      have hkb : Kp Wa Wb := by rw [hWb]; exact hKb _ _ _ _ _ hia (by omega) hl2 rfl rfl
      refine ⟨Wb, by rw [hWb]; exact run_beginRound hl2 (by rw [hrc]), ?_⟩
      have hib : I pre Wb := by rw [hWb]; exact hIp _ _ _ _ _ hia (by omega) hl2 rfl
      have haxb : Ax x a' Wb := by rw [hWb]; exact hAp _ _ _ _ _ _ hax (by omega) hl2 rfl
      refine wpIn_mono (hbody _ pre x a' Wb hib hR haxb hlen) ?_
      intro e a3 W3 hp
      cases e with
      | normal =>
        obtain ⟨hk4, hkp4, hi4⟩ := hp
        have hl4 := hk4.same _ _ (Nat.le_succ D) hl3 rfl
        have hk5 := hk4.same _ _ (Nat.le_refl D) hk3 rfl
        have hr := run_endRound (P := P) none hl4
        rw [hrc] at hr hl4
        refine ⟨_, _, hr, rfl, ⟨hIp _ _ _ _ _ hi4 (by omega) hl4 rfl, ?_, (World.putObj_heap_other (by omega)).trans hk5⟩, hKt hkp (hKt hkb (hKt hkp4 (hKb _ _ _ _ _ hi4 (by omega) hl4 rfl rfl)))⟩
        rw [World.putObj_heap_same (Array.getElem?_eq_some_iff.1 hl4).1, hrc]
        rfl
      | _ => exact hp.elim
    · rintro e W2 ⟨⟨v, rfl⟩, hi, hl, hk⟩
      have hr := run_endLoop (P := P) hl (by rw [hrc]; simp)
      rw [hrc] at hr hl
      exact ⟨none, _, hr, hdone _ (hIp _ _ _ _ _ hi (by omega) hl rfl) ((World.putObj_heap_other (by omega)).trans hk)⟩
end

theorem back_fn (A : Option Addr) (n cap : Nat) (w : World) :
    Calls Try.prog 79 #[.slice A n cap] w fun e w' => e = .returned (.func (.func 113) #[] #[.pointer (some ⟨w.heap.size, 0, none⟩)]) ∧ w' = w.alloc (.cells #[.slice A n cap] 41) := by
  go_enter Try.func79, Try.ntmps79
  go_wp2
  go_ret
  exact ⟨rfl, rfl⟩
/-- The last t places of m, from the last one on. -/
def dnL (m t : Nat) : List Nat := (List.range t).map fun s => m - 1 - s
theorem dnL_len (m t : Nat) : (dnL m t).length = t := by simp [dnL]
theorem dnL_succ (m t : Nat) : dnL m (t + 1) = dnL m t ++ [m - 1 - t] := by
  unfold dnL
  rw [List.range_succ, List.map_append]
  rfl

set_option maxRecDepth 100000 in
set_option maxHeartbeats 8000000 in
theorem back_in (f : Nat) (hf : 1 ≤ f) (l sb G m : Nat) (hm : m ≤ 1000000) (J : List Nat → World → Prop) (W : World)
    (hJ : ∀ pre W, J pre W → BoxAt W sb 41 #[.slice (some ⟨G, 0, none⟩) m m] ∧ (∀ i, i < m - pre.length → W.cell? ⟨G, i, none⟩ = some (.int .i64 0)))
    (hY : ∀ pre (x : Nat) W, J pre W → (x = m - 1 - pre.length ∧ pre.length < m) → YieldAt Fence.wide (f - 1) Try.prog l #[.int .i64 x, .int .i64 0] W fun e W' => e = .returned (.bool true) ∧ J (pre ++ [x]) W' ∧ True)
    (h0 : J [] W) :
    CallsIn Fence.wide f Try.prog 113 #[.func (.yield l) #[] #[], .pointer (some ⟨sb, 0, none⟩)] W fun e W' => (∃ v, e = .returned v) ∧ J (dnL m m) W' := by
  have HJ := Lib.hid hJ
  have HY := Lib.hid hY
  have H0 := Lib.hid h0
  have b0 := (hJ _ _ h0).1
  have c0 : W.cell? ⟨sb, 0, none⟩ = some (.slice (some ⟨G, 0, none⟩) m m) := b0.cell 0
  have l0 := b0.lt
  have wm : IntKind.i64.wrap ((m : Int) - 1) = (m : Int) - 1 := IntWalk.i64_in _ (by omega)
  clear hJ hY h0 b0
  refine callsIn_of_wp Try.func113 rfl trivial ?_ rfl
  simp only [Try.ntmps113, List.size_toArray, List.length_cons, List.length_nil, Nat.reduceAdd, Nat.reduceSub, Array.replicate_succ, Array.replicate_zero, List.push_toArray, List.append_toArray, List.nil_append, List.cons_append]
  gi_wp2
  gi_loopw [3] (fun iv wr => ∃ t : Nat, t ≤ m ∧ iv = .int .i64 ((m : Int) - 1 - (t : Int)) ∧ Hid (J (dnL m t) wr)) (fun iv _ => (intOf iv + 1).toNat)
  case atStart => exact ⟨0, Nat.zero_le _, by simp, H0⟩
  case round =>
    obtain ⟨t, ht, rfl, HT⟩ := hrel
    by_cases hlt : t < m
    · obtain ⟨x, hx⟩ : ∃ x, x = m - 1 - t := ⟨_, rfl⟩
      have e : (m : Int) - 1 - (t : Int) = (x : Int) := by omega
      have e' : Hid ((m : Int) - 1 - ((t + 1 : Nat) : Int) = (x : Int) - 1) := Lib.hid (by omega)
      rw [e]
      have i0 : (0 : Int) ≤ (x : Int) := Int.natCast_nonneg _
      have i1 : (x : Int) < (m : Int) := by omega
      have wx : IntKind.i64.wrap ((x : Int) - 1) = (x : Int) - 1 := IntWalk.i64_in _ (by omega)
      obtain ⟨b1, z1⟩ := HJ.out _ _ HT.out
      have c1 : wr.cell? ⟨sb, 0, none⟩ = some (.slice (some ⟨G, 0, none⟩) m m) := b1.cell 0
      have c2 : wr.cell? ⟨G, x, none⟩ = some (.int .i64 0) := z1 x (by rw [dnL_len]; omega)
      have l1 := b1.lt
      obtain ⟨fn, tmps, assign, body, hy, hRd⟩ := HY.out _ x wr HT.out ⟨by rw [dnL_len]; exact hx, by rw [dnL_len]; exact hlt⟩
      have HD : Hid (dnL m (t + 1) = dnL m t ++ [x]) := Lib.hid (by rw [dnL_succ, hx])
      clear b1 z1 e hx HT
      gi_wp2
      refine hRd.mono ?_
      rintro e W4 ⟨rfl, hJ4, _⟩
      have HJ4 := Lib.hid hJ4
      clear hJ4
      gi_wp2
      go_roundw
      case rel => exact ⟨t + 1, by omega, by rw [e'.out], Lib.hid (by rw [HD.out]; exact HJ4.out)⟩
      case measure => first | (simp [intOf]; done) | (simp [intOf]; omega)
    · obtain rfl : t = m := by omega
      have e : (t : Int) - 1 - (t : Int) = -1 := by omega
      rw [e]
      gi_wp2
      refine bodyPost_end (results_none rfl _ _ _) rfl ?_
      exact ⟨⟨_, rfl⟩, HT.out⟩
end Go.Proofs.Ytaehfildhmljeaa

namespace Go.Proofs.Ytaehfildhmljeaa
open Go.RowKit Go.Shelf

/-- The row of numbers when r of them are still to come. -/
def nuL (M : List Pt) (r : Nat) : List Value := List.replicate r (.int .i64 0) ++ (M.drop r).map fun q => .int .i64 q.2
theorem nuL_len {M : List Pt} {r : Nat} (h : r ≤ M.length) : (nuL M r).length = M.length := by simp [nuL]; omega
theorem nuL_zero {M : List Pt} {r i : Nat} (h : i < r) : (nuL M r)[i]? = some (.int .i64 0) := by
  unfold nuL
  rw [List.getElem?_append_left (by simpa using h), List.getElem?_replicate, if_pos h]
theorem nuL_set {M : List Pt} {r : Nat} {x y : Int} (h : M[r]? = some (y, x)) : (nuL M (r + 1)).set r (.int .i64 x) = nuL M r := by
  have hr : r < M.length := (List.getElem?_eq_some_iff.1 h).1
  apply List.ext_getElem?
  intro j
  rw [List.getElem?_set]
  unfold nuL
  by_cases hj : r = j
  · subst hj
    rw [if_pos rfl, if_pos (by simp; omega), List.getElem?_append_right (by simp)]
    simp [h]
  · rw [if_neg hj]
    by_cases hlt : j < r
    · rw [List.getElem?_append_left (by simp; omega), List.getElem?_append_left (by simpa using hlt)]
      rw [List.getElem?_replicate, List.getElem?_replicate, if_pos (by omega), if_pos hlt]
    · rw [List.getElem?_append_right (by simp; omega), List.getElem?_append_right (by simp; omega)]
      simp only [List.length_replicate, List.getElem?_map, List.getElem?_drop]
      have e : r + 1 + (j - (r + 1)) = r + (j - r) := by omega
      rw [e]
theorem nuL_end {k n : Nat} {D : Nat → Int} : nuL (kS k D n) 0 = natV (nstN k D n) := by
  unfold nuL nstN natV
  simp only [List.replicate_zero, List.nil_append, List.drop_zero, List.map_map]
  apply List.map_congr_left
  intro q hq
  obtain ⟨a, _, rfl⟩ := (nst_kS n).1.mem q hq
  simp
/-- Between two rounds. -/
def NI (bx nb sb G m : Nat) (Av : Option Addr) (cv : Nat) (M : List Pt) (W0 : World) (pre : List Nat) (W : World) : Prop :=
  ∃ E, BoxAt W bx 90 #[.slice Av (m - pre.length) cv] ∧ W.ownsRow (bx + 1) 94 2 (.slice Av (m - pre.length) cv) (m - pre.length) (ptV (eL E (m - pre.length))) ∧ HpE (m - pre.length) E ∧ HeldK (m - pre.length) E (M.take (m - pre.length)) ∧
    BoxAt W nb 41 #[.slice (some ⟨G, 0, none⟩) m m] ∧ BoxAt W sb 41 #[.slice (some ⟨G, 0, none⟩) m m] ∧ W.ownsRow G 3 1 (.slice (some ⟨G, 0, none⟩) m m) m (nuL M (m - pre.length)) ∧ Below bx W0 W
section
variable {bx nb sb G m : Nat} {Av : Option Addr} {cv : Nat} {M : List Pt} {W0 : World} {pre : List Nat} {W : World}
theorem NI.alloc (hb : bx ≤ W.heap.size) (h : NI bx nb sb G m Av cv M W0 pre W) (o : Obj) : NI bx nb sb G m Av cv M W0 pre (W.alloc o) := by
  obtain ⟨E, h1, h2, h3, h4, h5, h6, h7, h8⟩ := h
  exact ⟨E, h1.alloc _, h2.alloc _, h3, h4, h5.alloc _, h6.alloc _, h7.alloc _, h8.alloc hb _⟩
theorem NI.put (h : NI bx nb sb G m Av cv M W0 pre W) {l : Nat} (hA : ∀ a, Av = some a → a.block ≠ l) (h1 : bx < l) (h2 : nb < l) (h3 : sb < l) (h4 : G < l) (o' : Obj) : NI bx nb sb G m Av cv M W0 pre (W.putObj l o') := by
  obtain ⟨E, i1, i2, i3, i4, i5, i6, i7, i8⟩ := h
  refine ⟨E, (World.putObj_heap_other (by omega)).trans i1, i2.kept (grownBy_putObj' W l o') ?_, i3, i4, (World.putObj_heap_other (by omega)).trans i5, (World.putObj_heap_other (by omega)).trans i6, i7.kept (grownBy_putObj' W l o') ?_, i8.trans (putObj_below (by omega) o')⟩
  · cases Av with
    | none => exact .inl rfl
    | some a => exact .inr (by simp [Value.ownBlock]; exact hA a rfl)
  · exact .inr (by simp [Value.ownBlock]; omega)
end
end Go.Proofs.Ytaehfildhmljeaa

namespace Go.Proofs.Ytaehfildhmljeaa
open Go.RowKit Go.Shelf
attribute [local go_sem] Oper.semAt_some

/-- The squares of the distances. -/
def sqF (X Y : Nat → Int) (p1 p2 : Int) (i : Nat) : Int := distF (p1, p2) (X i, Y i)
theorem fd_any (x y : Int) (W : World) : (Instr.field 94 (.agg #[.int .i64 x, .int .i64 y]) 0).run Try.prog W = .ok (.int .i64 x) W := by kernel_rfl
/-- What Nearest returns. -/
def nstF (X Y V : Nat → Int) (n : Nat) (p1 p2 k : Int) : List Nat := if chkF n X Y V = 0 ∧ vldB p1 p2 = true ∧ 1 ≤ k then nstN k.toNat (sqF X Y p1 p2) n else []

set_option maxRecDepth 100000 in
set_option maxHeartbeats 8000000 in
theorem nearest_good (f : Nat) (hf : 3 ≤ f) (A : Option Addr) (n cap : Nat) (X Y V : Nat → Int) (p1 p2 k : Int) (w : World) (hcl : Cloud w A n X Y V) (hok : chkF n X Y V = 0) (hv : vldB p1 p2 = true) (hk : 1 ≤ k) :
    CallsIn Fence.wide f Try.prog 32 #[.slice A n cap, sp p1 p2, .int .i64 k] w fun e w' => ∃ r, e = .returned r ∧ Row w' r (nstN k.toNat (sqF X Y p1 p2) n) ∧ Below w.heap.size w w' := by
  have hb0 : Below w.heap.size w (w.alloc (.cells #[.int .i64 p1, .int .i64 p2] 24)) := (Below.refl _ w).alloc (Nat.le_refl _) _
  have hx0 := BoxAt.new w 24 #[.int .i64 p1, .int .i64 p2]
  have hn := chkF_le hok
  have HCh : Hid (∀ W, Below w.heap.size w W → Calls Try.prog 22 #[.slice A n cap] W fun e w' => e = .returned (.int .i64 0) ∧ Below W.heap.size W w') := Lib.hid (fun W hW => by
    have h := check_any A n cap X Y V W (hcl.below hW)
    rwa [hok] at h)
  have HCL := Lib.hid hcl
  have HV := Lib.hid (fun b cap w (hb : BoxAt w b 24 #[.int .i64 p1, .int .i64 p2]) => one_vspot b cap p1 p2 true w hb (Lib.hid hv))
  clear hcl hok hv
  obtain ⟨K, hK⟩ : ∃ K, K = k.toNat := ⟨_, rfl⟩
  obtain ⟨D, hD⟩ : ∃ D, D = sqF X Y p1 p2 := ⟨_, rfl⟩
  have HDs : Hid (∀ i W, Calls Try.prog 77 #[sp p1 p2, sp (X i) (Y i)] W fun e w' => e = .returned (.int .i64 (D i)) ∧ Below W.heap.size W w') := Lib.hid (fun i W => dist_any (p1, p2) (X i, Y i) _ W (Lib.hid (by rw [hD]; rfl)))
  rw [← hK, ← hD]
  have hKk : (K : Int) = k := by omega
  clear hK hD
  have hk' : ¬ k < 1 := by omega
  obtain ⟨Lp, hLp⟩ : ∃ z, z = w.heap.size := ⟨_, rfl⟩
  have HLp := Lib.hid hLp
  refine callsIn_of_wp_marks Try.func32 rfl trivial ?_ rfl
  rw [wpIn_wide]
  simp only [Try.ntmps32, List.size_toArray, List.length_cons, List.length_nil, Nat.reduceAdd, Nat.reduceSub, Array.replicate_succ, Array.replicate_zero, List.push_toArray, List.append_toArray, List.nil_append, List.cons_append]
  go_wp2_with (first
    | (go_at_call 22; (with_reducible refine (HCh.out _ hb0).mono ?_); rintro e w1 ⟨rfl, hb1⟩; have HB1 := Lib.hid (below_step hb0 hb1); have HX1 := Lib.hid (box_step hx0 hb1); have c0 := HX1.out.cell 0; have c1 := HX1.out.cell 1)
    | (go_at_call 60; (with_reducible refine (HV.out _ _ _ (BoxAt.new _ 24 _)).mono ?_); rintro e w2 ⟨rfl, hb2⟩))
  obtain ⟨bx, hbx⟩ : ∃ z, z = w2.heap.size := ⟨_, rfl⟩
  have hb2' : Below w1.heap.size w1 w2 := below_step ((Below.refl _ w1).alloc (Nat.le_refl _) _) hb2
  have HX2 := Lib.hid ((box_step HX1.out hb2').alloc (.cells #[.slice none 0 0] 90))
  have HB2 := Lib.hid ((below_step HB1.out hb2').alloc (by rw [← hbx]; have := HB1.out.size; have := hb2'.size; omega) (.cells #[.slice none 0 0] 90))
  have HS2 := Lib.hid (BoxAt.new w2 90 #[.slice none 0 0])
  have hLb : Lp < bx := by
    have h1 := HX1.out.lt
    have h2 := hb2'.size
    omega
  have hwb : w.heap.size ≤ bx := by omega
  rw [← hbx] at HS2 ⊢
  rw [← hLp] at HX2 ⊢
  clear hb0 hx0 hb1 HB1 HX1 c0 c1 hb2 hb2' hLp hbx HCh HV
  generalize w2.alloc (.cells #[.slice none 0 0] 90) = W0 at *
  go_loopw [27] (fun iv wr => ∃ (i : Nat) (E : Nat → Pt) (v : Value) (m : Nat), i ≤ n ∧ iv = .int .i64 i ∧ Hid (BoxAt wr bx 90 #[v]) ∧ Hid (wr.ownsRow (bx + 1) 94 2 v m (ptV (eL E m))) ∧ Hid (HpE m E) ∧ Hid (HeldK m E (kS K D i)) ∧ Hid (Below bx W0 wr)) (fun iv _ => n - (intOf iv).toNat)
  case atStart => exact ⟨0, fun _ => (0, 0), _, 0, Nat.zero_le _, rfl, HS2, Lib.hid (World.ownsRow_nil _ _ _ _), Lib.hid (fun c _ h => by omega), Lib.hid (held_nil _), Lib.hid (Below.refl _ _)⟩
  case round =>
    obtain ⟨i, E, v, m, hi, rfl, HBx, HO, HH, HHe, HBl⟩ := hrel
    have i0 : (0 : Int) ≤ (i : Int) := Int.natCast_nonneg _
    by_cases hlt : i < n
    · have i1 : (i : Int) < (n : Int) := by omega
      obtain ⟨b, off, e2, hp⟩ := HCL.out (by omega)
      subst e2
      have hbl := hp.lt (by omega)
      have HBw := Lib.hid (HB2.out.trans (HBl.out.mono hwb))
      obtain ⟨d0, d1, d2⟩ := (hp.below HBw.out hbl) i hlt
      have l0 : b < wr.heap.size := Nat.lt_of_lt_of_le hbl HBw.out.size
      clear hp
      obtain ⟨a, ha, hba, haw⟩ : ∃ a, (∀ b, v.ownBlock = some b → b = a) ∧ bx ≤ a ∧ a < wr.heap.size := by
        cases h : v.ownBlock with
        | none => exact ⟨bx, (fun b e => nomatch e), Nat.le_refl _, HBx.out.lt⟩
        | some g => exact ⟨g, (fun b e => by simpa using e.symm), by have := (HO.out.lt g h).1; omega, (HO.out.lt g h).2⟩
      have hml : m = min K i := HHe.out.1.symm.trans (nst_kS i).1.len
      have HPu := Lib.hid (fun W (hb : BoxAt W bx 90 #[v]) (h : W.ownsRow (bx + 1) 94 2 v m (ptV (eL E m))) => hpush_any (bx + 1) a bx m (i : Int) (D i) E v W hb h (by omega) ha hb.lt (by omega) HH.out)
      have HXp := Lib.hid (HX2.out.below HBl.out hLb)
      have HDi := Lib.hid (fun W => HDs.out i W)
      have HN := Lib.hid (kS_new (nst_kS (k := K) (D := D) i).1)
      clear ha
      obtain ⟨x, hx⟩ : ∃ x, x = X i := ⟨_, rfl⟩
      obtain ⟨y, hy⟩ : ∃ y, y = Y i := ⟨_, rfl⟩
      obtain ⟨u, hu⟩ : ∃ u, u = V i := ⟨_, rfl⟩
      rw [← hx] at d0 HDi
      rw [← hy] at d1 HDi
      rw [← hu] at d2
      clear hx hy hu
      go_upto_region 7 with fail
      have HQ := Lib.hid (BoxAt.new wr 69 #[.int .i64 x, .int .i64 y, .int .i64 u])
      have HXq := Lib.hid (HXp.out.alloc (.cells #[.int .i64 x, .int .i64 y, .int .i64 u] 69))
      have HBq := Lib.hid (HBx.out.alloc (.cells #[.int .i64 x, .int .i64 y, .int .i64 u] 69))
      have HOq := Lib.hid (HO.out.alloc (.cells #[.int .i64 x, .int .i64 y, .int .i64 u] 69))
      have HLq := Lib.hid (HBl.out.alloc (by have := HBl.out.size; have := HBx.out.lt; omega) (.cells #[.int .i64 x, .int .i64 y, .int .i64 u] 69))
      have hsq : bx < (wr.alloc (.cells #[.int .i64 x, .int .i64 y, .int .i64 u] 69)).heap.size := HBq.out.lt
      obtain ⟨Lq, hLq⟩ : ∃ z, z = wr.heap.size := ⟨_, rfl⟩
      rw [← hLq] at HQ haw ⊢
      clear hLq d0 d1 d2 l0 hbl HXp HBx HO HBw
      generalize wr.alloc (.cells #[.int .i64 x, .int .i64 y, .int .i64 u] 69) = wq at *
      have s0 : wq.cell? ⟨Lp, 0, none⟩ = some (.int .i64 p1) := HXq.out.cell 0
      have s1 : wq.cell? ⟨Lp, 1, none⟩ = some (.int .i64 p2) := HXq.out.cell 1
      have s2 : wq.cell? ⟨Lq, 0, none⟩ = some (.int .i64 x) := HQ.out.cell 0
      have s3 : wq.cell? ⟨Lq, 1, none⟩ = some (.int .i64 y) := HQ.out.cell 1
      have s4 : wq.cell? ⟨Lq, 2, none⟩ = some (.int .i64 u) := HQ.out.cell 2
      have l1 := HXq.out.lt
      have l2 := HQ.out.lt
      go_region_held3 (fun W => W.cell? ⟨Lp, 0, none⟩ = some (.int .i64 p1) ∧ W.cell? ⟨Lp, 1, none⟩ = some (.int .i64 p2) ∧ W.cell? ⟨Lq, 0, none⟩ = some (.int .i64 x) ∧ W.cell? ⟨Lq, 1, none⟩ = some (.int .i64 y) ∧ W.cell? ⟨Lq, 2, none⟩ = some (.int .i64 u))
        (first | exact HS5.out | exact HS4.out | exact HS3.out | exact ⟨s0, s1, s2, s3, s4⟩ | go_keep)
        (first
          | (go_at_call 64; (with_reducible refine (spot_any _ _ _ _).mono ?_); rintro e w3 ⟨rfl, hb3⟩; have HB3 : Hid (Below wq.heap.size wq w3) := Lib.hid ⟨hb3.os, hb3.tape, hb3.output, hb3.size, hb3.block⟩; have HS3 : Hid (w3.cell? ⟨Lp, 0, none⟩ = some (.int .i64 p1) ∧ w3.cell? ⟨Lp, 1, none⟩ = some (.int .i64 p2) ∧ w3.cell? ⟨Lq, 0, none⟩ = some (.int .i64 x) ∧ w3.cell? ⟨Lq, 1, none⟩ = some (.int .i64 y) ∧ w3.cell? ⟨Lq, 2, none⟩ = some (.int .i64 u)) := Lib.hid ⟨(box_step HXq.out HB3.out).cell 0, (box_step HXq.out HB3.out).cell 1, (box_step HQ.out HB3.out).cell 0, (box_step HQ.out HB3.out).cell 1, (box_step HQ.out HB3.out).cell 2⟩)
          | (go_at_call 77; (with_reducible refine (HDi.out _).mono ?_); rintro e w4 ⟨rfl, hb4⟩; have HB4 : Hid (Below wq.heap.size wq w4) := Lib.hid (below_step HB3.out hb4); have HS4 : Hid (w4.cell? ⟨Lp, 0, none⟩ = some (.int .i64 p1) ∧ w4.cell? ⟨Lp, 1, none⟩ = some (.int .i64 p2) ∧ w4.cell? ⟨Lq, 0, none⟩ = some (.int .i64 x) ∧ w4.cell? ⟨Lq, 1, none⟩ = some (.int .i64 y) ∧ w4.cell? ⟨Lq, 2, none⟩ = some (.int .i64 u)) := Lib.hid ⟨(box_step HXq.out HB4.out).cell 0, (box_step HXq.out HB4.out).cell 1, (box_step HQ.out HB4.out).cell 0, (box_step HQ.out HB4.out).cell 1, (box_step HQ.out HB4.out).cell 2⟩)
          | (go_at_call 76; (with_reducible refine (HPu.out _ (box_step HBq.out HB4.out) (HOq.out.kept (grown_of_below HB4.out) (Classical.em _))).mono ?_); rintro e w5 ⟨rfl, g, c, E', hb5, hr5, hh5, hs5, ho5⟩
             have HX5 := Lib.hid ((box_step HXq.out HB4.out).off ho5 (by omega) (by omega))
             have HQ5 := Lib.hid ((box_step HQ.out HB4.out).off ho5 (by omega) (by omega))
             have HS5 : Hid (w5.cell? ⟨Lp, 0, none⟩ = some (.int .i64 p1) ∧ w5.cell? ⟨Lp, 1, none⟩ = some (.int .i64 p2) ∧ w5.cell? ⟨Lq, 0, none⟩ = some (.int .i64 x) ∧ w5.cell? ⟨Lq, 1, none⟩ = some (.int .i64 y) ∧ w5.cell? ⟨Lq, 2, none⟩ = some (.int .i64 u)) := Lib.hid ⟨HX5.out.cell 0, HX5.out.cell 1, HQ5.out.cell 0, HQ5.out.cell 1, HQ5.out.cell 2⟩))
      have HB5 := Lib.hid hb5
      have HR5 := Lib.hid hr5
      have HE5 : Hid (HeldK (m + 1) E' (insU (D i, (i : Int)) (kS K D i))) := Lib.hid (held_push HHe.out HN.out hs5)
      have HL5 : Hid (Below bx W0 w5) := Lib.hid ((HLq.out.trans (HB4.out.mono (by omega))).trans (ho5.below (Nat.le_refl _) hba (by have := HB4.out.size; omega)))
      have HPo := Lib.hid (fun W (hb : BoxAt W bx 90 #[.slice (some ⟨g, 0, none⟩) (m + 1) c]) (h : W.ownsRow (bx + 1) 94 2 (.slice (some ⟨g, 0, none⟩) (m + 1) c) (m + 1) (ptV (eL E' (m + 1)))) => hpop_any (bx + 1) bx g m c E' W hb h (by omega) (by omega) hh5)
      have HH5 := Lib.hid hh5
      have c5 : w5.cell? ⟨bx, 0, none⟩ = some (.slice (some ⟨g, 0, none⟩) (m + 1) c) := hb5.cell 0
      have hbg : bx + 1 ≤ g := (hr5.lt g rfl).1
      have hs5 : bx < w5.heap.size := hb5.lt
      have hsrt : Hid (SrtL (insU (D i, (i : Int)) (kS K D i))) := Lib.hid (srt_insU (nst_kS i).1.srt)
      clear hb5 hr5 hh5 ho5 HB4 HQ HXq HBq HOq HLq HPu HDi HS5 HX5 HQ5 HS3 HS4 HB3 s0 s1 s2 s3 s4 hsq HH HHe hb3 hb4 HN
      by_cases hgt : K < m + 1
      · have gk : k < (m : Int) + 1 := by omega
        have HK : Hid (kS K D (i + 1) = (insU (D i, (i : Int)) (kS K D i)).dropLast) := Lib.hid (by rw [kS, if_pos (by rw [HE5.out.1]; exact hgt)])
        go_wp2_with (go_at_call 78; (with_reducible refine (HPo.out _ HB5.out HR5.out).mono ?_); rintro e w6 ⟨rfl, E6, hb6, hr6, hh6, hs6, ho6⟩)
        go_roundw
        case rel => exact ⟨i + 1, E6, _, m, by omega, by go_num, Lib.hid hb6, Lib.hid hr6, Lib.hid hh6, Lib.hid (by rw [HK.out]; exact (held_pop HE5.out hsrt.out HH5.out hs6).1), Lib.hid (HL5.out.trans (ho6.below (Nat.le_refl _) (by omega) (by omega)))⟩
        case measure => first | (simp [intOf]; done) | (simp [intOf]; omega)
      · have gk : ¬ k < (m : Int) + 1 := by omega
        have HK : Hid (kS K D (i + 1) = insU (D i, (i : Int)) (kS K D i)) := Lib.hid (by rw [kS, if_neg (by rw [HE5.out.1]; exact hgt)])
        go_wp2
        go_roundw
        case rel => exact ⟨i + 1, E', _, m + 1, by omega, by go_num, HB5, HR5, HH5, Lib.hid (by rw [HK.out]; exact HE5.out), HL5⟩
        case measure => first | (simp [intOf]; done) | (simp [intOf]; omega)
    · obtain rfl : i = n := by omega
      have c5 : wr.cell? ⟨bx, 0, none⟩ = some v := HBx.out.cell 0
      have hs5 : bx < wr.heap.size := HBx.out.lt
      obtain ⟨Av, cv, hvv⟩ := own_form HO.out
      subst hvv
      have i1 : ¬ (i : Int) < (i : Int) := by omega
      have m0 : (0 : Int) ≤ (m : Int) := Int.natCast_nonneg _
      have hmi : Hid (m = min K i) := Lib.hid (HHe.out.1.symm.trans (nst_kS i).1.len)
      have hmn : m ≤ i := by have := hmi.out; omega
      obtain ⟨j0_, hj0, hy0, hy1, hy2⟩ := info_parts Try.info3
      have hwr : w.heap.size ≤ wr.heap.size := by omega
      have HBk := Lib.hid (fun G W => back_fn (some ⟨G, 0, none⟩) m m W)
      go_wp2_with (first
        | (at_make; refine wpList_make_full _ rfl _ _ 41 rfl wr.heap.size 3 j0_ (.int .i64 0) 1 Try.underlying41 hj0 hy0 hy1 .i64 .i64 _ _ m rfl rfl rfl rfl (by rw [hy2]; omega) (by unfold maxLen; omega) (Nat.le_refl _) ?_; intro wm hownm hgrowm)
        | (go_at_call 79; (with_reducible refine (HBk.out _ _).mono ?_); rintro e wz ⟨rfl, rfl⟩))
      obtain ⟨G, hG⟩ : ∃ G, G = wr.heap.size := ⟨_, rfl⟩
      obtain ⟨nb, hnb⟩ : ∃ nb, nb = wm.heap.size := ⟨_, rfl⟩
      have hbG : bx < G := by omega
      have hGn : G < nb := by
        have := (hownm.lt wr.heap.size rfl).2
        omega
      have hAv : ∀ a, Av = some a → bx + 1 ≤ a.block ∧ a.block < G := fun a e => by
        subst e
        have := HO.out.lt a.block rfl
        omega
      have hrow : wm.ownsRow G 3 1 (.slice (some ⟨G, 0, none⟩) m m) m (nuL (kS K D i) m) := by
        have e : nuL (kS K D i) m = (madeCells (Value.int .i64 0).cells (m * 1)).toList := by
          rw [Nat.mul_one]
          unfold nuL
          rw [List.drop_of_length_le (by rw [HHe.out.1]; exact Nat.le_refl _), List.map_nil, List.append_nil]
          exact (toList_madeCells_one (.int .i64 0) m).symm
        rw [e, hG]
        exact hownm
      have hbelow : Below bx W0 wm := HBl.out.trans ((below_of_grown hgrowm).mono (by omega))
      have hI0 : ∀ W, W = (wm.alloc (.cells #[.slice (some ⟨G, 0, none⟩) m m] 41)).alloc (.cells #[.slice (some ⟨G, 0, none⟩) m m] 41) → NI bx nb (nb + 1) G m Av cv (kS K D i) W0 [] W ∧ W.heap.size = nb + 2 := by
        rintro W rfl
        refine ⟨⟨E, ?_, ?_, HH.out, ?_, ?_, ?_, (hrow.alloc _).alloc _, (hbelow.alloc (by omega) _).alloc (by simp; omega) _⟩, by simp; omega⟩
        · exact ((HBx.out.grown hgrowm (by simp)).alloc _).alloc _
        · exact (((HO.out.kept hgrowm (Classical.em _))).alloc _).alloc _
        · have e : (kS K D i).take m = kS K D i := List.take_of_length_le (by rw [HHe.out.1]; exact Nat.le_refl _)
          show HeldK m E ((kS K D i).take m)
          rw [e]
          exact HHe.out
        · have := BoxAt.new wm 41 #[.slice (some ⟨G, 0, none⟩) m m]
          rw [← hnb] at this
          exact this.alloc _
        · have := BoxAt.new (wm.alloc (.cells #[.slice (some ⟨G, 0, none⟩) m m] 41)) 41 #[.slice (some ⟨G, 0, none⟩) m m]
          rw [World.size_alloc, ← hnb] at this
          exact this
      rw [← hG, ← hnb]
      obtain ⟨hI1, hsz⟩ := hI0 _ rfl
      have HM : Hid ((kS K D i).length = m ∧ SrtL (kS K D i)) := Lib.hid ⟨HHe.out.1, (nst_kS i).1.srt⟩
      clear hI0 hrow hownm hgrowm hbelow hG hnb HBx HO HH HHe HBl c5 hj0 hy0 hy1 hy2
      generalize (wm.alloc (.cells #[.slice (some ⟨G, 0, none⟩) m m] 41)).alloc (.cells #[.slice (some ⟨G, 0, none⟩) m m] 41) = WR at *
      refine (wpIn_wide (n := f)).1 ?_
      refine range_allR (F := Fence.wide) (P := Try.prog) (α := Nat) rfl (by omega) (gf := 113) (lb := #[.pointer (some ⟨nb + 1, 0, none⟩)]) rfl trivial (enters_of Try.func113 (by kernel_rfl) rfl)
        (encs := fun x : Nat => #[.int .i64 (x : Int), .int .i64 0]) (fun _ => rfl) (N := m + 1) (xs := dnL m m) (fun _ _ => True) (fun _ _ => trivial)
        (NI bx nb (nb + 1) G m Av cv (kS K D i) W0) (fun _ _ _ _ _ _ _ _ _ _ => trivial) ?ia ?ip hI1 (fun pre x => x = m - 1 - pre.length ∧ pre.length < m)
        (fun x a' _ => a' = { tmps := #[.slice A i cap, sp p1 p2, .int .i64 k, undef, .pointer (some ⟨Lp, 0, none⟩), undef, .slice none 0 0, .pointer (some ⟨bx, 0, none⟩), u8, u9, .pointer (some ⟨nb, 0, none⟩), .int .i64 (x : Int), .slice A i cap, .int .i64 0, .bool false, .bool false, .agg #[.int .i64 p1, .int .i64 p2], .slice (some ⟨w1.heap.size, 0, none⟩) 1 1, .bool true, .bool false, .bool false, .bool false, .int .i64 k, .bool (decide (k < 1)), .bool (decide (k < 1)), .slice A i cap, .int .i64 (i : Int), .int .i64 (i : Int), .bool false, u29, u30, u31, u32, u33, u34, u35, u36, u37, u38, u39, u40, u41, u42, u43, u44, u45, u46, u47, .slice Av m cv, .int .i64 (m : Int), .slice (some ⟨G, 0, none⟩) m m, .slice (some ⟨G, 0, none⟩) m m, .func (.func 113) #[] #[.pointer (some ⟨nb + 1, 0, none⟩)], .int .i64 (x : Int), .int .i64 0, undef, undef, undef, undef, undef, undef, undef, undef], defers := [] })
        (fun _ _ _ _ _ _ h _ _ _ => h) ?seq ?assign ?body ?done
      case ia =>
        intro pre W o h
        refine h.alloc ?_ o
        obtain ⟨E, h1, _⟩ := h
        exact Nat.le_of_lt h1.lt
      case ip =>
        intro pre W l o o' h hl ho hc
        exact h.put (fun a e => by have := hAv a e; omega) (by omega) (by omega) (by omega) (by omega) o'
      case seq =>
        intro o1 o2 W ho1 ho2 hb hsW hY hJ0
        refine back_in (f - 1) (by omega) (WR.heap.size + 1) (nb + 1) G m (by omega) (Btw (NI bx nb (nb + 1) G m Av cv (kS K D i) W0) WR.heap.size o1 o2) W ?_ ?_ hJ0
        · rintro pre A' ⟨⟨E, _, _, _, _, _, h6, h7, _⟩, _, _⟩
          exact ⟨h6, fun j hj => by rw [World.ownsRow.cellAt h7 j (by omega)]; exact nuL_zero hj⟩
        · intro pre x A' hJ hR
          exact hY pre x A' hJ hR (by omega)
      case assign =>
        intro l pre x W K hI hR hK
        replace hR := Lib.hid hR
        gi_wp2
        exact hK _ _ (KeepsFrom.refl _ _) trivial hI rfl
      case body =>
        rintro l pre x a' W hI ⟨hx, hpl⟩ rfl hlen
        obtain ⟨E, h1, h2, h3, h4, h5, h6, h7, h8⟩ := hI
        obtain ⟨r, hr⟩ : ∃ r, m - pre.length = r + 1 := ⟨m - pre.length - 1, by omega⟩
        obtain rfl : x = r := by omega
        rw [hr] at h1 h2 h3 h4 h7
        have hr2 : Hid (m - (pre ++ [x]).length = x) := Lib.hid (by rw [List.length_append]; simp; omega)
        obtain ⟨g, c', hform, hgb, _⟩ := h2.form (by omega)
        obtain ⟨rfl, rfl⟩ : Av = some ⟨g, 0, none⟩ ∧ cv = c' := by simpa using hform
        have hgG := (hAv _ rfl).2
        simp only at hgG
        have hmx : x < m := by omega
        have HPo := Lib.hid (fun W (h1 : BoxAt W bx 90 #[.slice (some ⟨g, 0, none⟩) (x + 1) cv]) (h2 : W.ownsRow (bx + 1) 94 2 (.slice (some ⟨g, 0, none⟩) (x + 1) cv) (x + 1) (ptV (eL E (x + 1)))) => hpop_any (bx + 1) bx g x cv E W h1 h2 (by omega) (by omega) h3)
        have HPp : Hid (∀ E', SameE x (swp E 0 x) E' → HeldK x E' ((kS K D i).take x) ∧ (kS K D i)[x]? = some ((E 0).2, (E 0).1)) := Lib.hid (fun E' hs => by
          have hlen : ((kS K D i).take (x + 1)).length = x + 1 := by rw [List.length_take, HM.out.1]; omega
          obtain ⟨q1, q2⟩ := held_pop h4 (List.Pairwise.sublist (List.take_sublist _ _) HM.out.2) h3 hs
          have q3 : ((kS K D i).take (x + 1)).dropLast = (kS K D i).take x := by
            rw [List.dropLast_eq_take, hlen, List.take_take]
            congr 1
            omega
          rw [q3] at q1
          rw [List.getElem?_take, if_pos (by omega)] at q2
          exact ⟨q1, q2⟩)
        obtain ⟨⟨z, y⟩, hzy⟩ : ∃ q, q = E 0 := ⟨_, rfl⟩
        rw [← hzy] at HPo HPp
        have hta : ∀ W, (Instr.typeAssert (.iface 94 (.agg #[.int .i64 z, .int .i64 y])) 20 94 false).run Try.prog W = .ok (.agg #[.int .i64 z, .int .i64 y]) W := ta_any z y
        have hfd : ∀ W, (Instr.field 94 (.agg #[.int .i64 z, .int .i64 y]) 0).run Try.prog W = .ok (.int .i64 z) W := fd_any z y
        have x0 : (0 : Int) ≤ (x : Int) := Int.natCast_nonneg _
        have x1 : (x : Int) < (m : Int) := by omega
        have c5 : W.cell? ⟨nb, 0, none⟩ = some (.slice (some ⟨G, 0, none⟩) m m) := h5.cell 0
        have l5 := h5.lt
        have H1 := Lib.hid h1
        have H2 := Lib.hid h2
        have H5 := Lib.hid h5
        have H6 := Lib.hid h6
        have H7 := Lib.hid h7
        have H8 := Lib.hid h8
        have HR := Lib.hid hr
        have hgb' : bx < g := by omega
        clear h1 h2 h3 h4 h5 h6 h7 h8 hform hzy hpl hx hr hI1 hAv hgb hlen
        have HFin : Hid (∀ w6 E6, BoxAt w6 bx 90 #[.slice (some ⟨g, 0, none⟩) x cv] → w6.ownsRow (bx + 1) 94 2 (.slice (some ⟨g, 0, none⟩) x cv) x (ptV (eL E6 x)) → HpE x E6 → SameE x (swp E 0 x) E6 → Off bx g W w6 →
            Hid (KeepsFrom WR.heap.size W (w6.setCell ⟨G, x, none⟩ (.int .i64 z)) ∧ True ∧ NI bx nb (nb + 1) G m (some ⟨g, 0, none⟩) cv (kS K D i) W0 (pre ++ [x]) (w6.setCell ⟨G, x, none⟩ (.int .i64 z)))) := Lib.hid (fun w6 E6 hb6 hr6 hh6 hs6 ho6 => Lib.hid (by
          have h7 := row_off H7.out ho6 (by simp [Value.ownBlock]; omega) (by simp [Value.ownBlock]; omega)
          refine ⟨⟨by simp; exact ho6.2.2.2.1, fun q o hB hq _ => ?_⟩, trivial, ?_⟩
          · rw [Below.heap_setCell _ _ _ _ (by show q ≠ G; omega), ho6.2.2.2.2 q (Array.getElem?_eq_some_iff.1 hq).1 (by omega) (by omega)]
            exact hq
          · unfold NI
            rw [hr2.out]
            refine ⟨E6, hb6.other (by omega) _ _, hr6.kept (grown_set _ _ _ _) (.inr (by simp [Value.ownBlock]; omega)), hh6, (HPp.out E6 hs6).1, (H5.out.off ho6 (by omega) (by omega)).other (by omega) _ _, (H6.out.off ho6 (by omega) (by omega)).other (by omega) _ _, ?_, (H8.out.trans (ho6.below (Nat.le_refl _) (by omega) (Nat.le_of_lt H1.out.lt))).setCell (by show bx ≤ G; omega) _⟩
            have q := (h7.stored x (.int .i64 z)).1
            rwa [nuL_set (HPp.out E6 hs6).2] at q))
        gi_wp2
        gi_region_with ((refine ⟨trivial, fun _ => by omega, ?_⟩; gi_at_call 78; refine (CallsIn.inRound l (callsIn_wide.2 (HPo.out W.drew H1.out H2.out))).mono ?_; rintro e w6 ⟨rfl, E6, hb6, hr6, hh6, hs6, ho6'⟩; have ho6 : Off bx g W w6 := ho6'; have c6 : w6.cell? ⟨nb, 0, none⟩ = some (.slice (some ⟨G, 0, none⟩) m m) := (H5.out.off ho6 (by omega) (by omega)).cell 0; have l6 : nb < w6.heap.size := (H5.out.off ho6 (by omega) (by omega)).lt; have h7 := row_off H7.out ho6 (by simp [Value.ownBlock]; omega) (by simp [Value.ownBlock]; omega); have c7 : w6.cell? ⟨G, x, none⟩ = some (.int .i64 0) := (World.ownsRow.cellAt h7 x (by omega)).trans (nuL_zero (by omega)); have f7 : w6.frozen? ⟨G, x, none⟩ = false := World.ownsRow.frozenAt h7 x; have lG : G < w6.heap.size := (h7.lt G rfl).2; have HF := HFin.out w6 E6 hb6 hr6 hh6 hs6 ho6; clear h7))
        all_goals exact HF.out
      case done =>
        rintro W ⟨E, h1, h2, h3, h4, h5, h6, h7, h8⟩ hK
        have c10 : W.cell? ⟨nb, 0, none⟩ = some (.slice (some ⟨G, 0, none⟩) m m) := h5.cell 0
        have l10 := h5.lt
        have HRes : Hid (Row (W.putObj WR.heap.size (.deferred none)) (.slice (some ⟨G, 0, none⟩) m m) (nstN K D i) ∧ Below w.heap.size w (W.putObj WR.heap.size (.deferred none))) := Lib.hid (by
          have e : (nstN K D i).length = m := by rw [nstN_len]; exact hmi.out.symm
          refine ⟨⟨G, ?_⟩, (HB2.out.trans (h8.mono hwb)).trans (putObj_below (by omega) _)⟩
          rw [e, ← nuL_end]
          rw [dnL_len, Nat.sub_self] at h7
          exact h7.kept (grownBy_putObj' W _ _) (.inr (by simp [Value.ownBlock]; omega)))
        clear h1 h2 h3 h4 h5 h6 h7 h8
        go_wp2
        refine ⟨by simp, .inl ⟨_, _, rfl, run_takeDeferred hK, ?_⟩⟩
        refine ⟨.slice (some ⟨G, 0, none⟩) m m, ?_, _, rfl, HRes.out⟩
        exact results_tmp (show Try.f32.results = #[.tmp 6] from rfl) _ _ _
end Go.Proofs.Ytaehfildhmljeaa

namespace Go.Proofs.Ytaehfildhmljeaa
open Go.RowKit Go.Shelf

set_option maxRecDepth 100000 in
set_option maxHeartbeats 8000000 in
theorem nearest_any (A : Option Addr) (n cap : Nat) (X Y V : Nat → Int) (p1 p2 k : Int) (w : World) (hcl : Cloud w A n X Y V) :
    Calls Try.prog 32 #[.slice A n cap, sp p1 p2, .int .i64 k] w fun e w' => ∃ r, e = .returned r ∧ Row w' r (nstF X Y V n p1 p2 k) ∧ Below w.heap.size w w' := by
  by_cases hg : chkF n X Y V = 0 ∧ vldB p1 p2 = true ∧ 1 ≤ k
  · have h := callsIn_wide.1 (nearest_good 3 (Nat.le_refl _) A n cap X Y V p1 p2 k w hcl hg.1 hg.2.1 hg.2.2)
    unfold nstF
    rw [if_pos hg]
    exact h
  · have HN : Hid (nstF X Y V n p1 p2 k = []) := Lib.hid (by unfold nstF; rw [if_neg hg])
    rw [HN.out]
    have hb0 : Below w.heap.size w (w.alloc (.cells #[.int .i64 p1, .int .i64 p2] 24)) := (Below.refl _ w).alloc (Nat.le_refl _) _
    have hx0 := BoxAt.new w 24 #[.int .i64 p1, .int .i64 p2]
    obtain ⟨z, hz⟩ : ∃ z, z = chkF n X Y V := ⟨_, rfl⟩
    obtain ⟨b, hb⟩ : ∃ b, b = vldB p1 p2 := ⟨_, rfl⟩
    have HCh : Hid (∀ W, Below w.heap.size w W → Calls Try.prog 22 #[.slice A n cap] W fun e w' => e = .returned (.int .i64 z) ∧ Below W.heap.size W w') := Lib.hid (fun W hW => by
      rw [hz]
      exact check_any A n cap X Y V W (hcl.below hW))
    have HV := Lib.hid (fun g cap w (h : BoxAt w g 24 #[.int .i64 p1, .int .i64 p2]) => one_vspot g cap p1 p2 b w h (Lib.hid hb.symm))
    have HNil : Hid (∀ W, Below w.heap.size w W → ∃ r, Ending.returned (.slice none 0 0) = Ending.returned r ∧ Row W r [] ∧ Below w.heap.size w W) := Lib.hid (fun W h => ⟨_, rfl, ⟨0, World.ownsRow_nil _ _ _ _⟩, h⟩)
    rw [← hz, ← hb] at hg
    clear hcl hz hb HN
    show Calls Try.prog 32 #[.slice A n cap, .agg #[.int .i64 p1, .int .i64 p2], .int .i64 k] w _
    by_cases h0 : z = 0
    · subst h0
      cases b with
      | false =>
        clear hg
        go_enter Try.func32, Try.ntmps32
        go_wp2_with (first
          | (go_at_call 22; (with_reducible refine (HCh.out _ hb0).mono ?_); rintro e w1 ⟨rfl, hb1⟩; have HB1 := Lib.hid (below_step hb0 hb1); have HX1 := Lib.hid (box_step hx0 hb1); have c0 := HX1.out.cell 0; have c1 := HX1.out.cell 1)
          | (go_at_call 60; (with_reducible refine (HV.out _ _ _ (BoxAt.new _ 24 _)).mono ?_); rintro e w2 ⟨rfl, hb2⟩))
        go_ret
        exact HNil.out _ (below_step HB1.out (below_step ((Below.refl _ w1).alloc (Nat.le_refl _) _) hb2))
      | true =>
        have hk : k < 1 := by
          have : ¬ 1 ≤ k := fun h => hg ⟨rfl, rfl, h⟩
          omega
        clear hg
        go_enter Try.func32, Try.ntmps32
        go_wp2_with (first
          | (go_at_call 22; (with_reducible refine (HCh.out _ hb0).mono ?_); rintro e w1 ⟨rfl, hb1⟩; have HB1 := Lib.hid (below_step hb0 hb1); have HX1 := Lib.hid (box_step hx0 hb1); have c0 := HX1.out.cell 0; have c1 := HX1.out.cell 1)
          | (go_at_call 60; (with_reducible refine (HV.out _ _ _ (BoxAt.new _ 24 _)).mono ?_); rintro e w2 ⟨rfl, hb2⟩))
        go_ret
        exact HNil.out _ (below_step HB1.out (below_step ((Below.refl _ w1).alloc (Nat.le_refl _) _) hb2))
    · clear hg HV
      go_enter Try.func32, Try.ntmps32
      go_wp2_with (go_at_call 22; (with_reducible refine (HCh.out _ hb0).mono ?_); rintro e w1 ⟨rfl, hb1⟩; have HB1 := Lib.hid (below_step hb0 hb1))
      go_ret
      exact HNil.out _ HB1.out
end Go.Proofs.Ytaehfildhmljeaa
