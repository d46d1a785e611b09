/- Rows of numbers that are made: owned rows of slices, each with a block of its own. -/
import Derived.Test.YtnpnfdnaglcnfaaDoorFld
namespace Go.Proofs.YtnpnfdnaglcnfaaDoor
open Go.RowKit Go.Shelf

theorem inf36 : (Tryd.prog.info? 36).map (fun i => (i.zero, i.size, i.bytes)) = some (some (.slice none 0 0), 1, 24) := by kernel_rfl
/-- Blocks of int64s stand. -/
def Kt2 (W W' : World) : Prop := ∀ (g : Nat) (cs : Array Value), W.heap[g]? = some (Obj.cells cs 2 (0, 0)) → W'.heap[g]? = some (Obj.cells cs 2 (0, 0))
theorem Kt2.refl (W : World) : Kt2 W W := fun _ _ h => h
theorem Kt2.trans {A B C : World} (h : Kt2 A B) (h' : Kt2 B C) : Kt2 A C := fun g cs e => h' g cs (h g cs e)
theorem Kt2.of_below {W W' : World} (h : Below W.heap.size W W') : Kt2 W W' := fun g _ e => (h.block g (Array.getElem?_eq_some_iff.1 e).1).trans e
theorem Kt2.grown {W W' : World} {base e size : Nat} {v : Value} {k : Nat} {xs : List Value} (h : W.grownBy W' v.ownBlock) (hr : W.ownsRow base e size v k xs) (he : e ≠ 2) : Kt2 W W' := fun g cs h2 => by
  refine (h.block g (Array.getElem?_eq_some_iff.1 h2).1 ?_).trans h2
  intro hg
  obtain ⟨_, cur, h3⟩ := row_cells hr hg.symm
  rw [h2] at h3
  cases h3
  exact he rfl
/-- A value that is a row of its own. -/
def RowB (W : World) (u : Value) (r : List Int) : Prop := ∃ (C : Option Addr) (c : Nat), u = .slice C r.length c ∧ (0 < r.length → ∃ (g : Nat) (cur : Array Value), C = some ⟨g, 0, none⟩ ∧ W.heap[g]? = some (Obj.cells cur 2 (0, 0)) ∧ ∀ (i : Nat) (x : Int), r[i]? = some x → cur[i]? = some (iv x))
theorem RowB.kt {W W' : World} {u : Value} {r : List Int} (h : RowB W u r) (hk : Kt2 W W') : RowB W' u r := by
  obtain ⟨C, c, h1, h2⟩ := h
  refine ⟨C, c, h1, fun hl => ?_⟩
  obtain ⟨g, cur, e1, e2, e3⟩ := h2 hl
  exact ⟨g, cur, e1, hk _ _ e2, e3⟩
theorem RowB.num {W : World} {r : List Int} {C : Option Addr} {c : Nat} (h : RowB W (.slice C r.length c) r) : NumL W C r := fun hl => by
  obtain ⟨C', c', h1, h2⟩ := h
  obtain ⟨rfl, rfl⟩ : C = C' ∧ c = c' := by simpa using h1
  obtain ⟨g, cur, e1, e2, e3⟩ := h2 hl
  refine ⟨g, 0, e1, fun i x hi => ?_⟩
  have hb : BoxAt W g 2 cur := e2
  rw [Nat.zero_add, hb.cell i, e3 i x hi]
/-- Rows that are owned. -/
def OwnT (W : World) (base : Nat) (v : Value) (t : List (List Int)) : Prop := ∃ us : List Value, W.ownsRow base 36 1 v t.length us ∧ Reps (RowB W) us t
theorem Reps.at {V : Type} {R : Value → V → Prop} : ∀ {us : List Value} {xs : List V} (i : Nat) (x : V), Reps R us xs → xs[i]? = some x → ∃ u, us[i]? = some u ∧ R u x
  | u :: _, y :: _, 0, x, h, hx => by
    have e : y = x := by simpa using hx
    exact ⟨u, rfl, e ▸ h.1⟩
  | _ :: us, _ :: xs, i + 1, x, h, hx => by
    obtain ⟨u, hu, hr⟩ := Reps.at (us := us) (xs := xs) i x h.2 (by simpa using hx)
    exact ⟨u, by simpa using hu, hr⟩
  | [], [], _, _, _, hx => by simp at hx
  | [], _ :: _, _, _, h, _ => h.elim
  | _ :: _, [], _, _, h, _ => h.elim
theorem Reps.snoc {V : Type} {R : Value → V → Prop} {u : Value} {x : V} (hu : R u x) : ∀ {us : List Value} {xs : List V}, Reps R us xs → Reps R (us ++ [u]) (xs ++ [x])
  | [], [], _ => ⟨hu, trivial⟩
  | _ :: us, _ :: xs, h => ⟨h.1, Reps.snoc (us := us) (xs := xs) hu h.2⟩
  | [], _ :: _, h => h.elim
  | _ :: _, [], h => h.elim
theorem OwnT.rows {W : World} {base : Nat} {A : Option Addr} {c : Nat} {t : List (List Int)} (h : OwnT W base (.slice A t.length c) t) : RowsL W A t := fun hn => by
  obtain ⟨us, h1, h2⟩ := h
  obtain ⟨g, c', hv, hb, hg⟩ := h1.form hn
  obtain ⟨rfl, rfl⟩ : A = some ⟨g, 0, none⟩ ∧ c = c' := by simpa using hv
  refine ⟨g, 0, rfl, fun i r hi => ?_⟩
  obtain ⟨u, hu, hr⟩ := h2.at i r hi
  have hil := (List.getElem?_eq_some_iff.1 hi).1
  obtain ⟨C, cc, rfl, h4⟩ := id hr
  refine ⟨C, cc, ?_, hr.num⟩
  rw [Nat.zero_add, World.ownsRow.cellAt h1 i (by omega), hu]
theorem OwnT.below {W W' : World} {base : Nat} {v : Value} {t : List (List Int)} (h : OwnT W base v t) (hb : Below W.heap.size W W') : OwnT W' base v t := by
  obtain ⟨us, h1, h2⟩ := h
  exact ⟨us, h1.kept (grown_of_below hb) (Classical.em _), h2.mono fun u r h => h.kt (Kt2.of_below hb)⟩
theorem OwnT.form {W : World} {base : Nat} {v : Value} {t : List (List Int)} (h : OwnT W base v t) : ∃ A c, v = .slice A t.length c := by
  obtain ⟨us, h1, h2⟩ := h
  exact own_form h1
theorem OwnT.nil (W : World) (base : Nat) : OwnT W base (.slice none 0 0) [] := ⟨[], World.ownsRow_nil _ _ _ _, trivial⟩
/-- A row more. -/
theorem OwnT.grown {W W' : World} {base g c : Nat} {v u : Value} {t : List (List Int)} {r : List Int} {us : List Value} (h1 : W.ownsRow base 36 1 v t.length us) (h2 : Reps (RowB W) us t) (hu : RowB W u r) (hg : W.grownBy W' v.ownBlock)
    (hr : W'.ownsRow base 36 1 (.slice (some ⟨g, 0, none⟩) (t.length + 1) c) (t.length + 1) (us ++ [u])) : OwnT W' base (.slice (some ⟨g, 0, none⟩) (t.length + 1) c) (t ++ [r]) := by
  have hk := Kt2.grown hg h1 (by decide)
  refine ⟨us ++ [u], ?_, (h2.mono fun u r h => h.kt hk).snoc (hu.kt hk)⟩
  rw [List.length_append]
  exact hr
set_option maxRecDepth 100000 in
set_option maxHeartbeats 4000000 in
/-- The law's own rows: one column. -/
theorem rows_any (A : Option Addr) (cap : Nat) (l : List Int) (w : World) (hl : l.length ≤ 100000) (hA : NumL w A l) :
    Calls Tryd.prog 68 #[.slice A l.length cap] w fun e w' => ∃ C c, e = .returned (.slice C l.length c) ∧ RowsL w' C (l.map fun x => [x]) ∧ Below w.heap.size w w' := by
  have HA := Lib.hid hA
  obtain ⟨N, hN⟩ : ∃ N, N = l.length := ⟨_, rfl⟩
  rw [← hN] at hl ⊢
  have HN := Lib.hid hN
  obtain ⟨B, hB⟩ : ∃ B, B = w.heap.size := ⟨_, rfl⟩
  have HBw := Lib.hid hB
  obtain ⟨i0_, hi0, hz0, hz1, hz2⟩ := info_parts inf36
  have HI0 := Lib.hid hi0
  have HZ0 := Lib.hid hz0
  have HZ1 := Lib.hid hz1
  have HZ2 := Lib.hid hz2
  clear hA hN hB hi0 hz0 hz1 hz2
  go_enter Tryd.func68, Tryd.ntmps68
  go_wp2
  go_loopw [3, 4] (fun ov i wr => ∃ k : Nat, k ≤ N ∧ i = iv k ∧ Hid (OwnT wr B ov ((l.take k).map fun x => [x])) ∧ Hid (Below w.heap.size w wr)) (fun _ i _ => N - (intOf i).toNat)
  case atStart => exact ⟨0, Nat.zero_le _, rfl, Lib.hid (OwnT.nil _ _), Lib.hid (Below.refl _ _)⟩
  case round =>
    obtain ⟨k, hk, rfl, HO, HB⟩ := hrel
    have hkl : ((l.take k).map fun x => [x]).length = k := by rw [List.length_map, List.length_take, ← HN.out]; omega
    obtain ⟨us, hro, hre⟩ := HO.out
    rw [hkl] at hro
    have i0 : (0 : Int) ≤ (k : Int) := Int.natCast_nonneg _
    obtain ⟨Ao, co, hov⟩ := own_form hro
    subst hov
    by_cases hlt : k < N
    · have i1 : (k : Int) < (N : Int) := by omega
      obtain ⟨y, hn, hd⟩ := drop_at (L := l) (k := k) (by rw [← HN.out]; exact hlt)
      obtain ⟨b, off, rfl, c0⟩ := (HA.out.below HB.out).at hn
      have l0 : b < wr.heap.size := World.block_lt_of_cell? wr _ c0
      have HT : Hid ((l.take (k + 1)).map (fun x => [x]) = (l.take k).map (fun x => [x]) ++ [[y]]) := Lib.hid (by rw [List.take_add_one, hn, List.map_append]; rfl)
      have HRo := Lib.hid ((hro.alloc (.cells #[iv y] 2)).alloc (.cells #[.slice (some ⟨wr.heap.size, 0, none⟩) 1 1] 36))
      have HRe := Lib.hid (hre.mono fun u r h => h.kt (Kt2.of_below (((Below.refl _ wr).alloc (Nat.le_refl _) (.cells #[iv y] 2)).alloc (by simp) (.cells #[.slice (some ⟨wr.heap.size, 0, none⟩) 1 1] 36))))
      have HU : Hid (RowB ((wr.alloc (.cells #[iv y] 2)).alloc (.cells #[.slice (some ⟨wr.heap.size, 0, none⟩) 1 1] 36)) (.slice (some ⟨wr.heap.size, 0, none⟩) 1 1) [y]) := Lib.hid ⟨_, 1, rfl, fun _ => ⟨_, _, rfl, (BoxAt.new wr 2 #[iv y]).alloc _, fun i x hi => by
        have hl := (List.getElem?_eq_some_iff.1 hi).1
        simp only [List.length_cons, List.length_nil] at hl
        obtain rfl : i = 0 := by omega
        obtain rfl : y = x := by simpa using hi
        rfl⟩⟩
      have hBs : B ≤ wr.heap.size := by have h1 := HB.out.size; have h2 := HBw.out; omega
      clear hn hd hro hre
      go_wp2_with (at_builtin; refine wpList_append_lies _ rfl _ _ 23 rfl B 36 i0_ _ 1 24 Tryd.underlying23 HI0.out HZ0.out HZ1.out HZ2.out rfl (by decide) (.slice Ao k co) k us rfl HRo.out ⟨wr.heap.size + 1, 0, none⟩ 1 1 [.slice (some ⟨wr.heap.size, 0, none⟩) 1 1] rfl rfl (World.news_of_block (cs := #[.slice (some ⟨wr.heap.size, 0, none⟩) 1 1]) (t := 36) (fr := (0, 0)) (by have := World.alloc_heap_new (wr.alloc (.cells #[iv y] 2)) (.cells #[.slice (some ⟨wr.heap.size, 0, none⟩) 1 1] 36); rw [World.size_alloc] at this; exact this)) (by simp [Value.oneCell']) (by decide) (by unfold maxLen; omega) (by omega) (by simp; omega) _ rfl ?_; intro gg cap1 w8 hown8 hgrow hat hlt8)
      have HB8 : Hid (Below w.heap.size w w8) := Lib.hid (((HB.out.alloc HB.out.size _).alloc (by have := HB.out.size; rw [World.size_alloc]; omega) _).grown hgrow (by have := HB.out.size; simp; omega) (fun j e => by have h1 := (HRo.out.lt j e).1; have h2 := HBw.out; omega))
      refine ⟨⟨k + 1, by omega, by go_num, Lib.hid ?_, HB8⟩, by simp [intOf]; omega⟩
      rw [HT.out]
      have hg := OwnT.grown (base := B) (t := (l.take k).map fun x => [x]) (r := [y]) (by rw [hkl]; exact HRo.out) HRe.out HU.out hgrow (by rw [hkl]; exact hown8)
      rw [hkl] at hg
      exact hg
    · obtain rfl : k = N := by omega
      have i1 : ¬ (k : Int) < (k : Int) := by omega
      have HT : Hid (l.take k = l) := Lib.hid (List.take_of_length_le (by rw [← HN.out]; exact Nat.le_refl _))
      go_wp2
      go_ret
      refine ⟨Ao, ⟨co, rfl⟩, ?_, HB.out⟩
      have h := HO.out
      rw [HT.out] at h
      have e : (l.map fun x => [x]).length = k := by rw [List.length_map]; exact HN.out.symm
      rw [← e] at h
      exact h.rows
end Go.Proofs.YtnpnfdnaglcnfaaDoor
