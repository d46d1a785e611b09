/- Nodes, and formulas behind them: join. -/
import Derived.Test.YtnpnfdnaglcnfaaDoorRdw
namespace Go.Proofs.YtnpnfdnaglcnfaaDoor
open Go.RowKit Go.Shelf

/-- Rows of nodes lie in a slice. -/
def RowN (w : World) (A : Option Addr) (L : List (List Nd)) : Prop := 0 < L.length → ∃ b off, A = some ⟨b, off, none⟩ ∧ ∀ i r, L[i]? = some r → 0 < r.length ∧ ∃ C c, w.cell? ⟨b, off + i, none⟩ = some (.slice C r.length c) ∧ NdsL w C r
theorem RowN.below {w w' : World} {A : Option Addr} {L : List (List Nd)} (h : RowN w A L) (hb : Below w.heap.size w w') : RowN w' A L := fun hn => by
  obtain ⟨b, off, e, hp⟩ := h hn
  refine ⟨b, off, e, fun i r hi => ?_⟩
  obtain ⟨h0, C, c, h1, h2⟩ := hp i r hi
  exact ⟨h0, C, c, (hb.cell (p := ⟨b, off + i, none⟩) (World.block_lt_of_cell? w _ h1)).trans h1, h2.below hb⟩
theorem RowN.at {w : World} {A : Option Addr} {L : List (List Nd)} (h : RowN w A L) {i : Nat} {r : List Nd} (hi : L[i]? = some r) : ∃ b off C c, A = some ⟨b, off, none⟩ ∧ 0 < r.length ∧ w.cell? ⟨b, off + i, none⟩ = some (.slice C r.length c) ∧ NdsL w C r := by
  obtain ⟨b, off, e, hp⟩ := h (by have := (List.getElem?_eq_some_iff.1 hi).1; omega)
  obtain ⟨h0, C, c, h1, h2⟩ := hp i r hi
  exact ⟨b, off, C, c, e, h0, h1, h2⟩
theorem add_flat' (b off j : Nat) : (⟨b, off, none⟩ : Addr).add j = ⟨b, off + j, none⟩ := by unfold Addr.add; split <;> simp_all
theorem nds_cells {w : World} {b off : Nat} {L : List Nd} (h : ∀ i n, L[i]? = some n → NdAt w b (off + i * 6) n) : ∀ j u, (ndC L)[j]? = some u → w.cell? ((⟨b, off, none⟩ : Addr).add j) = some u := fun j u hu => by
  have hj := (List.getElem?_eq_some_iff.1 hu).1
  rw [ndC_len] at hj
  obtain ⟨n, hn⟩ : ∃ n, L[j / 6]? = some n := ⟨_, List.getElem?_eq_getElem (by omega)⟩
  have e : j = j / 6 * 6 + j % 6 := by omega
  have h1 := ndC_at L (j / 6) n hn (j % 6) (by omega)
  rw [← e, hu] at h1
  obtain ⟨g0, g1, g2, g3, g4, g5⟩ := h (j / 6) n hn
  rw [add_flat', show off + j = off + j / 6 * 6 + j % 6 from by omega]
  have hq : j % 6 < 6 := by omega
  generalize j % 6 = q at h1 hq
  match q, hq with
  | 0, _ => rw [h1]; exact g0
  | 1, _ => rw [h1]; exact g1
  | 2, _ => rw [h1]; exact g2
  | 3, _ => rw [h1]; exact g3
  | 4, _ => rw [h1]; exact g4
  | 5, _ => rw [h1]; exact g5
theorem one_ndC (L : List Nd) : ∀ u ∈ ndC L, u.oneCell' = true := fun u hu => by
  unfold ndC at hu
  obtain ⟨n, _, hn⟩ := List.mem_flatMap.1 hu
  simp only [List.mem_cons, List.not_mem_nil, or_false] at hn
  rcases hn with rfl | rfl | rfl | rfl | rfl | rfl <;> rfl
theorem ndC_app (L M : List Nd) : ndC (L ++ M) = ndC L ++ ndC M := by unfold ndC; simp
theorem flat_take {L : List (List Nd)} {k : Nat} {r : List Nd} (h : L[k]? = some r) : (L.take (k + 1)).flatten = (L.take k).flatten ++ r := by
  rw [List.take_add_one, h]; simp
theorem flat_take_le (L : List (List Nd)) (k : Nat) : (L.take k).flatten.length ≤ L.flatten.length := by
  have e : L.flatten = (L.take k).flatten ++ (L.drop k).flatten := by rw [← List.flatten_append, List.take_append_drop]
  rw [e, List.length_append]; omega
set_option maxRecDepth 100000 in
set_option maxHeartbeats 4000000 in
theorem join_any (A : Option Addr) (cap : Nat) (n : List Nd) (A2 : Option Addr) (cap2 : Nat) (L : List (List Nd)) (w : World) (hn : 0 < n.length) (ht : n.length + L.flatten.length ≤ 1000) (hL : L.length ≤ 1000) (hA : NdsL w A n) (hB : RowN w A2 L) :
    Calls Tryd.prog 33 #[.slice A n.length cap, .slice A2 L.length cap2] w fun e w' => ∃ C c, e = .returned (.slice C (n ++ L.flatten).length c) ∧ NdsL w' C (n ++ L.flatten) ∧ Below w.heap.size w w' := by
  have HB := Lib.hid hB
  obtain ⟨i0_, hi0, hz0, hz1, hz2⟩ := info_parts inf61
  have HI0 := Lib.hid hi0
  have HZ0 := Lib.hid hz0
  have HZ1 := Lib.hid hz1
  have HZ2 := Lib.hid hz2
  obtain ⟨b, off, rfl, hc⟩ := hA hn
  have HC := Lib.hid hc
  obtain ⟨k0, hk0⟩ : ∃ k0, k0 = n.length := ⟨_, rfl⟩
  obtain ⟨M, hM⟩ : ∃ M, M = L.length := ⟨_, rfl⟩
  rw [← hk0] at hn ht ⊢
  rw [← hM] at hL ⊢
  have HK0 := Lib.hid hk0
  have HM := Lib.hid hM
  have HT := Lib.hid ht
  clear hA hB hi0 hz0 hz1 hz2 hc hk0 hM ht
  have HLn : Hid ((ndC n).length = k0 * 6) := Lib.hid (by rw [ndC_len, HK0.out])
  have HE : Hid ((w.alloc (.cells #[] 61)).ownsRow w.heap.size 61 6 (.slice (some ⟨w.heap.size, 0, none⟩) 0 0) 0 []) := Lib.hid (World.ownsRow_made w #[] 0 (Nat.le_refl _) (by decide) rfl)
  have hba : Below w.heap.size w (w.alloc (.cells #[] 61)) := (Below.refl _ w).alloc (Nat.le_refl _) _
  have HNw : Hid (∀ j u, (ndC n)[j]? = some u → (w.alloc (.cells #[] 61)).cell? ((⟨b, off, none⟩ : Addr).add j) = some u) := Lib.hid (nds_cells fun i m hi => (HC.out i m hi).below hba (HC.out i m hi).lt)
  have HBa := Lib.hid hba
  have hk1 : k0 ≤ 1000 := by have := HT.out; omega
  clear hba
  go_enter Tryd.func33, Tryd.ntmps33
  go_wp2_with (at_builtin; refine wpList_append_lies _ rfl _ _ 22 rfl w.heap.size 61 i0_ _ 6 48 Tryd.underlying22 HI0.out HZ0.out HZ1.out HZ2.out rfl (by decide) (.slice (some ⟨w.heap.size, 0, none⟩) 0 0) 0 [] rfl HE.out ⟨b, off, none⟩ k0 cap (ndC n) rfl HLn.out HNw.out (one_ndC n) hn (by unfold maxLen; omega) (by omega) (by rw [World.size_alloc]; omega) _ rfl ?_; intro gg cap1 w8 hown8 hgrow hat hlt8)
  have HB8 : Hid (Below w.heap.size w w8) := Lib.hid (HBa.out.grown hgrow HBa.out.size (fun j e => (HE.out.lt j e).1))
  rw [Nat.zero_add, List.nil_append] at hown8
  have HO8 := Lib.hid hown8
  clear hown8 hgrow hat hlt8
  go_loopw [5, 6] (fun ov kv wr => ∃ k N : Nat, kv = iv k ∧ k ≤ M ∧ Hid (N = (n ++ (L.take k).flatten).length) ∧ Hid (wr.ownsRow w.heap.size 61 6 ov N (ndC (n ++ (L.take k).flatten))) ∧ Hid (Below w.heap.size w wr)) (fun _ kv _ => M - (intOf kv).toNat)
  case atStart => exact ⟨0, k0, rfl, Nat.zero_le _, Lib.hid (by simp [HK0.out]), Lib.hid (by simpa using HO8.out), HB8⟩
  case round =>
    obtain ⟨k, N, rfl, hkM, HN, HO, HBr⟩ := hrel
    have i0 : (0 : Int) ≤ (k : Int) := Int.natCast_nonneg _
    obtain ⟨Ao, co, hov⟩ := own_form HO.out
    subst hov
    by_cases hlt : k < M
    · have i1 : (k : Int) < (M : Int) := by omega
      obtain ⟨r, hr, hd⟩ := drop_at (L := L) (k := k) (by rw [← HM.out]; exact hlt)
      have hBw := HB.out.below HBr.out
      obtain ⟨b2, off2, C, c, rfl, hr0, c0, hnd⟩ := hBw.at hr
      have l0 : b2 < wr.heap.size := World.block_lt_of_cell? wr _ c0
      obtain ⟨b3, off3, rfl, hc3⟩ := hnd hr0
      have hfl := flat_take hr
      have hle := flat_take_le L (k + 1)
      rw [hfl, List.length_append] at hle
      have hN1 : N + r.length ≤ 1000 := by have h1 := HN.out; have h2 := HT.out; have h3 := HK0.out; rw [List.length_append] at h1; omega
      have HF : Hid (n ++ (L.take (k + 1)).flatten = n ++ (L.take k).flatten ++ r) := Lib.hid (by rw [hfl, List.append_assoc])
      obtain ⟨R, hR⟩ : ∃ R, R = r.length := ⟨_, rfl⟩
      rw [← hR] at hr0 c0 hN1
      have HR := Lib.hid hR
      have HLr : Hid ((ndC r).length = R * 6) := Lib.hid (by rw [ndC_len, hR])
      have HNr : Hid (∀ j u, (ndC r)[j]? = some u → wr.cell? ((⟨b3, off3, none⟩ : Addr).add j) = some u) := Lib.hid (nds_cells hc3)
      have hsz := HBr.out.size
      clear hr hd hBw hnd hc3 hfl hle hR
      go_wp2_with (at_builtin; refine wpList_append_lies _ rfl _ _ 22 rfl w.heap.size 61 i0_ _ 6 48 Tryd.underlying22 HI0.out HZ0.out HZ1.out HZ2.out rfl (by decide) (.slice Ao N co) N (ndC (n ++ (L.take k).flatten)) rfl HO.out ⟨b3, off3, none⟩ R c (ndC r) rfl HLr.out HNr.out (one_ndC r) hr0 (by unfold maxLen; omega) (by omega) hsz _ rfl ?_; intro gg cap1 w9 hown9 hgrow hat hlt9)
      have HB9 : Hid (Below w.heap.size w w9) := Lib.hid (HBr.out.grown hgrow hsz (fun j e => (HO.out.lt j e).1))
      refine ⟨⟨k + 1, N + R, by go_num, by omega, Lib.hid (by rw [HF.out, List.length_append, ← HN.out, ← HR.out]), Lib.hid (by rw [HF.out, ndC_app]; exact hown9), HB9⟩, by simp [intOf]; omega⟩
    · obtain rfl : k = M := by omega
      have i1 : ¬ (k : Int) < (k : Int) := by omega
      have HT2 : Hid (L.take k = L) := Lib.hid (List.take_of_length_le (by rw [← HM.out]; exact Nat.le_refl _))
      go_wp2
      go_ret
      have h1 := HO.out
      have h2 := HN.out
      rw [HT2.out] at h1 h2
      subst h2
      refine ⟨Ao, ⟨co, ?_⟩, nds_own h1, HBr.out⟩
      show Ending.returned (Value.slice Ao (n ++ L.flatten).length co) = _
      simp
/-- The same, numbers and outcome by their own names. -/
theorem join_to {A : Option Addr} {cap k0 : Nat} {n : List Nd} {A2 : Option Addr} {cap2 M : Nat} {L : List (List Nd)} {R : List Nd} {w : World} (hk : k0 = n.length) (hM : M = L.length) (hR : R = n ++ L.flatten) (hn : 0 < n.length) (ht : R.length ≤ 1000) (hL : L.length ≤ 1000) (hA : NdsL w A n) (hB : RowN w A2 L) :
    Calls Tryd.prog 33 #[.slice A k0 cap, .slice A2 M cap2] w fun e w' => ∃ (C : Option Addr) (c N : Nat), e = .returned (.slice C N c) ∧ N = R.length ∧ NdsL w' C R ∧ Below w.heap.size w w' := by
  subst hk hM
  refine (join_any A cap n A2 cap2 L w hn (by rw [hR, List.length_append] at ht; exact ht) hL hA hB).mono fun e w' ⟨C, c, h1, h2, h3⟩ => ?_
  rw [← hR] at h1 h2
  exact ⟨C, c, _, h1, rfl, h2, h3⟩
theorem nds_box {w : World} {g : Nat} {n : Nd} (h : BoxAt w g 61 #[iv n.op, iv n.l, iv n.r, iv n.k, iv n.lo, iv n.hi]) : NdsL w (some ⟨g, 0, none⟩) [n] := fun _ => ⟨g, 0, rfl, fun i m hi => by
  have hl := (List.getElem?_eq_some_iff.1 hi).1
  simp only [List.length_cons, List.length_nil] at hl
  obtain rfl : i = 0 := by omega
  obtain rfl : n = m := by simpa using hi
  exact ⟨h.cell 0, h.cell 1, h.cell 2, h.cell 3, h.cell 4, h.cell 5⟩⟩
/-- Slices of nodes in a block. -/
theorem row_box {w : World} {g : Nat} {cs : Array Value} (vs : List (Option Addr × Nat × List Nd)) (h : BoxAt w g 22 cs) (hc : ∀ (i : Nat) (v : Option Addr × Nat × List Nd), vs[i]? = some v → cs[i]? = some (Value.slice v.1 v.2.2.length v.2.1)) (hv : ∀ v ∈ vs, 0 < v.2.2.length ∧ NdsL w v.1 v.2.2) : RowN w (some ⟨g, 0, none⟩) (vs.map (·.2.2)) := fun _ => ⟨g, 0, rfl, fun i r hi => by
  rw [List.getElem?_map] at hi
  obtain ⟨v, hv1, rfl⟩ := Option.map_eq_some_iff.1 hi
  obtain ⟨h0, h1⟩ := hv v (List.mem_of_getElem? hv1)
  refine ⟨h0, v.1, v.2.1, ?_, h1⟩
  rw [Nat.zero_add, h.cell i, hc i v hv1]⟩
theorem row_boxm {w : World} {g : Nat} (vs : List (Option Addr × Nat × List Nd)) (h : BoxAt w g 22 (vs.map fun v => Value.slice v.1 v.2.2.length v.2.1).toArray) (hv : ∀ v ∈ vs, 0 < v.2.2.length ∧ NdsL w v.1 v.2.2) : RowN w (some ⟨g, 0, none⟩) (vs.map (·.2.2)) :=
  row_box vs h (fun i v hi => by simp [hi]) hv
theorem nds_box2 {w : World} {g : Nat} {n m : Nd} (h : BoxAt w g 61 #[iv n.op, iv n.l, iv n.r, iv n.k, iv n.lo, iv n.hi, iv m.op, iv m.l, iv m.r, iv m.k, iv m.lo, iv m.hi]) : NdsL w (some ⟨g, 0, none⟩) [n, m] := fun _ => ⟨g, 0, rfl, fun i x hi => by
  match i, hi with
  | 0, hi => obtain rfl : n = x := by simpa using hi
             exact ⟨h.cell 0, h.cell 1, h.cell 2, h.cell 3, h.cell 4, h.cell 5⟩
  | 1, hi => obtain rfl : m = x := by simpa using hi
             exact ⟨h.cell 6, h.cell 7, h.cell 8, h.cell 9, h.cell 10, h.cell 11⟩
  | i + 2, hi => simp at hi⟩
theorem Below.al {w w' : World} (h : Below w.heap.size w w') (o : Obj) : Below w.heap.size w (w'.alloc o) := h.alloc h.size o
theorem box_new (w : World) (t : TypeId) (cs : Array Value) {g : Nat} (hg : g = w.heap.size) : BoxAt (w.alloc (.cells cs t)) g t cs := by subst hg; exact BoxAt.new w t cs
end Go.Proofs.YtnpnfdnaglcnfaaDoor
