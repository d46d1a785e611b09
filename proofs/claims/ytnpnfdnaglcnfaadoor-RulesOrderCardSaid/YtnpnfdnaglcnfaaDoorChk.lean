/- The program's horizon, Check, Horizon. -/
import Derived.Test.YtnpnfdnaglcnfaaDoorFldI
namespace Go.Proofs.YtnpnfdnaglcnfaaDoor
open Go.RowKit Go.Shelf

theorem shpE_one {L : List Nd} {x : Int} (h : shpE L x = 0) : one 1 L = 0 ∧ ∀ n ∈ L, ndE x n = 0 := by
  unfold shpE at h
  split at h
  · omega
  split at h
  · omega
  split at h
  · rename_i h1; exact absurd h h1
  · rename_i h1
    exact ⟨h, feL_zero (Classical.not_not.1 h1)⟩
set_option maxRecDepth 100000 in
set_option maxHeartbeats 4000000 in
theorem horizon_any (A : Option Addr) (cap : Nat) (L : List Nd) (x : Int) (w : World) (hA : NdsL w A L) (h : shpE L x = 0) :
    Calls Tryd.prog 41 #[.slice A L.length cap] w fun e w' => e = .returned (iv (horL L)) ∧ Below w.heap.size w w' := by
  obtain ⟨h1, hn⟩ := shpE_one h
  have hle := shpE_le h
  have HF := Lib.hid (callsIn_wide.1 (foldI_in (V := Int) hv 0 (fun _ v y => v = iv y) 3 (Nat.le_refl _) A cap L w h1 (by omega) hA (fun _ => rfl) (fun _ _ y h => ⟨y, h⟩) (fun _ _ _ _ h _ => h)
    (fun k n va vb W hd _ _ hva hvb => by
      have hmem : n ∈ L := List.mem_of_mem_drop (i := k) (by rw [hd]; simp)
      have hhi := ok_hi (hn n hmem)
      have hlen : (L.drop (k + 1)).length ≤ 40 := by rw [List.length_drop]; omega
      have hsub : ∀ n ∈ L.drop (k + 1), ndE x n = 0 := fun n hn' => hn n (List.mem_of_mem_drop hn')
      have hbd : ∀ i b, 0 ≤ (if b ≤ prt n.op then (stk hv 0 (L.drop (k + 1))).getD i 0 else 0) ∧ (if b ≤ prt n.op then (stk hv 0 (L.drop (k + 1))).getD i 0 else 0) ≤ 1000000 := fun i b => by
        split
        · rw [List.getD_eq_getElem?_getD]
          cases he : (stk hv 0 (L.drop (k + 1)))[i]? with
          | none => exact ⟨Int.le_refl 0, by decide⟩
          | some y =>
            have := stk_bound hsub y (List.mem_of_getElem? he)
            simp only [Option.getD_some]
            omega
        · omega
      subst hva
      subst hvb
      exact (hv_any n _ _ W (by omega) hhi.2.2 (hbd 0 1) (hbd 1 2)).mono fun e w' hh => ⟨_, hh.1, rfl, rfl, hh.2⟩)))
  clear hA h h1 hn hle
  obtain ⟨N, hN⟩ : ∃ N, N = L.length := ⟨_, rfl⟩
  rw [← hN] at HF ⊢
  clear hN
  go_enter Tryd.func41, Tryd.ntmps41
  go_wp2_with (go_at_call 71; (with_reducible refine HF.out.mono ?_); rintro e w1 ⟨v, rfl, rfl, hb1⟩)
  go_ret
  exact ⟨by unfold horL; simp, hb1⟩
set_option maxRecDepth 100000 in
set_option maxHeartbeats 4000000 in
theorem check_any (A : Option Addr) (cap : Nat) (L : List Nd) (x : Int) (w : World) (hA : NdsL w A L) :
    Calls Tryd.prog 14 #[.slice A L.length cap, iv x] w fun e w' => e = .returned (iv (chkE L x)) ∧ Below w.heap.size w w' := by
  have HFo := Lib.hid (form_any A cap L x w hA)
  have HH : Hid (∀ W, Below w.heap.size w W → shpE L x = 0 → Calls Tryd.prog 41 #[.slice A L.length cap] W fun e w' => e = .returned (iv (horL L)) ∧ Below W.heap.size W w') := Lib.hid (fun W hW h => horizon_any A cap L x W (hA.below hW) h)
  have HC : Hid (chkE L x = if shpE L x ≠ 0 then shpE L x else if 60 < horL L then 8 else 0) := Lib.hid rfl
  generalize chkE L x = r at *
  generalize shpE L x = s at *
  generalize horL L = h at *
  obtain ⟨N, hN⟩ : ∃ N, N = L.length := ⟨_, rfl⟩
  rw [← hN] at HFo HH ⊢
  clear hN
  clear hA
  by_cases hs : s = 0
  · subst hs
    have HH2 := Lib.hid (fun W hW => HH.out W hW rfl)
    clear HH
    have HR : Hid (r = if 60 < h then 8 else 0) := Lib.hid HC.out
    by_cases hh : 60 < h
    · have HR2 : Hid (r = 8) := Lib.hid (by rw [HR.out, if_pos hh])
      go_enter Tryd.func14, Tryd.ntmps14
      go_wp2_with (first
        | (go_at_call 40; (with_reducible refine HFo.out.mono ?_); rintro e w1 ⟨rfl, hb1⟩)
        | (go_at_call 41; (with_reducible refine (HH2.out _ hb1).mono ?_); rintro e w2 ⟨rfl, hb2⟩))
      go_ret
      exact ⟨by rw [HR2.out]; rfl, below_step hb1 hb2⟩
    · have HR2 : Hid (r = 0) := Lib.hid (by rw [HR.out, if_neg hh])
      go_enter Tryd.func14, Tryd.ntmps14
      go_wp2_with (first
        | (go_at_call 40; (with_reducible refine HFo.out.mono ?_); rintro e w1 ⟨rfl, hb1⟩)
        | (go_at_call 41; (with_reducible refine (HH2.out _ hb1).mono ?_); rintro e w2 ⟨rfl, hb2⟩))
      go_ret
      exact ⟨by rw [HR2.out]; rfl, below_step hb1 hb2⟩
  · have HR : Hid (r = s) := Lib.hid (by rw [HC.out, if_pos hs])
    go_enter Tryd.func14, Tryd.ntmps14
    go_wp2_with (go_at_call 40; (with_reducible refine HFo.out.mono ?_); rintro e w1 ⟨rfl, hb1⟩)
    go_ret
    exact ⟨by rw [HR.out]; rfl, hb1⟩
set_option maxRecDepth 100000 in
set_option maxHeartbeats 4000000 in
theorem hrz_any (A : Option Addr) (cap : Nat) (L : List Nd) (w : World) (hA : NdsL w A L) :
    Calls Tryd.prog 16 #[.slice A L.length cap] w fun e w' => e = .returned (iv (hrzF L)) ∧ Below w.heap.size w w' := by
  have HFo := Lib.hid (form_any A cap L 12 w hA)
  have HH : Hid (∀ W, Below w.heap.size w W → shpE L 12 = 0 → Calls Tryd.prog 41 #[.slice A L.length cap] W fun e w' => e = .returned (iv (horL L)) ∧ Below W.heap.size W w') := Lib.hid (fun W hW h => horizon_any A cap L 12 W (hA.below hW) h)
  have HC : Hid (hrzF L = if shpE L 12 = 0 then horL L else 0) := Lib.hid rfl
  generalize hrzF L = r at *
  generalize shpE L 12 = s at *
  generalize horL L = h at *
  obtain ⟨N, hN⟩ : ∃ N, N = L.length := ⟨_, rfl⟩
  rw [← hN] at HFo HH ⊢
  clear hN
  clear hA
  by_cases hs : s = 0
  · subst hs
    have HH2 := Lib.hid (fun W hW => HH.out W hW rfl)
    clear HH
    have HR : Hid (r = h) := Lib.hid HC.out
    go_enter Tryd.func16, Tryd.ntmps16
    go_wp2_with (first
      | (go_at_call 40; (with_reducible refine HFo.out.mono ?_); rintro e w1 ⟨rfl, hb1⟩)
      | (go_at_call 41; (with_reducible refine (HH2.out _ hb1).mono ?_); rintro e w2 ⟨rfl, hb2⟩))
    go_ret
    exact ⟨by rw [HR.out]; rfl, below_step hb1 hb2⟩
  · have HR : Hid (r = 0) := Lib.hid (by rw [HC.out, if_neg hs])
    go_enter Tryd.func16, Tryd.ntmps16
    go_wp2_with (go_at_call 40; (with_reducible refine HFo.out.mono ?_); rintro e w1 ⟨rfl, hb1⟩)
    go_ret
    exact ⟨by rw [HR.out]; rfl, hb1⟩
end Go.Proofs.YtnpnfdnaglcnfaaDoor
