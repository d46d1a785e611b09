/- The chapter's examples that every statement asks. -/
import Derived.Test.YtnpnfdnaglcnfaaDoorPrs
import Derived.Test.YtnpnfdnaglcnfaaDoorRows6
namespace Go.Proofs.YtnpnfdnaglcnfaaDoor
open Go.RowKit Go.Shelf

set_option maxRecDepth 100000 in
set_option maxHeartbeats 4000000 in
theorem says_ok (s : ByteArray) (N : Nat) (q : Nat → Nat) (op : Nat → Nat) (x : Nat → Nat → Int) (ht : Txt s N q op x) (hc : chkE (ndsT op x N) 12 = 0) (want : Int) (y z : Int) (hr : evR (ndsT op x N) 1 [[y], [z]] 0 = .tuple #[iv want, iv 0])
    (B : Nat) (w : World) (hE : Env w) (hB : BoxAt w B 2 #[iv y, iv z]) :
    Calls Tryd.prog 38 #[.string s, iv want, .slice (some ⟨B, 0, none⟩) 2 2] w fun e w' => e = .returned (.bool true) ∧ Below w.heap.size w w' := by
  have HO := Lib.hid (of_ok s N q op x ht hc w hE)
  have HR : Hid (∀ W, Below w.heap.size w W → Calls Tryd.prog 68 #[.slice (some ⟨B, 0, none⟩) 2 2] W fun e w' => ∃ C c, e = .returned (.slice C 2 c) ∧ RowsL w' C [[y], [z]] ∧ Below W.heap.size W w') := Lib.hid (fun W hW =>
    rows_any (some ⟨B, 0, none⟩) 2 [y, z] W (by simp) (fun _ => ⟨B, 0, rfl, fun i v hi => by
      have hb := hB.below hW hB.lt
      have hl := (List.getElem?_eq_some_iff.1 hi).1
      simp only [List.length_cons, List.length_nil] at hl
      rw [Nat.zero_add, hb.cell i]
      rcases (show i = 0 ∨ i = 1 by omega) with rfl | rfl
      · obtain rfl : y = v := by simpa using hi
        rfl
      · obtain rfl : z = v := by simpa using hi
        rfl⟩))
  have HV : Hid (∀ A c C d W, NdsL W A (ndsT op x N) → RowsL W C [[y], [z]] → Calls Tryd.prog 29 #[.slice A N c, iv 1, .slice C 2 d, iv 0] W fun e w' => e = .returned (.tuple #[iv want, iv 0]) ∧ Below W.heap.size W w') := Lib.hid (fun A c C d W h1 h2 => by
    have h3 := eval_any A c (ndsT op x N) 1 C d [[y], [z]] 0 W (by decide) (fun r hr => by
      simp only [List.mem_cons, List.not_mem_nil, or_false] at hr
      rcases hr with rfl | rfl <;> simp) h1 h2
    rw [hr, ndsT_len] at h3
    exact h3)
  clear ht hc hr hE hB
  go_enter Tryd.func38, Tryd.ntmps38
  go_wp2_with (first
    | (go_at_call 39; (with_reducible refine HO.out.mono ?_); rintro e w1 ⟨A, c, rfl, hA, hb1⟩)
    | (go_at_call 68; (with_reducible refine (HR.out _ hb1).mono ?_); rintro e w2 ⟨C, d, rfl, hC, hb2⟩)
    | (go_at_call 29; (with_reducible refine (HV.out A c C d _ (hA.below hb2) hC).mono ?_); rintro e w3 ⟨rfl, hb3⟩))
  go_ret
  exact ⟨by simp, below_step (below_step hb1 hb2) hb3⟩
set_option maxRecDepth 100000 in
set_option maxHeartbeats 4000000 in
theorem awake_any (w : World) (hE : Env w) : Calls Tryd.prog 11 #[] w fun e w' => e = .returned (.bool true) ∧ Below w.heap.size w w' := by
  have HE := Lib.hid (fun W (h : Below w.heap.size w W) => hE.below h)
  have H1 : Hid (∀ B W, Env W → BoxAt W B 2 #[iv 3, iv 4] → Calls Tryd.prog 38 #[.string tA, iv 2, .slice (some ⟨B, 0, none⟩) 2 2] W fun e w' => e = .returned (.bool true) ∧ Below W.heap.size W w') := Lib.hid (fun B W h1 h2 => says_ok tA 2 qA oA xA txA chA 2 3 4 evA1 B W h1 h2)
  have H2 : Hid (∀ B W, Env W → BoxAt W B 2 #[iv 3, iv 9] → Calls Tryd.prog 38 #[.string tA, iv 0, .slice (some ⟨B, 0, none⟩) 2 2] W fun e w' => e = .returned (.bool true) ∧ Below W.heap.size W w') := Lib.hid (fun B W h1 h2 => says_ok tA 2 qA oA xA txA chA 0 3 9 evA2 B W h1 h2)
  have H3 : Hid (∀ W, Env W → Calls Tryd.prog 39 #[.string tU] W fun e w' => ∃ A c, e = .returned (.slice A 3 c) ∧ NdsL w' A (ndsT oU xU 3) ∧ Below W.heap.size W w') := Lib.hid (fun W h => of_ok tU 3 qU oU xU txU chU W h)
  have H4 : Hid (∀ A c W, NdsL W A (ndsT oU xU 3) → Calls Tryd.prog 16 #[.slice A 3 c] W fun e w' => e = .returned (iv 4) ∧ Below W.heap.size W w') := Lib.hid (fun A c W h => by
    have h2 := hrz_any A c (ndsT oU xU 3) W h
    rw [hrU] at h2
    exact h2)
  unfold tA at H1 H2
  unfold tU at H3
  have hb0 : Below w.heap.size w (w.alloc (.cells #[iv 3, iv 4] 2)) := (Below.refl _ w).alloc (Nat.le_refl _) _
  have hx0 := BoxAt.new w 2 #[iv 3, iv 4]
  clear hE
  go_enter Tryd.func11, Tryd.ntmps11
  go_wp2_with (first
    | (go_at_call 38; (with_reducible refine (H1.out _ _ (HE.out _ hb0) hx0).mono ?_); rintro e w1 ⟨rfl, hb1⟩; have hb1' := below_step hb0 hb1; have hb2 := hb1'.alloc hb1'.size (.cells #[iv 3, iv 9] 2); have hx1 := BoxAt.new w1 2 #[iv 3, iv 9])
    | (go_at_call 38; (with_reducible refine (H2.out _ _ (HE.out _ hb2) hx1).mono ?_); rintro e w2 ⟨rfl, hb3⟩; have hb3' := below_step hb2 hb3)
    | (go_at_call 39; (with_reducible refine (H3.out _ (HE.out _ hb3')).mono ?_); rintro e w3 ⟨A, c, rfl, hA, hb4⟩; have hb4' := below_step hb3' hb4)
    | (go_at_call 16; (with_reducible refine (H4.out A c _ hA).mono ?_); rintro e w4 ⟨rfl, hb5⟩; have hb5' := below_step hb4' hb5))
  go_ret
  exact ⟨rfl, hb5'⟩
end Go.Proofs.YtnpnfdnaglcnfaaDoor
