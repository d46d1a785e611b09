/- slices.Grow and slices.Concat at spots, and the program's 'extended'. -/
import Derived.Test.YtglkpabcflecmaaRowX
import Derived.Lib.AppendZeros
namespace Go.Proofs.Ytglkpabcflecmaa
open Go.RowKit Go.Shelf

set_option maxRecDepth 100000 in
set_option maxHeartbeats 2000000 in
theorem grow_any (n : Nat) (h0 : 0 < n) (hn : n ≤ 1000) (w : World) :
    Calls Try.prog 101 #[.slice none 0 0, .int .i64 (n : Int)] w fun e w' => ∃ cap, e = .returned (.slice (some ⟨w.heap.size, 0, none⟩) 0 cap) ∧ w'.ownsRow w.heap.size 43 2 (.slice (some ⟨w.heap.size, 0, none⟩) 0 cap) 0 [] ∧ Below w.heap.size w w' := by
  obtain ⟨i0, hi0, hz0, hz1, hz2⟩ := info_parts Try.info43
  obtain ⟨G, hG⟩ : ∃ G, G = grownCap w n 0 43 := ⟨_, rfl⟩
  have hG1 : n ≤ G := by rw [hG]; exact grownCap_ge w _ _ _
  have hG2 : G ≤ maxLen := by rw [hG]; exact grownCap_le_maxLen w _ _ _ (by unfold maxLen; omega)
  have hrz : ∀ ty, _ := fun ty => Lib.run_append_nil_zeros (P := Try.prog) w 22 3 ty 43 i0 (.agg #[.int .i64 0, .int .i64 0]) .i64 .i64 Try.underlying22 Try.underlying3 hi0 hz0 n h0 (by omega) (by omega) (by rw [hz2]; omega)
  rw [← hG] at hrz
  obtain ⟨cs, hcs⟩ : ∃ cs, cs = Builtin.zeroCells (Value.agg #[.int .i64 0, .int .i64 0]).cells n ++ Builtin.zeroCells (Value.agg #[.int .i64 0, .int .i64 0]).cells (G - n) := ⟨_, rfl⟩
  have hsz : cs.size = G * 2 := by
    rw [hcs, Array.size_append, size_zeroCells, size_zeroCells]
    have : (Value.agg #[.int .i64 0, .int .i64 0]).cells.size = 2 := rfl
    rw [this]; omega
  rw [← hcs] at hrz
  have HR := Lib.hid hrz
  have hn1 : ¬ ((n : Int) < 0) := by omega
  have hn2 : (0 : Int) < (n : Int) := by omega
  have hw1 : IntKind.i64.wrap (n : Int) = n := IntWalk.i64_in _ (by omega)
  have hG3 : G ≤ 9223372036854775807 := by unfold maxLen at hG2; omega
  clear hrz hG hcs hi0 hz0 hz1 hz2
  go_enter Try.func101, Try.ntmps101
  go_wp2_with (at_builtin; refine Lib.wpList_append_run _ rfl _ _ _ _ rfl _ _ rfl rfl _ _ (HR.out _) ?_)
  all_goals go_ret
  all_goals exact ⟨G, rfl, ⟨rfl, .inr ⟨w.heap.size, G, cs, rfl, Nat.le_refl _, heap_alloc_new _ _, Nat.zero_le _, hG2, hsz, by simp⟩⟩, (Below.refl _ w).drew.alloc (Nat.le_refl _) _⟩

theorem cellsL_one (X Y : Nat → Int) (n : Nat) : ∀ u ∈ cellsL X Y n, u.oneCell' = true := by
  induction n with
  | zero => intro u hu; cases hu
  | succ n ih =>
    intro u hu
    rcases List.mem_append.1 hu with h | h
    · exact ih u h
    · simp at h; rcases h with rfl | rfl <;> rfl
theorem pts_news {W : World} {b off n : Nat} {X Y : Nat → Int} (hp : Pts W b off n X Y) : ∀ j u, (cellsL X Y n)[j]? = some u → W.cell? ((⟨b, off, none⟩ : Addr).add j) = some u := fun j u hu => by
  have hadd : (⟨b, off, none⟩ : Addr).add j = ⟨b, off + j, none⟩ := by unfold Addr.add; split <;> simp_all
  rw [hadd]
  have hl : j < n * 2 := by
    have := (List.getElem?_eq_some_iff.1 hu).1
    rwa [cellsL_length] at this
  obtain ⟨h1, h2⟩ := hp (j / 2) (by omega)
  obtain ⟨g1, g2⟩ := cellsL_get X Y (k := n) (i := j / 2) (by omega)
  rcases Nat.mod_two_eq_zero_or_one j with h | h
  · have e : j / 2 * 2 = j := by omega
    rw [e] at h1 g1
    rw [g1] at hu; rw [h1]; exact hu
  · have e : j / 2 * 2 + 1 = j := by omega
    rw [Nat.add_assoc, e] at h2
    rw [e] at g2
    rw [g2] at hu; rw [h2]; exact hu

def catF (n : Nat) (X1 X2 : Nat → Int) (i : Nat) : Int := if i < n then X1 i else X2 (i - n)
theorem cellsL_cat (n1 n2 : Nat) (X1 Y1 X2 Y2 : Nat → Int) : cellsL X1 Y1 n1 ++ cellsL X2 Y2 n2 = cellsL (catF n1 X1 X2) (catF n1 Y1 Y2) (n1 + n2) := by
  induction n2 with
  | zero =>
    have : ∀ k, k ≤ n1 → cellsL X1 Y1 k = cellsL (catF n1 X1 X2) (catF n1 Y1 Y2) k := fun k hk => by
      induction k with
      | zero => rfl
      | succ k ih =>
        show cellsL X1 Y1 k ++ _ = cellsL _ _ k ++ _
        rw [ih (by omega)]
        unfold catF
        rw [if_pos (by omega), if_pos (by omega)]
    rw [Nat.add_zero, ← this n1 (Nat.le_refl _)]; simp [cellsL]
  | succ k ih =>
    show cellsL X1 Y1 n1 ++ (cellsL X2 Y2 k ++ _) = cellsL _ _ (n1 + k) ++ _
    rw [← List.append_assoc, ih]
    have e1 : catF n1 X1 X2 (n1 + k) = X2 k := by unfold catF; rw [if_neg (by omega), show n1 + k - n1 = k by omega]
    have e2 : catF n1 Y1 Y2 (n1 + k) = Y2 k := by unfold catF; rw [if_neg (by omega), show n1 + k - n1 = k by omega]
    show _ = _ ++ [Value.int .i64 (catF n1 X1 X2 (n1 + k)), Value.int .i64 (catF n1 Y1 Y2 (n1 + k))]
    rw [e1, e2]

set_option maxRecDepth 100000 in
set_option maxHeartbeats 4000000 in
theorem concat_two (B b1 o1 c1 n1 b2 o2 c2 n2 : Nat) (X1 Y1 X2 Y2 : Nat → Int) (w : World) (hB : BoxAt w B 22 #[.slice (some ⟨b1, o1, none⟩) n1 c1, .slice (some ⟨b2, o2, none⟩) n2 c2]) (h1 : Pts w b1 o1 n1 X1 Y1) (h2 : Pts w b2 o2 n2 X2 Y2)
    (p1 : 0 < n1) (p2 : 0 < n2) (q1 : n1 ≤ 100) (q2 : n2 ≤ 100) :
    Calls Try.prog 98 #[.slice (some ⟨B, 0, none⟩) 2 2] w fun e w' => ∃ g cap, e = .returned (.slice (some ⟨g, 0, none⟩) (n1 + n2) cap) ∧ w.heap.size ≤ g ∧ RowAt w' g (n1 + n2) (catF n1 X1 X2) (catF n1 Y1 Y2) ∧ Below w.heap.size w w' := by
  obtain ⟨i0_, hi0, hz0, hz1, hz2⟩ := info_parts Try.info43
  have hI0 := Lib.hid hi0
  have hZ0 := Lib.hid hz0
  have hZ1 := Lib.hid hz1
  have hZ2 := Lib.hid hz2
  clear hi0 hz0 hz1 hz2
  have c0 : w.cell? ⟨B, 0, none⟩ = some (.slice (some ⟨b1, o1, none⟩) n1 c1) := hB.cell 0
  have c1' : w.cell? ⟨B, 1, none⟩ = some (.slice (some ⟨b2, o2, none⟩) n2 c2) := hB.cell 1
  obtain ⟨N, hN⟩ : ∃ N, N = n1 + n2 := ⟨_, rfl⟩
  have HG := Lib.hid (fun W => grow_any N (by omega) (by omega) W)
  have HN := Lib.hid hN
  have hN1 : (N : Int) = (n1 : Int) + (n2 : Int) := by omega
  have hN2 : 0 < N := by omega
  have hN3 : N ≤ 200 := by omega
  have hw0 : IntKind.i64.wrap ((n1 : Int) + (n2 : Int)) = (N : Int) := by rw [hN1]; exact IntWalk.i64_in _ (by omega)
  rw [← hN]
  clear hN hN1
  have HP1 := Lib.hid h1
  have HP2 := Lib.hid h2
  have l1 := h1.lt p1
  have l2 := h2.lt p2
  have lB := hB.lt
  clear h1 h2
  go_enter Try.func98, Try.ntmps98
  go_wp2
  go_loopw [3, 11] (fun z i wr => ((i = .int .i64 0 ∧ z = .int .i64 0) ∨ (i = .int .i64 1 ∧ z = .int .i64 n1) ∨ (i = .int .i64 2 ∧ z = .int .i64 (N : Int))) ∧ wr = w) (fun _ i _ => 10 - (intOf i).toNat)
  case atStart => exact ⟨.inl ⟨rfl, rfl⟩, rfl⟩
  case round =>
    obtain ⟨⟨rfl, rfl⟩ | ⟨rfl, rfl⟩ | ⟨rfl, rfl⟩, rfl⟩ := hrel
    · have hw0 : IntKind.i64.wrap (0 + (n1 : Int)) = n1 := by rw [Int.zero_add]; exact IntWalk.i64_in _ (by omega)
      have hn0 : ¬ ((n1 : Int) < 0) := by omega
      go_wp2
      go_roundw
      case rel => exact ⟨.inr (.inl ⟨rfl, rfl⟩), trivial⟩
      case measure => simp [intOf]
    · have hn0 : ¬ ((N : Int) < 0) := by omega
      go_wp2
      go_roundw
      case rel => exact ⟨.inr (.inr ⟨rfl, rfl⟩), trivial⟩
      case measure => simp [intOf]
    · go_wp2_with (go_at_call 101; (with_reducible refine (HG.out _).mono ?_); rintro e w1 ⟨cap, rfl, hown, hb1⟩)
      have HO1 := Lib.hid hown
      obtain ⟨wo, rfl⟩ : ∃ z : World, z = wr := ⟨_, rfl⟩
      clear hown HG
      go_loopw [6, 27] (fun v i wr => ((i = .int .i64 0 ∧ Hid (wr.ownsRow wo.heap.size 43 2 v 0 [])) ∨ (i = .int .i64 1 ∧ Hid (wr.ownsRow wo.heap.size 43 2 v n1 (cellsL X1 Y1 n1))) ∨ (i = .int .i64 2 ∧ Hid (wr.ownsRow wo.heap.size 43 2 v N (cellsL X1 Y1 n1 ++ cellsL X2 Y2 n2)))) ∧ Below wo.heap.size wo wr) (fun _ i _ => 10 - (intOf i).toNat)
      case atStart => exact ⟨.inl ⟨rfl, HO1⟩, hb1⟩
      case round =>
        obtain ⟨⟨rfl, HO⟩ | ⟨rfl, HO⟩ | ⟨rfl, HO⟩, hBr⟩ := hrel
        · have k0 : wr.cell? ⟨B, 0, none⟩ = some (.slice (some ⟨b1, o1, none⟩) n1 c1) := (Below.cell hBr (p := ⟨B, 0, none⟩) lB).trans c0
          have HQ := Lib.hid (HP1.out.below hBr l1)
          have hsz := hBr.size
          go_wp2_with (at_builtin; refine wpList_append_lies _ rfl _ _ 22 rfl wo.heap.size 43 i0_ _ 2 16 Try.underlying22 hI0.out hZ0.out hZ1.out hZ2.out rfl (by decide) u6 0 [] rfl HO.out ⟨b1, o1, none⟩ n1 c1 (cellsL X1 Y1 n1) rfl (cellsL_length _ _ _) (pts_news HQ.out) (cellsL_one _ _ _) p1 (by unfold maxLen; omega) (by omega) hsz _ rfl ?_; intro gg cap2 w7 hown7 hgrow hat hlt7)
          have HO7 := Lib.hid hown7
          clear hown7
          go_roundw
          case rel => exact ⟨.inr (.inl ⟨rfl, by show World.ownsRow _ _ _ _ _ _ _; have := HO7.out; rw [Nat.zero_add] at this; exact this⟩), hBr.grown hgrow hsz (fun g e => (row_cells HO.out e).1)⟩
          case measure => simp [intOf]
        · have k0 : wr.cell? ⟨B, 1, none⟩ = some (.slice (some ⟨b2, o2, none⟩) n2 c2) := (Below.cell hBr (p := ⟨B, 1, none⟩) lB).trans c1'
          have HQ := Lib.hid (HP2.out.below hBr l2)
          have hsz := hBr.size
          go_wp2_with (at_builtin; refine wpList_append_lies _ rfl _ _ 22 rfl wo.heap.size 43 i0_ _ 2 16 Try.underlying22 hI0.out hZ0.out hZ1.out hZ2.out rfl (by decide) u6 n1 (cellsL X1 Y1 n1) rfl HO.out ⟨b2, o2, none⟩ n2 c2 (cellsL X2 Y2 n2) rfl (cellsL_length _ _ _) (pts_news HQ.out) (cellsL_one _ _ _) p2 (by unfold maxLen; omega) (by omega) hsz _ rfl ?_; intro gg cap2 w7 hown7 hgrow hat hlt7)
          have HO7 := Lib.hid hown7
          clear hown7
          go_roundw
          case rel => exact ⟨.inr (.inr ⟨rfl, by show World.ownsRow _ _ _ _ _ _ _; rw [HN.out]; exact HO7.out⟩), hBr.grown hgrow hsz (fun g e => (row_cells HO.out e).1)⟩
          case measure => simp [intOf]
        · obtain ⟨g, cap2, rfl, hg1, hg2⟩ := HO.out.form (by omega)
          have hP : Hid (RowAt wr g N (catF n1 X1 X2) (catF n1 Y1 Y2)) := by
            have := HO.out
            rw [cellsL_cat, ← HN.out] at this
            exact (row_at this).1
          go_wp2
          go_ret
          exact ⟨g, cap2, rfl, hg1, hP.out, hBr⟩

set_option maxRecDepth 100000 in
set_option maxHeartbeats 4000000 in
theorem ext_two (b1 o1 c1 n1 b2 o2 c2 n2 : Nat) (X1 Y1 X2 Y2 : Nat → Int) (w : World) (h1 : Pts w b1 o1 n1 X1 Y1) (h2 : Pts w b2 o2 n2 X2 Y2) (p1 : 0 < n1) (p2 : 0 < n2) (q1 : n1 ≤ 100) (q2 : n2 ≤ 100) :
    Calls Try.prog 87 #[cv b1 o1 n1 c1, .slice (some ⟨b2, o2, none⟩) n2 c2] w fun e w' => ∃ g cap, e = .returned (cv g 0 (n1 + n2) cap) ∧ w.heap.size ≤ g ∧ RowAt w' g (n1 + n2) (catF n1 X1 X2) (catF n1 Y1 Y2) ∧ Below w.heap.size w w' := by
  have hB0 : Below w.heap.size w (((w.alloc (.cells #[.slice (some ⟨b1, o1, none⟩) n1 c1] 24)).alloc (.cells #[.slice none 0 0] 24)).alloc (.cells #[.slice (some ⟨b1, o1, none⟩) n1 c1, .slice (some ⟨b2, o2, none⟩) n2 c2] 22)) := (((Below.refl _ w).alloc (Nat.le_refl _) _).alloc (by simp) _).alloc (by simp; omega) _
  have hR := (BoxAt.new (w.alloc (.cells #[.slice (some ⟨b1, o1, none⟩) n1 c1] 24)) 24 #[.slice none 0 0]).alloc (.cells #[.slice (some ⟨b1, o1, none⟩) n1 c1, .slice (some ⟨b2, o2, none⟩) n2 c2] 22)
  have hS := BoxAt.new ((w.alloc (.cells #[.slice (some ⟨b1, o1, none⟩) n1 c1] 24)).alloc (.cells #[.slice none 0 0] 24)) 22 #[.slice (some ⟨b1, o1, none⟩) n1 c1, .slice (some ⟨b2, o2, none⟩) n2 c2]
  simp only [World.size_alloc] at hR hS
  have g1 := h1.below hB0 (h1.lt p1)
  have g2 := h2.below hB0 (h2.lt p2)
  have HC := Lib.hid (concat_two (w.heap.size + 1 + 1) b1 o1 c1 n1 b2 o2 c2 n2 X1 Y1 X2 Y2 _ hS g1 g2 p1 p2 q1 q2)
  have HR := Lib.hid hR
  clear hR hS g1 g2
  obtain ⟨N, hN⟩ : ∃ N, N = n1 + n2 := ⟨_, rfl⟩
  rw [← hN] at HC ⊢
  clear hN
  go_enter Try.func87, Try.ntmps87
  go_wp2_with (go_at_call 98; (with_reducible refine HC.out.mono ?_); rintro e w1 ⟨g, cap, rfl, hg, hP, hb1⟩; have HR1 := Lib.hid (box_step HR.out hb1); have r0 : w1.cell? ⟨w.heap.size + 1, 0, none⟩ = some (.slice none 0 0) := BoxAt.cell HR1.out 0; have r1 : w1.frozen? ⟨w.heap.size + 1, 0, none⟩ = false := BoxAt.frozen HR1.out 0)
  have hz := (BoxAt.set HR1.out 0 (.slice (some ⟨g, 0, none⟩) N cap)).cell 0
  have e5 : ((#[Value.slice none 0 0] : Array Value).setIfInBounds 0 (.slice (some ⟨g, 0, none⟩) N cap)) = #[.slice (some ⟨g, 0, none⟩) N cap] := rfl
  rw [e5] at hz
  have hg2 : w.heap.size + 1 + 1 + 1 ≤ g := by simpa using hg
  have hb2 : Below (w.heap.size + 1 + 1 + 1) w1 (w1.setCell ⟨w.heap.size + 1, 0, none⟩ (.slice (some ⟨g, 0, none⟩) N cap)) ∨ True := .inr trivial
  refine bodyPost_ret (v := cv g 0 N cap) (by simp [results, Try.results87, go_sem, hz]) rfl ⟨g, cap, rfl, by omega, ?_, (below_step hB0 hb1).setCell (p := ⟨w.heap.size + 1, 0, none⟩) (by show w.heap.size ≤ w.heap.size + 1; omega) _⟩
  exact hP.other (by omega) 0 _
end Go.Proofs.Ytglkpabcflecmaa
