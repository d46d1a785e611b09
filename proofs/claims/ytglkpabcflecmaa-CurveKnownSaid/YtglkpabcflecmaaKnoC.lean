/- What the chapter's examples call, by contracts at just these arguments; for the law CurveKnown. -/
import Derived.Test.YtglkpabcflecmaaKnoM
import Derived.Test.YtglkpabcflecmaaSCrs
import Derived.Test.YtglkpabcflecmaaOfC
namespace Go.Proofs.Ytglkpabcflecmaa
open Go.RowKit Go.Shelf

theorem of_lit {b n N : Nat} {cs : Array Value} {X Y : Nat → Int} (w : World) (hb : BoxAt w b 2 cs) (cap : Nat) (hN : N = 2 * n) (h0 : 0 < n) (h1 : n ≤ 1000) (hcs : cs.toList = cellsL X Y n) :
    Calls Try.prog 55 #[.slice (some ⟨b, 0, none⟩) N cap] w (OfPostC n X Y w) := by
  refine of_anyc b n N cap X Y w (Lib.hid hN) (by omega) h0 (Lib.hid fun i hi => ?_) hb.lt
  obtain ⟨a, c⟩ := cellsL_get X Y hi
  rw [← hcs] at a c
  rw [Nat.mul_comm i 2] at a c
  exact ⟨(BoxAt.cell hb (2 * i)).trans (by simpa using a), (BoxAt.cell hb (2 * i + 1)).trans (by simpa using c)⟩
theorem of_k1 (W : World) (b cap : Nat) (hb : BoxAt W b 2 #[.int .i64 0, .int .i64 0]) : Calls Try.prog 55 #[.slice (some ⟨b, 0, none⟩) 2 cap] W (OfPostC 1 k1.X k1.Y W) := of_lit W hb cap rfl (by decide) (by decide) rfl
theorem of_k2 (W : World) (b cap : Nat) (hb : BoxAt W b 2 #[.int .i64 0, .int .i64 0, .int .i64 300, .int .i64 400]) : Calls Try.prog 55 #[.slice (some ⟨b, 0, none⟩) 4 cap] W (OfPostC 2 k2.X k2.Y W) := of_lit W hb cap rfl (by decide) (by decide) rfl
theorem of_k3 (W : World) (b cap : Nat) (hb : BoxAt W b 2 #[.int .i64 0, .int .i64 0, .int .i64 3000, .int .i64 0, .int .i64 3000, .int .i64 2000]) : Calls Try.prog 55 #[.slice (some ⟨b, 0, none⟩) 6 cap] W (OfPostC 3 k3.X k3.Y W) := of_lit W hb cap rfl (by decide) (by decide) rfl
theorem of_kA (W : World) (b cap : Nat) (hb : BoxAt W b 2 #[.int .i64 0, .int .i64 0, .int .i64 10000, .int .i64 0]) : Calls Try.prog 55 #[.slice (some ⟨b, 0, none⟩) 4 cap] W (OfPostC 2 kA.X kA.Y W) := of_lit W hb cap rfl (by decide) (by decide) rfl
theorem of_kB (W : World) (b cap : Nat) (hb : BoxAt W b 2 #[.int .i64 5000, .int .i64 (-5000), .int .i64 5000, .int .i64 5000]) : Calls Try.prog 55 #[.slice (some ⟨b, 0, none⟩) 4 cap] W (OfPostC 2 kB.X kB.Y W) := of_lit W hb cap rfl (by decide) (by decide) rfl
theorem of_kD (W : World) (b cap : Nat) (hb : BoxAt W b 2 #[.int .i64 0, .int .i64 1500, .int .i64 10000, .int .i64 1500]) : Calls Try.prog 55 #[.slice (some ⟨b, 0, none⟩) 4 cap] W (OfPostC 2 kD.X kD.Y W) := of_lit W hb cap rfl (by decide) (by decide) rfl
theorem of_kE (W : World) (b cap : Nat) (hb : BoxAt W b 2 #[.int .i64 10000, .int .i64 0, .int .i64 13000, .int .i64 4000]) : Calls Try.prog 55 #[.slice (some ⟨b, 0, none⟩) 4 cap] W (OfPostC 2 kE.X kE.Y W) := of_lit W hb cap rfl (by decide) (by decide) rfl
theorem of_kC (W : World) (b cap : Nat) (hb : BoxAt W b 2 #[.int .i64 0, .int .i64 0, .int .i64 10000, .int .i64 0, .int .i64 13000, .int .i64 4000]) : Calls Try.prog 55 #[.slice (some ⟨b, 0, none⟩) 6 cap] W (OfPostC 3 kC.X kC.Y W) := of_lit W hb cap rfl (by decide) (by decide) rfl
theorem spots_of {W : World} {g n : Nat} {X Y : Nat → Int} (hp : Pts W g 0 n X Y) : Spots W (some ⟨g, 0, none⟩) n X Y := fun _ => ⟨g, 0, rfl, hp⟩
theorem chk_lit {c : Crv} {n : Nat} {k : Int} (hn : c.n = n) (h : chkF c = k) (g cap : Nat) (W : World) (hp : Pts W g 0 n c.X c.Y) : Calls Try.prog 20 #[cv g 0 n cap] W fun e w' => e = .returned (.int .i64 k) ∧ Below W.heap.size W w' := by
  subst hn
  have := check_any (some ⟨g, 0, none⟩) cap c W (spots_of hp)
  rwa [h] at this
theorem chk_B (g cap : Nat) (W : World) (hp : Pts W g 0 3 BX BY) : Calls Try.prog 20 #[cv g 0 3 cap] W fun e w' => e = .returned (.int .i64 0) ∧ Below W.heap.size W w' := chk_lit (c := crvB) rfl B_chk g cap W hp
theorem chk_k1 (g cap : Nat) (W : World) (hp : Pts W g 0 1 k1.X k1.Y) : Calls Try.prog 20 #[cv g 0 1 cap] W fun e w' => e = .returned (.int .i64 6) ∧ Below W.heap.size W w' := chk_lit rfl k1_chk g cap W hp
theorem chk_k2 (g cap : Nat) (W : World) (hp : Pts W g 0 2 k2.X k2.Y) : Calls Try.prog 20 #[cv g 0 2 cap] W fun e w' => e = .returned (.int .i64 2) ∧ Below W.heap.size W w' := chk_lit rfl k2_chk g cap W hp
theorem chk_k3 (g cap : Nat) (W : World) (hp : Pts W g 0 3 k3.X k3.Y) : Calls Try.prog 20 #[cv g 0 3 cap] W fun e w' => e = .returned (.int .i64 12) ∧ Below W.heap.size W w' := chk_lit rfl k3_chk g cap W hp
theorem pcs_B (g cap : Nat) (W : World) (hp : Pts W g 0 3 BX BY) : Calls Try.prog 25 #[cv g 0 3 cap] W fun e w' => ∃ R c', e = .returned (.slice R 2 c') ∧ Lst w' R 2 (fun _ => 5000) ∧ Below W.heap.size W w' := by
  have h := pcs_any (some ⟨g, 0, none⟩) cap crvB W (spots_of hp)
  have e : pcN crvB = 2 := by unfold pcN; rw [if_pos B_chk]; rfl
  rw [e] at h
  refine h.mono ?_
  rintro e w' ⟨R, c', rfl, hl, hb⟩
  refine ⟨R, c', rfl, fun h0 => ?_, hb⟩
  obtain ⟨g, e, hi⟩ := hl h0
  refine ⟨g, e, fun k hk => (hi k hk).trans ?_⟩
  have : k = 0 ∨ k = 1 := by omega
  rcases this with rfl | rfl
  · rw [B_len0]
  · rw [B_len1]
/-- A row of numbers that was built just now. -/
theorem lst_new {W : World} {b n : Nat} {cs : Array Value} {f : Nat → Int} (hb : BoxAt W b 2 cs) (h : ∀ i, i < n → cs[i]? = some (.int .i64 (f i))) : Lst W (some ⟨b, 0, none⟩) n f := fun _ => ⟨b, rfl, fun i hi => (BoxAt.cell hb i).trans (h i hi)⟩
theorem two_55 : ∀ i, i < 2 → (#[.int .i64 5000, .int .i64 5000] : Array Value)[i]? = some (.int .i64 5000) := fun i hi => by
  have : i = 0 ∨ i = 1 := by omega
  rcases this with rfl | rfl <;> rfl
theorem one_6 : ∀ i, i < 1 → (#[.int .i64 6000] : Array Value)[i]? = some (.int .i64 6000) := fun i hi => by
  obtain rfl : i = 0 := by omega
  rfl
theorem same_55 (R : Option Addr) (b c1 c2 : Nat) (W : World) (h : Lst W R 2 (fun _ => 5000)) (hb : BoxAt W b 2 #[.int .i64 5000, .int .i64 5000]) : Calls Try.prog 24 #[.slice R 2 c1, .slice (some ⟨b, 0, none⟩) 2 c2] W fun e w' => e = .returned (.bool true) ∧ Below W.heap.size W w' :=
  same_longs_any R (some ⟨b, 0, none⟩) 2 c1 c2 (fun _ => 5000) (by decide) W h (lst_new hb two_55)
theorem same_6 (R : Option Addr) (b c1 c2 : Nat) (W : World) (h : Lst W R 1 (fun _ => 6000)) (hb : BoxAt W b 2 #[.int .i64 6000]) : Calls Try.prog 24 #[.slice R 1 c1, .slice (some ⟨b, 0, none⟩) 1 c2] W fun e w' => e = .returned (.bool true) ∧ Below W.heap.size W w' :=
  same_longs_any R (some ⟨b, 0, none⟩) 1 c1 c2 (fun _ => 6000) (by decide) W h (lst_new hb one_6)
theorem pc_B {s i t : Int} (g cap : Nat) (W : World) (h1 : -9223372036854775808 ≤ s) (h2 : s ≤ 9223372036854775807) (h : (pcI crvB s : Int) = i ∧ pcT crvB s = t) (hp : Pts W g 0 3 BX BY) : Calls Try.prog 29 #[cv g 0 3 cap, .int .i64 s] W fun e w' => e = .returned (.tuple #[.int .i64 i, .int .i64 t]) ∧ Below W.heap.size W w' := by
  have := piece_any (some ⟨g, 0, none⟩) cap crvB s h1 h2 W (spots_of hp)
  rw [← h.1, ← h.2]
  exact this
theorem pc_1 (g cap : Nat) (W : World) (hp : Pts W g 0 3 BX BY) : Calls Try.prog 29 #[cv g 0 3 cap, .int .i64 5000] W fun e w' => e = .returned (.tuple #[.int .i64 1, .int .i64 0]) ∧ Below W.heap.size W w' := pc_B g cap W (by decide) (by decide) ⟨by rw [B_pc1.1]; rfl, B_pc1.2⟩ hp
theorem pc_2 (g cap : Nat) (W : World) (hp : Pts W g 0 3 BX BY) : Calls Try.prog 29 #[cv g 0 3 cap, .int .i64 10000] W fun e w' => e = .returned (.tuple #[.int .i64 1, .int .i64 5000]) ∧ Below W.heap.size W w' := pc_B g cap W (by decide) (by decide) ⟨by rw [B_pc2.1]; rfl, B_pc2.2⟩ hp
theorem pc_3 (g cap : Nat) (W : World) (hp : Pts W g 0 3 BX BY) : Calls Try.prog 29 #[cv g 0 3 cap, .int .i64 (-3)] W fun e w' => e = .returned (.tuple #[.int .i64 0, .int .i64 0]) ∧ Below W.heap.size W w' := pc_B g cap W (by decide) (by decide) ⟨by rw [B_pc3.1]; rfl, B_pc3.2⟩ hp
theorem at_B {s x y : Int} (g cap : Nat) (W : World) (h1 : -9223372036854775808 ≤ s) (h2 : s ≤ 9223372036854775807) (h : atXF crvB s = x ∧ atYF crvB s = y) (hp : Pts W g 0 3 BX BY) : Calls Try.prog 31 #[cv g 0 3 cap, .int .i64 s] W fun e w' => e = .returned (sp x y) ∧ Below W.heap.size W w' := by
  have := at_any (some ⟨g, 0, none⟩) cap crvB s h1 h2 W (spots_of hp)
  rw [h.1, h.2] at this
  exact this
theorem at_1 (g cap : Nat) (W : World) (hp : Pts W g 0 3 BX BY) : Calls Try.prog 31 #[cv g 0 3 cap, .int .i64 1] W fun e w' => e = .returned (sp 0 0) ∧ Below W.heap.size W w' := at_B g cap W (by decide) (by decide) B_at1 hp
theorem at_2 (g cap : Nat) (W : World) (hp : Pts W g 0 3 BX BY) : Calls Try.prog 31 #[cv g 0 3 cap, .int .i64 5001] W fun e w' => e = .returned (sp 3001 4000) ∧ Below W.heap.size W w' := at_B g cap W (by decide) (by decide) B_at2 hp
theorem at_3 (g cap : Nat) (W : World) (hp : Pts W g 0 3 BX BY) : Calls Try.prog 31 #[cv g 0 3 cap, .int .i64 99999] W fun e w' => e = .returned (sp 8000 4000) ∧ Below W.heap.size W w' := at_B g cap W (by decide) (by decide) B_at3 hp
theorem side_1 (W : World) : Calls Try.prog 37 #[sp 0 0, sp 1 0, sp 0 1] W fun e w' => e = .returned (.int .i64 1) ∧ Below W.heap.size W w' := side_any (0, 0) (1, 0) (0, 1) 1 W (Lib.hid (by decide))
theorem dist_1 (W : World) : Calls Try.prog 39 #[sp 0 0, sp 3 4] W fun e w' => e = .returned (.int .i64 25) ∧ Below W.heap.size W w' := dist_any (0, 0) (3, 4) 25 W (Lib.hid (by decide))
theorem blk_1 (W : World) : Calls Try.prog 41 #[sp 0 0, sp 10 0, sp 5 (-5), sp 5 0] W fun e w' => e = .returned (.bool true) ∧ Below W.heap.size W w' := blocks_any (0, 0) (10, 0) (5, -5) (5, 0) true W (Lib.hid (by decide))
theorem blk_2 (W : World) : Calls Try.prog 41 #[sp 0 0, sp 10 0, sp 11 0, sp 20 0] W fun e w' => e = .returned (.bool false) ∧ Below W.heap.size W w' := blocks_any (0, 0) (10, 0) (11, 0) (20, 0) false W (Lib.hid (by decide))
theorem sees_1 (W : World) : Calls Try.prog 43 #[sp 0 0, sp 3 4, .int .i64 5] W fun e w' => e = .returned (.bool true) ∧ Below W.heap.size W w' := sees_any (0, 0) (3, 4) 5 true W (Lib.hid (by decide))
theorem sees_2 (W : World) : Calls Try.prog 43 #[sp 0 0, sp 3 4, .int .i64 4] W fun e w' => e = .returned (.bool false) ∧ Below W.heap.size W w' := sees_any (0, 0) (3, 4) 4 false W (Lib.hid (by decide))
theorem near_B {p q r : Int} {L : List Int} (g cap : Nat) (W : World) (h : nearF crvB p q r = L) (hp : Pts W g 0 3 BX BY) : Calls Try.prog 33 #[cv g 0 3 cap, sp p q, .int .i64 r] W (NearPost L W) := by
  have := near_any (some ⟨g, 0, none⟩) cap crvB p q r W (spots_of hp)
  rw [h] at this
  exact this
theorem near_1 (g cap : Nat) (W : World) (hp : Pts W g 0 3 BX BY) : Calls Try.prog 33 #[cv g 0 3 cap, sp 4000 5000, .int .i64 1000] W fun e w' => ∃ R c', e = .returned (.slice R 1 c') ∧ Lst w' R 1 (fun _ => 6000) ∧ Below W.heap.size W w' := by
  refine (near_B g cap W B_near1 hp).mono ?_
  rintro e w' ⟨R, c', rfl, hl, hb⟩
  refine ⟨R, c', rfl, fun h0 => ?_, hb⟩
  obtain ⟨g, e, hi⟩ := hl h0
  refine ⟨g, e, fun k hk => (hi k hk).trans ?_⟩
  obtain rfl : k = 0 := by omega
  rfl
theorem near_2 (g cap : Nat) (W : World) (hp : Pts W g 0 3 BX BY) : Calls Try.prog 33 #[cv g 0 3 cap, sp 3000 4000, .int .i64 0] W fun e w' => ∃ R c', e = .returned (.slice R 2 c') ∧ Lst w' R 2 (fun _ => 5000) ∧ Below W.heap.size W w' := by
  refine (near_B g cap W B_near2 hp).mono ?_
  rintro e w' ⟨R, c', rfl, hl, hb⟩
  refine ⟨R, c', rfl, fun h0 => ?_, hb⟩
  obtain ⟨g, e, hi⟩ := hl h0
  refine ⟨g, e, fun k hk => (hi k hk).trans ?_⟩
  have : k = 0 ∨ k = 1 := by omega
  rcases this with rfl | rfl <;> rfl
theorem near_3 (g cap : Nat) (W : World) (hp : Pts W g 0 3 BX BY) : Calls Try.prog 33 #[cv g 0 3 cap, sp 4000 5001, .int .i64 1000] W fun e w' => ∃ R c', e = .returned (.slice R 0 c') ∧ Below W.heap.size W w' := by
  refine (near_B g cap W B_near3 hp).mono ?_
  rintro e w' ⟨R, c', rfl, hl, hb⟩
  exact ⟨R, c', rfl, hb⟩
theorem hold_1 (g cap : Nat) (W : World) (hp : Pts W g 0 3 BX BY) : Calls Try.prog 35 #[cv g 0 3 cap, .int .i64 1000, sp 4000 5000] W fun e w' => e = .returned (.bool true) ∧ Below W.heap.size W w' := by
  have := holds_any (some ⟨g, 0, none⟩) cap crvB 4000 5000 1000 W (spots_of hp)
  rw [B_hold1] at this
  exact this
theorem hold_2 (g cap : Nat) (W : World) (hp : Pts W g 0 3 BX BY) : Calls Try.prog 35 #[cv g 0 3 cap, .int .i64 999, sp 4000 5000] W fun e w' => e = .returned (.bool false) ∧ Below W.heap.size W w' := by
  have := holds_any (some ⟨g, 0, none⟩) cap crvB 4000 5000 999 W (spots_of hp)
  rw [B_hold2] at this
  exact this
theorem crs_lit {c d : Crv} {L : List Quad} {ha hb : Int} (h : crsF c d ha hb = L) (nc : c.n = 2) (nd : d.n = 2) (g1 g2 c1 c2 : Nat) (W : World) (h1 : Pts W g1 0 2 c.X c.Y) (h2 : Pts W g2 0 2 d.X d.Y) :
    Calls Try.prog 46 #[cv g1 0 2 c1, .int .i64 ha, cv g2 0 2 c2, .int .i64 hb] W fun e w' => ∃ R c', e = .returned (.slice R L.length c') ∧ Qs w' R L ∧ Below W.heap.size W w' := by
  have := crs_any (some ⟨g1, 0, none⟩) (some ⟨g2, 0, none⟩) c1 c2 c d ha hb W (by rw [nc]; exact spots_of h1) (by rw [nd]; exact spots_of h2)
  rw [h, nc, nd] at this
  refine this.mono ?_
  rintro e w' ⟨v, rfl, ho, hb⟩
  obtain ⟨R, c', rfl, hq⟩ := qs_of_own ho
  exact ⟨R, c', rfl, hq, hb⟩
theorem crs_1 (g1 g2 c1 c2 : Nat) (W : World) (h1 : Pts W g1 0 2 kA.X kA.Y) (h2 : Pts W g2 0 2 kB.X kB.Y) : Calls Try.prog 46 #[cv g1 0 2 c1, .int .i64 1000, cv g2 0 2 c2, .int .i64 500] W fun e w' => ∃ R c', e = .returned (.slice R 1 c') ∧ Qs w' R [⟨4499, 5501, 3999, 6001⟩] ∧ Below W.heap.size W w' := crs_lit known_crs1 rfl rfl g1 g2 c1 c2 W h1 h2
theorem crs_2 (g1 g2 c1 c2 : Nat) (W : World) (h1 : Pts W g1 0 2 kA.X kA.Y) (h2 : Pts W g2 0 2 kD.X kD.Y) : Calls Try.prog 46 #[cv g1 0 2 c1, .int .i64 1000, cv g2 0 2 c2, .int .i64 500] W fun e w' => ∃ R c', e = .returned (.slice R 1 c') ∧ Qs w' R [⟨0, 10000, 0, 10000⟩] ∧ Below W.heap.size W w' := crs_lit known_crs2 rfl rfl g1 g2 c1 c2 W h1 h2
theorem crs_3 (g1 g2 c1 c2 : Nat) (W : World) (h1 : Pts W g1 0 2 kA.X kA.Y) (h2 : Pts W g2 0 2 kD.X kD.Y) : Calls Try.prog 46 #[cv g1 0 2 c1, .int .i64 999, cv g2 0 2 c2, .int .i64 500] W fun e w' => ∃ R c', e = .returned (.slice R 0 c') ∧ Below W.heap.size W w' := (crs_lit known_crs3 rfl rfl g1 g2 c1 c2 W h1 h2).mono (by rintro e w' ⟨R, c', rfl, _, hb⟩; exact ⟨R, c', rfl, hb⟩)
theorem qat_one {Q : Quad} {W : World} {b : Nat} (hb : BoxAt W b 66 #[.int .i64 Q.fa, .int .i64 Q.ta, .int .i64 Q.fb, .int .i64 Q.tb]) : QAt W b [Q] := fun i hi => by
  obtain rfl : i = 0 := by simpa using hi
  exact ⟨Q, rfl, hb.cell 0, hb.cell 1, hb.cell 2, hb.cell 3⟩
theorem same_q (Q : Quad) (R : Option Addr) (b c1 c2 : Nat) (W : World) (h : Qs W R [Q]) (hb : BoxAt W b 66 #[.int .i64 Q.fa, .int .i64 Q.ta, .int .i64 Q.fb, .int .i64 Q.tb]) : Calls Try.prog 45 #[.slice R 1 c1, .slice (some ⟨b, 0, none⟩) 1 c2] W fun e w' => e = .returned (.bool true) ∧ Below W.heap.size W w' :=
  same_crs R (some ⟨b, 0, none⟩) c1 c2 [Q] W (by simp) h (fun _ => ⟨b, rfl, qat_one hb, hb.lt⟩)
theorem join_1 (g1 g2 c1 c2 : Nat) (W : World) (h1 : Pts W g1 0 2 kA.X kA.Y) (h2 : Pts W g2 0 2 kE.X kE.Y) (hc : 2 ≤ c2) : Calls Try.prog 49 #[cv g1 0 2 c1, cv g2 0 2 c2] W fun e w' => ∃ g c', e = .returned (.tuple #[cv g 0 3 c', .int .i64 0]) ∧ Pts w' g 0 3 (jn kA kE).X (jn kA kE).Y ∧ Below W.heap.size W w' ∧ W.heap.size ≤ g := by
  refine (join_any (some ⟨g1, 0, none⟩) (some ⟨g2, 0, none⟩) c1 c2 kA kE W (spots_of h1) (spots_of h2) hc).mono ?_
  rintro e w' ⟨R, c', rfl, hn, hb⟩
  rw [known_res1, known_join1]
  rw [known_res1] at hn
  obtain ⟨g, rfl, hg, hr⟩ := hn (by decide)
  exact ⟨g, c', rfl, hr.pts, hb, hg⟩
theorem join_2 (g1 g2 c1 c2 : Nat) (W : World) (h1 : Pts W g1 0 2 kA.X kA.Y) (h2 : Pts W g2 0 2 kB.X kB.Y) (hc : 2 ≤ c2) : Calls Try.prog 49 #[cv g1 0 2 c1, cv g2 0 2 c2] W fun e w' => ∃ R n c', e = .returned (.tuple #[.agg #[.slice R n c'], .int .i64 7]) ∧ Below W.heap.size W w' := by
  refine (join_any (some ⟨g1, 0, none⟩) (some ⟨g2, 0, none⟩) c1 c2 kA kB W (spots_of h1) (spots_of h2) hc).mono ?_
  rintro e w' ⟨R, c', rfl, hn, hb⟩
  rw [known_join2]
  exact ⟨R, _, c', rfl, hb⟩
theorem same_1 (g1 g2 c1 c2 : Nat) (W : World) (h1 : Pts W g1 0 3 (jn kA kE).X (jn kA kE).Y) (h2 : Pts W g2 0 3 kC.X kC.Y) : Calls Try.prog 52 #[cv g1 0 3 c1, cv g2 0 3 c2] W fun e w' => e = .returned (.bool true) ∧ Below W.heap.size W w' := by
  have := same_any (some ⟨g1, 0, none⟩) (some ⟨g2, 0, none⟩) c1 c2 (jn kA kE) kC (by decide) W (spots_of h1) (spots_of h2)
  rw [known_same] at this
  exact this
end Go.Proofs.Ytglkpabcflecmaa
