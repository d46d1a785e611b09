/- The reference's Join of any two curves. -/
import Derived.Test.YtglkpabcflecmaaJoinA
import Derived.Test.YtglkpabcflecmaaPtsL
namespace Go.Proofs.Ytglkpabcflecmaa
open Go.RowKit Go.Shelf

theorem rcheck_good (b off cap : Nat) (c : Crv) (h : Good c) (w : World) (hp : Pts w b off c.n c.X c.Y) :
    Calls Try.prog 21 #[cv b off c.n cap] w fun e w' => e = .returned (.int .i64 0) ∧ Below w.heap.size w w' := by
  have := rcheck_any (some ⟨b, off, none⟩) cap c w (fun _ => ⟨b, off, rfl, hp⟩)
  rwa [of_good h] at this
theorem pts_grow1 {W W' : World} {g off n : Nat} {X Y : Nat → Int} {row : Option Nat} (hp : Pts W g off n X Y) (hg : W.grownBy W' row) (hn : 0 < n) (hne : some g ≠ row) : Pts W' g off n X Y := fun i hi =>
  ⟨(hg.cell_far ⟨g, off + i * 2, none⟩ (hp.lt hn) hne).trans (hp i hi).1, (hg.cell_far ⟨g, off + i * 2 + 1, none⟩ (hp.lt hn) hne).trans (hp i hi).2⟩
theorem empty_row2 (w : World) (base : Nat) (h : base ≤ w.heap.size) : (w.alloc (.cells #[] 43)).ownsRow base 43 2 (.slice (some ⟨w.heap.size, 0, none⟩) 0 0) 0 [] :=
  ⟨rfl, .inr ⟨w.heap.size, 0, #[], rfl, h, World.alloc_heap_new w _, Nat.le_refl _, by decide, rfl, rfl⟩⟩

theorem empty_row3 (w : World) (o : Obj) (base : Nat) (h : base ≤ w.heap.size) : ((w.alloc o).alloc (.cells #[] 43)).ownsRow base 43 2 (.slice (some ⟨w.heap.size + 1, 0, none⟩) 0 0) 0 [] := by
  have := empty_row2 (w.alloc o) base (by simp; omega)
  rwa [World.size_alloc] at this

set_option maxRecDepth 100000 in
set_option maxHeartbeats 4000000 in
theorem rjoin_good (b1 o1 c1 b2 o2 c2 : Nat) (a b : Crv) (ga : Good a) (gb : Good b) (hx : a.X (a.n - 1) = b.X 0) (hy : a.Y (a.n - 1) = b.Y 0) (hc2 : b.n ≤ c2) (w : World) (h1 : Pts w b1 o1 a.n a.X a.Y) (h2 : Pts w b2 o2 b.n b.X b.Y) :
    Calls Try.prog 50 #[cv b1 o1 a.n c1, cv b2 o2 b.n c2] w (JnPost a b w) := by
  obtain ⟨i0_, hi0, hz0, hz1, hz2⟩ := info_parts Try.info43
  have hI0 := Lib.hid hi0
  have hZ0 := Lib.hid hz0
  have hZ1 := Lib.hid hz1
  have hZ2 := Lib.hid hz2
  clear hi0 hz0 hz1 hz2
  have na := ga.lo
  have na' := ga.hi
  have nb := gb.lo
  have nb' := gb.hi
  obtain ⟨W0, hW0, f1, f2, fR, hB⟩ := jn_boxes w (.slice (some ⟨b1, o1, none⟩) a.n c1) (.slice (some ⟨b2, o2, none⟩) b.n c2)
  have HP1 := Lib.hid (h1.below hB (h1.lt (by omega)))
  have HP2 := Lib.hid (h2.below hB (h2.lt (by omega)))
  have GA := Lib.hid ga
  have GB := Lib.hid gb
  have HX := Lib.hid hx
  have HY := Lib.hid hy
  have k0 : W0.cell? ⟨w.heap.size, 0, none⟩ = some (.slice (some ⟨b1, o1, none⟩) a.n c1) := f1.cell 0
  have l0 := f1.lt
  have hW0' := Lib.hid hW0
  clear hx hy ga gb hW0
  go_enter Try.func50, Try.ntmps50
  go_upto_region 1 with fail
  rw [← hW0'.out]
  clear hW0'
  go_upto_region 7 with (first
    | (go_at_call 21; (with_reducible refine (rcheck_good b1 o1 c1 a GA.out _ HP1.out).mono ?_); rintro e w1 ⟨rfl, hb1⟩; have F1 := box_step f1 hb1; have F2 := box_step f2 hb1; have FR := box_step fR hb1; have Q1 := Lib.hid (HP1.out.below hb1 (HP1.out.lt (by omega))); have Q2 := Lib.hid (HP2.out.below hb1 (HP2.out.lt (by omega))); replace hB := below_step hB hb1; have k1 : w1.cell? ⟨w.heap.size + 1, 0, none⟩ = some (.slice (some ⟨b2, o2, none⟩) b.n c2) := F2.cell 0)
    | (go_at_call 21; (with_reducible refine (rcheck_good b2 o2 c2 b GB.out _ Q2.out).mono ?_); rintro e w2 ⟨rfl, hb2⟩; have G1 := box_step F1 hb2; have G2 := box_step F2 hb2; have GR := box_step FR hb2; have R1 := Lib.hid (Q1.out.below hb2 (Q1.out.lt (by omega))); have R2 := Lib.hid (Q2.out.below hb2 (Q2.out.lt (by omega))); replace hB := below_step hB hb2))
  have m0 : w2.cell? ⟨w.heap.size, 0, none⟩ = some (.slice (some ⟨b1, o1, none⟩) a.n c1) := G1.cell 0
  have m1 : w2.cell? ⟨w.heap.size + 1, 0, none⟩ = some (.slice (some ⟨b2, o2, none⟩) b.n c2) := G2.cell 0
  obtain ⟨xa, ya⟩ := R1.out (a.n - 1) (by omega)
  obtain ⟨xb, yb⟩ := R2.out 0 (by omega)
  rw [HX.out] at xa
  rw [HY.out] at ya
  obtain ⟨xl, hxl⟩ : ∃ z, z = b.X 0 := ⟨_, rfl⟩
  obtain ⟨yl, hyl⟩ : ∃ z, z = b.Y 0 := ⟨_, rfl⟩
  rw [← hxl] at xa xb
  rw [← hyl] at ya yb
  clear hxl hyl
  rw [Nat.zero_mul, Nat.add_zero] at xb yb
  have j2 : (0 : Int) ≤ (a.n : Int) - 1 := by omega
  have j3 : (a.n : Int) - 1 < (a.n : Int) := by omega
  have j4 : IntKind.i64.wrap ((a.n : Int) - 1) = (a.n : Int) - 1 := IntWalk.i64_in _ (by omega)
  have j5 : ((a.n : Int) - 1).toNat = a.n - 1 := by omega
  have j6 : (1 : Int) ≤ (a.n : Int) := by omega
  have j9 : 1 ≤ a.n := by omega
  have j10 : a.n - 1 < a.n := by omega
  have j11 : (0 : Int) < (b.n : Int) := by omega
  have j12 : 0 < b.n := by omega
  have z1 := G1.lt
  have z2 := G2.lt
  have z3 := R1.out.lt (by omega)
  have z4 := R2.out.lt (by omega)
  clear k0 k1 l0 f1 f2 fR F1 F2 FR HP1 HP2 Q1 Q2 hb1 hb2
  go_cut [34] from 22 to 34 (fun v w' => v = .bool false ∧ Below w2.heap.size w2 w')
  case first =>
    go_quiet (fail)
    go_wp2
    go_meet
    exact ⟨rfl, below_drewN (Below.refl _ _) _⟩
  case rest =>
    obtain ⟨wd, rfl⟩ : ∃ x : World, x = wc := ⟨_, rfl⟩
    obtain ⟨rfl, hbd⟩ := hcut
    have D1 := box_step G1 hbd
    have D2 := box_step G2 hbd
    have DR := Lib.hid (box_step GR hbd)
    have P1 := Lib.hid (R1.out.below hbd z3)
    have P2 := Lib.hid (R2.out.below hbd z4)
    have hBd := Lib.hid (below_step hB hbd)
    have P3 : Hid (Pts wd b2 (o2 + 2) (b.n - 1) (fun i => b.X (i + 1)) (fun i => b.Y (i + 1))) := fun i hi => by
      obtain ⟨x0, x1⟩ := P2.out (i + 1) (by omega)
      rw [show o2 + (i + 1) * 2 = o2 + 2 + i * 2 by omega] at x0 x1
      exact ⟨x0, x1⟩
    have d0 : wd.cell? ⟨w.heap.size, 0, none⟩ = some (.slice (some ⟨b1, o1, none⟩) a.n c1) := D1.cell 0
    have d1 : wd.cell? ⟨w.heap.size + 1, 0, none⟩ = some (.slice (some ⟨b2, o2, none⟩) b.n c2) := D2.cell 0
    have y1 := D1.lt
    have y2 := D2.lt
    have y3 := P1.out.lt (by omega)
    have y4 := P3.out.lt (by omega)
    have hc3 : ¬ c2 = 1 := by omega
    have hc4 : 1 ≤ b.n := by omega
    have hc5 : (1 : Int) ≤ (b.n : Int) := by omega
    obtain ⟨N, hN⟩ : ∃ N, N = a.n + (b.n - 1) := ⟨_, rfl⟩
    have HE := Lib.hid (fun W (q1 : Pts W b1 o1 a.n a.X a.Y) (q2 : Pts W b2 (o2 + 2) (b.n - 1) (fun i => b.X (i + 1)) (fun i => b.Y (i + 1))) => ext_two b1 o1 c1 a.n b2 (o2 + 2) (c2 - 1) (b.n - 1) a.X a.Y _ _ W q1 q2 (by omega) (by omega) (by omega) (by omega))
    rw [← hN] at HE
    have HNN := Lib.hid hN
    clear hN m0 m1 xa xb ya yb j2 j3 j4 j5 j6 j9 j10 j11 j12 z1 z2 z3 z4 G1 G2 GR R1 R2 D1 D2 hB hbd P2
    go_upto_region 9 with fail
    go_cut [8] from 36 to 40 (fun v w' => ∃ L g cap, v = .pointer (some ⟨L, 0, none⟩) ∧ BoxAt w' L 24 #[.slice (some ⟨g, 0, none⟩) N cap] ∧ Hid (RowAt w' g N (catF a.n a.X (fun i => b.X (i + 1))) (catF a.n a.Y (fun i => b.Y (i + 1)))) ∧ Below wd.heap.size wd w' ∧ wd.heap.size ≤ g)
    case first =>
      go_region_held3 (fun w' => w'.cell? ⟨w.heap.size, 0, none⟩ = some (.slice (some ⟨b1, o1, none⟩) a.n c1) ∧ w'.cell? ⟨w.heap.size + 1, 0, none⟩ = some (.slice (some ⟨b2, o2, none⟩) b.n c2))
        (first | assumption | exact ⟨(World.cell?_of_block (Below.heap_setCell _ _ _ _ (by intro e; simp at e; omega))).trans hs80, (World.cell?_of_block (Below.heap_setCell _ _ _ _ (by intro e; simp at e; omega))).trans hs81⟩ | go_keep)
        (first
          | (refine step_append_lies _ rfl _ _ 22 rfl wd.heap.size 43 i0_ _ 2 16 Try.underlying22 hI0.out hZ0.out hZ1.out hZ2.out rfl (by decide) (.slice (some ⟨wd.heap.size, 0, none⟩) 0 0) 0 [] rfl (by first | exact empty_row2 _ _ (by simp) | exact (empty_row2 _ _ (by simp)).alloc _ | exact empty_row2 _ _ (by simp; omega)) ⟨b1, o1, none⟩ a.n c1 (cellsL a.X a.Y a.n) rfl (cellsL_length _ _ _) (pts_news (by (repeat (first | (with_reducible exact P1.out) | (with_reducible refine pts_alloc1 ?_ (by omega)) | (with_reducible refine pts_drew1 ?_) | (with_reducible refine pts_grow1 ?_ hgrow7 (by omega) (fun e => by simp [Value.ownBlock] at e; omega)))))) (cellsL_one _ _ _) (by omega) (by unfold maxLen; omega) (by omega) (by simp <;> omega) _ rfl ?_; intro g7 cap7 w7 hown7 hgrow7 hat7 hlt7; (have hs7 : w7.cell? ⟨w.heap.size, 0, none⟩ = some (.slice (some ⟨b1, o1, none⟩) a.n c1) ∧ w7.cell? ⟨w.heap.size + 1, 0, none⟩ = some (.slice (some ⟨b2, o2, none⟩) b.n c2) := ⟨(hgrow7.cell_far ⟨w.heap.size, 0, none⟩ (by show w.heap.size < _; (try simp); omega) (fun e => by simp [Value.ownBlock] at e; omega)).trans (by simp [*]), (hgrow7.cell_far ⟨w.heap.size + 1, 0, none⟩ (by show w.heap.size + 1 < _; (try simp); omega) (fun e => by simp [Value.ownBlock] at e; omega)).trans (by simp [*])⟩); obtain ⟨hs70, hs71⟩ := id hs7; (rw [Nat.zero_add, List.nil_append] at hown7); (simp only [Nat.zero_add]); have HO7 := Lib.hid hown7; have hgb7 := (row_cells hown7 (j := g7) rfl).1; clear hown7; (try simp [Value.ownBlock] at hat7); have hz7 := hgrow7.size; (try simp at hz7); (try (refine (fun (bA7 : Hid (BoxAt w7 (wd.heap.size) 24 #[.slice none 0 0])) => ?_) ?_; (rotate_left; (refine BoxAt.grown ?_ hgrow7 ?_; ((repeat (first | (with_reducible exact BoxAt.new _ _ _) | (with_reducible exact box_new2 _ _ _ _) | (with_reducible refine BoxAt.alloc ?_ _) | (with_reducible refine BoxAt.drew ?_)))); (intro e; simp [Value.ownBlock] at e <;> omega))))); (try (have fA7 : w7.frozen? ⟨wd.heap.size, 0, none⟩ = false := BoxAt.frozen bA7.out 0)); (try (have cA7 : w7.cell? ⟨wd.heap.size, 0, none⟩ = some (.slice none 0 0) := BoxAt.cell bA7.out 0)); (try (refine (fun (bB7 : Hid (BoxAt w7 (wd.heap.size + 1) 24 #[.slice none 0 0])) => ?_) ?_; (rotate_left; (refine BoxAt.grown ?_ hgrow7 ?_; ((repeat (first | (with_reducible exact BoxAt.new _ _ _) | (with_reducible exact box_new2 _ _ _ _) | (with_reducible refine BoxAt.alloc ?_ _) | (with_reducible refine BoxAt.drew ?_)))); (intro e; simp [Value.ownBlock] at e <;> omega))))); (try (have fB7 : w7.frozen? ⟨wd.heap.size + 1, 0, none⟩ = false := BoxAt.frozen bB7.out 0)); (try (have cB7 : w7.cell? ⟨wd.heap.size + 1, 0, none⟩ = some (.slice none 0 0) := BoxAt.cell bB7.out 0)))
          | (refine step_append_lies _ rfl _ _ 22 rfl wd.heap.size 43 i0_ _ 2 16 Try.underlying22 hI0.out hZ0.out hZ1.out hZ2.out rfl (by decide) (.slice (some ⟨g7, 0, none⟩) a.n cap7) a.n (cellsL a.X a.Y a.n) rfl (by first | exact HO7.out | exact HO7.out.alloc _) ⟨b2, o2 + 2, none⟩ (b.n - 1) (c2 - 1) (cellsL (fun i => b.X (i + 1)) (fun i => b.Y (i + 1)) (b.n - 1)) rfl (cellsL_length _ _ _) (pts_news (by (repeat (first | (with_reducible exact P3.out) | (with_reducible refine pts_alloc1 ?_ (by omega)) | (with_reducible refine pts_drew1 ?_) | (with_reducible refine pts_grow1 ?_ hgrow7 (by omega) (fun e => by simp [Value.ownBlock] at e; omega)))))) (cellsL_one _ _ _) (by omega) (by unfold maxLen; omega) (by omega) (by (try simp); omega) _ rfl ?_; intro g8 cap8 w8 hown8 hgrow8 hat8 hlt8; (have hs8 : w8.cell? ⟨w.heap.size, 0, none⟩ = some (.slice (some ⟨b1, o1, none⟩) a.n c1) ∧ w8.cell? ⟨w.heap.size + 1, 0, none⟩ = some (.slice (some ⟨b2, o2, none⟩) b.n c2) := ⟨(hgrow8.cell_far ⟨w.heap.size, 0, none⟩ (by show w.heap.size < _; (try simp); omega) (fun e => by simp [Value.ownBlock] at e; omega)).trans (by simp [*]), (hgrow8.cell_far ⟨w.heap.size + 1, 0, none⟩ (by show w.heap.size + 1 < _; (try simp); omega) (fun e => by simp [Value.ownBlock] at e; omega)).trans (by simp [*])⟩); obtain ⟨hs80, hs81⟩ := id hs8; have HO8 := Lib.hid hown8; have hgb8 := (row_cells hown8 (j := g8) rfl).1; clear hown8; (try simp [Value.ownBlock] at hat8); have hz8 := hgrow8.size; (try simp at hz8); (try (refine (fun (bA8 : Hid (BoxAt w8 (wd.heap.size) 24 #[.slice none 0 0])) => ?_) ?_; (rotate_left; (refine BoxAt.grown ?_ hgrow8 ?_; (first | exact bA7.out | exact bA7.out.alloc _); (intro e; simp [Value.ownBlock] at e <;> omega))))); (try (have fA8 : w8.frozen? ⟨wd.heap.size, 0, none⟩ = false := BoxAt.frozen bA8.out 0)); (try (have cA8 : w8.cell? ⟨wd.heap.size, 0, none⟩ = some (.slice none 0 0) := BoxAt.cell bA8.out 0)); (try (refine (fun (bB8 : Hid (BoxAt w8 (wd.heap.size + 1) 24 #[.slice none 0 0])) => ?_) ?_; (rotate_left; (refine BoxAt.grown ?_ hgrow8 ?_; (first | exact bB7.out | exact bB7.out.alloc _); (intro e; simp [Value.ownBlock] at e <;> omega))))); (try (have fB8 : w8.frozen? ⟨wd.heap.size + 1, 0, none⟩ = false := BoxAt.frozen bB8.out 0)); (try (have cB8 : w8.cell? ⟨wd.heap.size + 1, 0, none⟩ = some (.slice none 0 0) := BoxAt.cell bB8.out 0)); (try (refine (fun (bC8 : Hid (BoxAt w8 (w7.heap.size) 24 #[.slice none 0 0])) => ?_) ?_; (rotate_left; (refine BoxAt.grown ?_ hgrow8 ?_; (exact BoxAt.new _ _ _); (intro e; simp [Value.ownBlock] at e <;> omega))))); (try (have fC8 : w8.frozen? ⟨w7.heap.size, 0, none⟩ = false := BoxAt.frozen bC8.out 0)); (try (have cC8 : w8.cell? ⟨w7.heap.size, 0, none⟩ = some (.slice none 0 0) := BoxAt.cell bC8.out 0)))
          | (refine step_append_lies _ rfl _ _ 22 rfl wd.heap.size 43 i0_ _ 2 16 Try.underlying22 hI0.out hZ0.out hZ1.out hZ2.out rfl (by decide) (.slice (some ⟨wd.heap.size + 1, 0, none⟩) 0 0) 0 [] rfl (empty_row3 wd.drew (.cells #[.slice none 0 0] 24) wd.heap.size (Nat.le_refl _)) ⟨b1, o1, none⟩ a.n c1 (cellsL a.X a.Y a.n) rfl (cellsL_length _ _ _) (pts_news (by (repeat (first | (with_reducible exact P1.out) | (with_reducible refine pts_alloc1 ?_ (by omega)) | (with_reducible refine pts_drew1 ?_) | (with_reducible refine pts_grow1 ?_ hgrow7 (by omega) (fun e => by simp [Value.ownBlock] at e; omega)))))) (cellsL_one _ _ _) (by omega) (by unfold maxLen; omega) (by omega) (by simp <;> omega) _ rfl ?_; intro g7 cap7 w7 hown7 hgrow7 hat7 hlt7; (have hs7 : w7.cell? ⟨w.heap.size, 0, none⟩ = some (.slice (some ⟨b1, o1, none⟩) a.n c1) ∧ w7.cell? ⟨w.heap.size + 1, 0, none⟩ = some (.slice (some ⟨b2, o2, none⟩) b.n c2) := ⟨(hgrow7.cell_far ⟨w.heap.size, 0, none⟩ (by show w.heap.size < _; (try simp); omega) (fun e => by simp [Value.ownBlock] at e; omega)).trans (by simp [*]), (hgrow7.cell_far ⟨w.heap.size + 1, 0, none⟩ (by show w.heap.size + 1 < _; (try simp); omega) (fun e => by simp [Value.ownBlock] at e; omega)).trans (by simp [*])⟩); obtain ⟨hs70, hs71⟩ := id hs7; (rw [Nat.zero_add, List.nil_append] at hown7); (simp only [Nat.zero_add]); have HO7 := Lib.hid hown7; have hgb7 := (row_cells hown7 (j := g7) rfl).1; clear hown7; (try simp [Value.ownBlock] at hat7); have hz7 := hgrow7.size; (try simp at hz7); (try (refine (fun (bA7 : Hid (BoxAt w7 (wd.heap.size) 24 #[.slice none 0 0])) => ?_) ?_; (rotate_left; (refine BoxAt.grown ?_ hgrow7 ?_; ((repeat (first | (with_reducible exact BoxAt.new _ _ _) | (with_reducible exact box_new2 _ _ _ _) | (with_reducible refine BoxAt.alloc ?_ _) | (with_reducible refine BoxAt.drew ?_)))); (intro e; simp [Value.ownBlock] at e <;> omega))))); (try (have fA7 : w7.frozen? ⟨wd.heap.size, 0, none⟩ = false := BoxAt.frozen bA7.out 0)); (try (have cA7 : w7.cell? ⟨wd.heap.size, 0, none⟩ = some (.slice none 0 0) := BoxAt.cell bA7.out 0)); (try (refine (fun (bB7 : Hid (BoxAt w7 (wd.heap.size + 1) 24 #[.slice none 0 0])) => ?_) ?_; (rotate_left; (refine BoxAt.grown ?_ hgrow7 ?_; ((repeat (first | (with_reducible exact BoxAt.new _ _ _) | (with_reducible exact box_new2 _ _ _ _) | (with_reducible refine BoxAt.alloc ?_ _) | (with_reducible refine BoxAt.drew ?_)))); (intro e; simp [Value.ownBlock] at e <;> omega))))); (try (have fB7 : w7.frozen? ⟨wd.heap.size + 1, 0, none⟩ = false := BoxAt.frozen bB7.out 0)); (try (have cB7 : w7.cell? ⟨wd.heap.size + 1, 0, none⟩ = some (.slice none 0 0) := BoxAt.cell bB7.out 0))))
      all_goals go_wp2
      all_goals go_meet
      all_goals
        have hP8 : RowAt w8 g8 (a.n + (b.n - 1)) (catF a.n a.X (fun i => b.X (i + 1))) (catF a.n a.Y (fun i => b.Y (i + 1))) := by
          have := HO8.out
          rw [cellsL_cat] at this
          exact (row_at this).1
        have hB7 : Below wd.heap.size wd w7 := Below.grown (by (repeat (first | (with_reducible exact Below.refl _ _) | ((with_reducible refine balloc ?_ ?_ _); (first | exact Nat.le_refl _ | omega | (simp; omega) | simp)) | (with_reducible refine Below.drew ?_)))) hgrow7 (by simp <;> omega) (fun g e => by simp [Value.ownBlock] at e; omega)
        have hB8 : Below wd.heap.size wd w8 := Below.grown (by first | exact hB7 | exact hB7.alloc hB7.size _) hgrow8 (by have := hB7.size; (try simp); omega) (fun g e => by simp [Value.ownBlock] at e; omega)
        have hP8' := Lib.hid hP8
        rw [HNN.out]
        clear hP8
      · exact ⟨_, g8, cap8, rfl, BoxAt.new _ _ _, hP8'.out.below ((Below.refl _ _).alloc (Nat.le_refl _) _), hB8.alloc hB8.size _, hgb8⟩
      · exact ⟨_, g8, cap8, rfl, bC8.out.set 0 _, hP8'.out.other (by omega) 0 _, hB8.setCell (p := ⟨w7.heap.size, 0, none⟩) hB7.size _, hgb8⟩
      · exact ⟨_, g8, cap8, rfl, bB8.out.set 0 _, hP8'.out.other (by omega) 0 _, hB8.setCell (p := ⟨wd.heap.size + 1, 0, none⟩) (by show wd.heap.size ≤ wd.heap.size + 1; omega) _, hgb8⟩
      · exact ⟨_, g8, cap8, rfl, bA8.out.set 0 _, hP8'.out.other (by omega) 0 _, hB8.setCell (p := ⟨wd.heap.size, 0, none⟩) (Nat.le_refl _) _, hgb8⟩
    case rest =>
      obtain ⟨we, rfl⟩ : ∃ x : World, x = wc := ⟨_, rfl⟩
      obtain ⟨L, g, cap, rfl, hbox, HPc, hbe, hge⟩ := hcut
      have hJ := Lib.hid (jn_catR a b na nb (HNN.out ▸ HPc.out))
      have hn : (jn a b).n = N := by rw [HNN.out]; show a.n + b.n - 1 = _; omega
      have hBe := Lib.hid (below_step hBd.out hbe)
      have DR2 := Lib.hid (box_step DR.out hbe)
      obtain ⟨k, hk⟩ : ∃ k, k = chkF (jn a b) := ⟨_, rfl⟩
      have HC := Lib.hid (fun W (hW : Pts W g 0 (jn a b).n (jn a b).X (jn a b).Y) => rcheck_any (some ⟨g, 0, none⟩) cap (jn a b) W (fun _ => ⟨g, 0, rfl, hW⟩))
      rw [← hk, hn] at HC
      rw [hn] at hJ
      have c0 : we.cell? ⟨L, 0, none⟩ = some (.slice (some ⟨g, 0, none⟩) N cap) := hbox.cell 0
      have HK := Lib.hid hk
      have HNJ := Lib.hid hn
      have hgw : Hid (w.heap.size ≤ g) := by show _ ≤ _; have := hBd.out.size; omega
      have lg : g < we.heap.size := hJ.out.lt
      have lD := DR2.out.lt
      have hgR : Hid (g ≠ w.heap.size + 1 + 1) := by show g ≠ _; have := DR.out.lt; omega
      clear hk hn d0 d1 y1 y2 y3 y4 hc3 hc4 hc5 P1 P3 HE HPc hbe hge DR
      by_cases hz : k = 0
      · subst hz
        go_wp2_with (go_at_call 21; (with_reducible refine (HC.out _ hJ.out.pts).mono ?_); rintro e w6 ⟨rfl, hb6⟩; have E1 := box_step hbox hb6; have ER := Lib.hid (box_step DR2.out hb6); have q0 : w6.cell? ⟨L, 0, none⟩ = some (.slice (some ⟨g, 0, none⟩) N cap) := E1.cell 0; have q1 : w6.cell? ⟨w.heap.size + 1 + 1, 0, none⟩ = some (.slice none 0 0) := BoxAt.cell ER.out 0; have q2 : w6.frozen? ⟨w.heap.size + 1 + 1, 0, none⟩ = false := BoxAt.frozen ER.out 0)
        have hzz := (BoxAt.set ER.out 0 (.slice (some ⟨g, 0, none⟩) N cap)).cell 0
        have e5 : ((#[Value.slice none 0 0] : Array Value).setIfInBounds 0 (.slice (some ⟨g, 0, none⟩) N cap)) = #[.slice (some ⟨g, 0, none⟩) N cap] := rfl
        rw [e5] at hzz
        refine bodyPost_ret (v := .tuple #[cv g 0 N cap, .int .i64 0]) (by simp [results, Try.results50, go_sem, hzz]) rfl (.inl ⟨HK.out.symm, g, cap, by rw [HNJ.out], ?_, (below_step hBe.out hb6).setCell (p := ⟨w.heap.size + 1 + 1, 0, none⟩) (by show w.heap.size ≤ w.heap.size + 1 + 1; omega) _, hgw.out⟩)
        rw [HNJ.out]
        exact (hJ.out.below hb6).other hgR.out 0 _
      · have hrb : (k == 0) = false := by simp [hz]
        have hrn : (k != 0) = true := by simp [hz]
        have HZ := Lib.hid hz
        clear hz
        go_wp2_with (go_at_call 21; (with_reducible refine (HC.out _ hJ.out.pts).mono ?_); rintro e w6 ⟨rfl, hb6⟩; have ER := Lib.hid (box_step DR2.out hb6); have q1 : w6.cell? ⟨w.heap.size + 1 + 1, 0, none⟩ = some (.slice none 0 0) := BoxAt.cell ER.out 0; have q2 : w6.frozen? ⟨w.heap.size + 1 + 1, 0, none⟩ = false := BoxAt.frozen ER.out 0)
        have hzz := (BoxAt.set ER.out 0 (.slice none 0 0)).cell 0
        have e5 : ((#[Value.slice none 0 0] : Array Value).setIfInBounds 0 (.slice none 0 0)) = #[.slice none 0 0] := rfl
        rw [e5] at hzz
        exact bodyPost_ret (v := .tuple #[.agg #[.slice none 0 0], .int .i64 k]) (by simp [results, Try.results50, go_sem, hzz]) rfl (.inr ⟨fun h => HZ.out (HK.out.trans h), by rw [HK.out], (below_step hBe.out hb6).setCell (p := ⟨w.heap.size + 1 + 1, 0, none⟩) (by show w.heap.size ≤ w.heap.size + 1 + 1; omega) _⟩)
set_option maxRecDepth 100000 in
set_option maxHeartbeats 4000000 in
theorem rjoin_bad1 (A1 A2 : Option Addr) (c1 c2 : Nat) (a b : Crv) (w : World) (h1 : Spots w A1 a.n a.X a.Y) (hne : chkF a ≠ 0) :
    Calls Try.prog 50 #[.agg #[.slice A1 a.n c1], .agg #[.slice A2 b.n c2]] w fun e w' => e = .returned (.tuple #[.agg #[.slice none 0 0], .int .i64 (chkF a)]) ∧ Below w.heap.size w w' := by
  obtain ⟨W0, hW0, f1, f2, fR, hB⟩ := jn_boxes w (.slice A1 a.n c1) (.slice A2 b.n c2)
  have HC := Lib.hid (rcheck_any A1 c1 a _ (h1.below hB))
  obtain ⟨k, hk⟩ : ∃ k, k = chkF a := ⟨_, rfl⟩
  rw [← hk] at HC hne ⊢
  have hrb : (k == 0) = false := by simp [hne]
  have hrn : (k != 0) = true := by simp [hne]
  have k0 : W0.cell? ⟨w.heap.size, 0, none⟩ = some (.slice A1 a.n c1) := f1.cell 0
  have hW0' := Lib.hid hW0
  have l0 := f1.lt
  clear hk hne hW0 h1
  go_enter Try.func50, Try.ntmps50
  go_upto_region 1 with fail
  rw [← hW0'.out]
  clear hW0'
  go_wp2_with (go_at_call 21; (with_reducible refine HC.out.mono ?_); rintro e w6 ⟨rfl, hb6⟩; have ER := Lib.hid (box_step fR hb6); have q1 : w6.cell? ⟨w.heap.size + 1 + 1, 0, none⟩ = some (.slice none 0 0) := BoxAt.cell ER.out 0; have q2 : w6.frozen? ⟨w.heap.size + 1 + 1, 0, none⟩ = false := BoxAt.frozen ER.out 0)
  have hzz := (BoxAt.set ER.out 0 (.slice none 0 0)).cell 0
  have e5 : ((#[Value.slice none 0 0] : Array Value).setIfInBounds 0 (.slice none 0 0)) = #[.slice none 0 0] := rfl
  rw [e5] at hzz
  exact bodyPost_ret (v := .tuple #[.agg #[.slice none 0 0], .int .i64 k]) (by simp [results, Try.results50, go_sem, hzz]) rfl ⟨rfl, (below_step hB hb6).setCell (p := ⟨w.heap.size + 1 + 1, 0, none⟩) (by show w.heap.size ≤ w.heap.size + 1 + 1; omega) _⟩

set_option maxRecDepth 100000 in
set_option maxHeartbeats 4000000 in
theorem rjoin_bad2 (A1 A2 : Option Addr) (c1 c2 : Nat) (a b : Crv) (w : World) (h1 : Spots w A1 a.n a.X a.Y) (h2 : Spots w A2 b.n b.X b.Y) (hz : chkF a = 0) (hne : chkF b ≠ 0) :
    Calls Try.prog 50 #[.agg #[.slice A1 a.n c1], .agg #[.slice A2 b.n c2]] w fun e w' => e = .returned (.tuple #[.agg #[.slice none 0 0], .int .i64 (chkF b)]) ∧ Below w.heap.size w w' := by
  obtain ⟨W0, hW0, f1, f2, fR, hB⟩ := jn_boxes w (.slice A1 a.n c1) (.slice A2 b.n c2)
  have HC := Lib.hid (rcheck_any A1 c1 a _ (h1.below hB))
  rw [hz] at HC
  have HC2 := Lib.hid (fun W (hW : Spots W A2 b.n b.X b.Y) => rcheck_any A2 c2 b W hW)
  have HS2 := Lib.hid (h2.below hB)
  obtain ⟨k, hk⟩ : ∃ k, k = chkF b := ⟨_, rfl⟩
  rw [← hk] at HC2 hne ⊢
  have hrb : (k == 0) = false := by simp [hne]
  have hrn : (k != 0) = true := by simp [hne]
  have k0 : W0.cell? ⟨w.heap.size, 0, none⟩ = some (.slice A1 a.n c1) := f1.cell 0
  have hW0' := Lib.hid hW0
  have l0 := f1.lt
  clear hk hne hW0 h1 h2 hz
  go_enter Try.func50, Try.ntmps50
  go_upto_region 1 with fail
  rw [← hW0'.out]
  clear hW0'
  go_wp2_with (first
    | (go_at_call 21; (with_reducible refine HC.out.mono ?_); rintro e w1 ⟨rfl, hb1⟩; have F2 := box_step f2 hb1; have FR := box_step fR hb1; have k1 : w1.cell? ⟨w.heap.size + 1, 0, none⟩ = some (.slice A2 b.n c2) := F2.cell 0; have HS3 := Lib.hid (HS2.out.below hb1); replace hB := below_step hB hb1)
    | (go_at_call 21; (with_reducible refine (HC2.out _ HS3.out).mono ?_); rintro e w6 ⟨rfl, hb6⟩; have ER := Lib.hid (box_step FR hb6); have q1 : w6.cell? ⟨w.heap.size + 1 + 1, 0, none⟩ = some (.slice none 0 0) := BoxAt.cell ER.out 0; have q2 : w6.frozen? ⟨w.heap.size + 1 + 1, 0, none⟩ = false := BoxAt.frozen ER.out 0))
  have hzz := (BoxAt.set ER.out 0 (.slice none 0 0)).cell 0
  have e5 : ((#[Value.slice none 0 0] : Array Value).setIfInBounds 0 (.slice none 0 0)) = #[.slice none 0 0] := rfl
  rw [e5] at hzz
  exact bodyPost_ret (v := .tuple #[.agg #[.slice none 0 0], .int .i64 k]) (by simp [results, Try.results50, go_sem, hzz]) rfl ⟨rfl, (below_step hB hb6).setCell (p := ⟨w.heap.size + 1 + 1, 0, none⟩) (by show w.heap.size ≤ w.heap.size + 1 + 1; omega) _⟩

set_option maxRecDepth 100000 in
set_option maxHeartbeats 4000000 in
theorem rjoin_apart (b1 o1 c1 b2 o2 c2 : Nat) (a b : Crv) (ga : Good a) (gb : Good b) (hne : ¬ (a.X (a.n - 1) = b.X 0 ∧ a.Y (a.n - 1) = b.Y 0)) (w : World) (h1 : Pts w b1 o1 a.n a.X a.Y) (h2 : Pts w b2 o2 b.n b.X b.Y) :
    Calls Try.prog 50 #[cv b1 o1 a.n c1, cv b2 o2 b.n c2] w fun e w' => e = .returned (.tuple #[.agg #[.slice none 0 0], .int .i64 7]) ∧ Below w.heap.size w w' := by
  have na := ga.lo
  have na' := ga.hi
  have nb := gb.lo
  have nb' := gb.hi
  obtain ⟨W0, hW0, f1, f2, fR, hB⟩ := jn_boxes w (.slice (some ⟨b1, o1, none⟩) a.n c1) (.slice (some ⟨b2, o2, none⟩) b.n c2)
  have HP1 := Lib.hid (h1.below hB (h1.lt (by omega)))
  have HP2 := Lib.hid (h2.below hB (h2.lt (by omega)))
  have GA := Lib.hid ga
  have GB := Lib.hid gb
  have k0 : W0.cell? ⟨w.heap.size, 0, none⟩ = some (.slice (some ⟨b1, o1, none⟩) a.n c1) := f1.cell 0
  have l0 := f1.lt
  have hW0' := Lib.hid hW0
  have HNE := Lib.hid hne
  clear ga gb hW0 hne
  go_enter Try.func50, Try.ntmps50
  go_upto_region 1 with fail
  rw [← hW0'.out]
  clear hW0'
  go_upto_region 7 with (first
    | (go_at_call 21; (with_reducible refine (rcheck_good b1 o1 c1 a GA.out _ HP1.out).mono ?_); rintro e w1 ⟨rfl, hb1⟩; have F1 := box_step f1 hb1; have F2 := box_step f2 hb1; have FR := box_step fR hb1; have Q1 := Lib.hid (HP1.out.below hb1 (HP1.out.lt (by omega))); have Q2 := Lib.hid (HP2.out.below hb1 (HP2.out.lt (by omega))); replace hB := below_step hB hb1; have k1 : w1.cell? ⟨w.heap.size + 1, 0, none⟩ = some (.slice (some ⟨b2, o2, none⟩) b.n c2) := F2.cell 0)
    | (go_at_call 21; (with_reducible refine (rcheck_good b2 o2 c2 b GB.out _ Q2.out).mono ?_); rintro e w2 ⟨rfl, hb2⟩; have G1 := box_step F1 hb2; have G2 := box_step F2 hb2; have GR := box_step FR hb2; have R1 := Lib.hid (Q1.out.below hb2 (Q1.out.lt (by omega))); have R2 := Lib.hid (Q2.out.below hb2 (Q2.out.lt (by omega))); replace hB := below_step hB hb2))
  have m0 : w2.cell? ⟨w.heap.size, 0, none⟩ = some (.slice (some ⟨b1, o1, none⟩) a.n c1) := G1.cell 0
  have m1 : w2.cell? ⟨w.heap.size + 1, 0, none⟩ = some (.slice (some ⟨b2, o2, none⟩) b.n c2) := G2.cell 0
  obtain ⟨xa, ya⟩ := R1.out (a.n - 1) (by omega)
  obtain ⟨xb, yb⟩ := R2.out 0 (by omega)
  have hne := HNE.out
  clear HNE
  generalize a.X (a.n - 1) = xl at *
  generalize a.Y (a.n - 1) = yl at *
  generalize b.X 0 = xr at *
  generalize b.Y 0 = yr at *
  rw [Nat.zero_mul, Nat.add_zero] at xb yb
  have j2 : (0 : Int) ≤ (a.n : Int) - 1 := by omega
  have j3 : (a.n : Int) - 1 < (a.n : Int) := by omega
  have j4 : IntKind.i64.wrap ((a.n : Int) - 1) = (a.n : Int) - 1 := IntWalk.i64_in _ (by omega)
  have j5 : ((a.n : Int) - 1).toNat = a.n - 1 := by omega
  have j6 : (1 : Int) ≤ (a.n : Int) := by omega
  have j9 : 1 ≤ a.n := by omega
  have j10 : a.n - 1 < a.n := by omega
  have j11 : (0 : Int) < (b.n : Int) := by omega
  have j12 : 0 < b.n := by omega
  have z1 := G1.lt
  have z2 := G2.lt
  have z3 := R1.out.lt (by omega)
  have z4 := R2.out.lt (by omega)
  clear k0 k1 l0 f1 f2 fR F1 F2 FR HP1 HP2 Q1 Q2 hb1 hb2
  go_cut [34] from 22 to 34 (fun v w' => v = .bool true ∧ Below w2.heap.size w2 w')
  case first =>
    by_cases ex : xl = xr
    · subst ex
      have ey : ¬ yl = yr := fun h => hne ⟨rfl, h⟩
      have ey2 : (yl == yr) = false := by simp [ey]
      clear hne
      go_quiet (fail)
      go_wp2
      go_meet
      exact ⟨by simp [*], below_drewN (Below.refl _ _) _⟩
    · have ex2 : (xl == xr) = false := by simp [ex]
      clear hne
      go_quiet (fail)
      go_wp2
      go_meet
      exact ⟨by simp [*], below_drewN (Below.refl _ _) _⟩
  case rest =>
    obtain ⟨wd, rfl⟩ : ∃ x : World, x = wc := ⟨_, rfl⟩
    obtain ⟨rfl, hbd⟩ := hcut
    have DR := Lib.hid (box_step GR hbd)
    have hBd := Lib.hid (below_step hB hbd)
    have q1 : wd.cell? ⟨w.heap.size + 1 + 1, 0, none⟩ = some (.slice none 0 0) := BoxAt.cell DR.out 0
    have q2 : wd.frozen? ⟨w.heap.size + 1 + 1, 0, none⟩ = false := BoxAt.frozen DR.out 0
    go_wp2
    have hzz := (BoxAt.set DR.out 0 (.slice none 0 0)).cell 0
    have e5 : ((#[Value.slice none 0 0] : Array Value).setIfInBounds 0 (.slice none 0 0)) = #[.slice none 0 0] := rfl
    rw [e5] at hzz
    exact bodyPost_ret (v := .tuple #[.agg #[.slice none 0 0], .int .i64 7]) (by simp [results, Try.results50, go_sem, hzz]) rfl ⟨rfl, hBd.out.setCell (p := ⟨w.heap.size + 1 + 1, 0, none⟩) (by show w.heap.size ≤ w.heap.size + 1 + 1; omega) _⟩

/-- **Join of any two curves.** -/
theorem rjoin_any (A1 A2 : Option Addr) (c1 c2 : Nat) (a b : Crv) (w : World) (h1 : Spots w A1 a.n a.X a.Y) (h2 : Spots w A2 b.n b.X b.Y) (hc : b.n ≤ c2) :
    Calls Try.prog 50 #[.agg #[.slice A1 a.n c1], .agg #[.slice A2 b.n c2]] w (JoinPost a b w) := by
  by_cases ha : chkF a = 0
  · by_cases hb : chkF b = 0
    · have ga := good_of ha
      have gb := good_of hb
      obtain ⟨b1, o1, rfl, p1⟩ := h1 (by have := ga.lo; omega)
      obtain ⟨b2, o2, rfl, p2⟩ := h2 (by have := gb.lo; omega)
      by_cases hm : a.X (a.n - 1) = b.X 0 ∧ a.Y (a.n - 1) = b.Y 0
      · have hE : jErr a b = chkF (jn a b) := by unfold jErr; rw [if_neg (by simp [ha]), if_neg (by simp [hb]), if_neg (by simp [hm])]
        refine (rjoin_good b1 o1 c1 b2 o2 c2 a b ga gb hm.1 hm.2 hc w p1 p2).mono ?_
        rintro e w' (⟨hz, g, cap, he, hP, hB, hg⟩ | ⟨hz, he, hB⟩)
        · have hr : jRes a b = jn a b := by unfold jRes; rw [if_pos (hE.trans hz)]
          unfold JoinPost
          rw [hr, hE.trans hz]
          exact ⟨_, cap, he, fun _ => ⟨g, rfl, hg, hP⟩, hB⟩
        · exact join_err hE hz he hB
      · have hE : jErr a b = 7 := by unfold jErr; rw [if_neg (by simp [ha]), if_neg (by simp [hb]), if_pos hm]
        refine (rjoin_apart b1 o1 c1 b2 o2 c2 a b ga gb hm w p1 p2).mono ?_
        rintro e w' ⟨he, hB⟩
        exact join_err hE (by decide) he hB
    · have hE : jErr a b = chkF b := by unfold jErr; rw [if_neg (by simp [ha]), if_pos hb]
      refine (rjoin_bad2 A1 A2 c1 c2 a b w h1 h2 ha hb).mono ?_
      rintro e w' ⟨he, hB⟩
      exact join_err hE hb he hB
  · have hE : jErr a b = chkF a := by unfold jErr; rw [if_pos ha]
    refine (rjoin_bad1 A1 A2 c1 c2 a b w h1 ha).mono ?_
    rintro e w' ⟨he, hB⟩
    exact join_err hE ha he hB
end Go.Proofs.Ytglkpabcflecmaa
