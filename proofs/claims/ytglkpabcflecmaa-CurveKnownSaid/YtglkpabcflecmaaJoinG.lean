/- The program's Join of two valid curves, the second one of which begins where the first one ends. -/
import Derived.Test.YtglkpabcflecmaaCat
import Derived.Test.YtglkpabcflecmaaMvd
import Derived.Test.YtglkpabcflecmaaCks
namespace Go.Proofs.Ytglkpabcflecmaa
open Go.RowKit Go.Shelf

theorem jn_boxes (w : World) (s t : Value) :
    ∃ W0, W0 = (((w.alloc (.cells #[s] 24)).alloc (.cells #[t] 24)).alloc (.cells #[.slice none 0 0] 24)) ∧
      BoxAt W0 w.heap.size 24 #[s] ∧ BoxAt W0 (w.heap.size + 1) 24 #[t] ∧ BoxAt W0 (w.heap.size + 1 + 1) 24 #[.slice none 0 0] ∧ Below w.heap.size w W0 := by
  have h1 := BoxAt.new (w.alloc (.cells #[s] 24)) 24 #[t]
  have h2 := BoxAt.new ((w.alloc (.cells #[s] 24)).alloc (.cells #[t] 24)) 24 #[.slice none 0 0]
  simp only [World.size_alloc] at h1 h2
  exact ⟨_, rfl, ((BoxAt.new w 24 _).alloc _).alloc _, h1.alloc _, h2, (((Below.refl _ w).alloc (Nat.le_refl _) _).alloc (by simp) _).alloc (by simp; omega) _⟩

theorem jn_cat (a b : Crv) (ha : 2 ≤ a.n) (hb : 2 ≤ b.n) {W : World} {g : Nat} (h : Pts W g 0 (a.n + (b.n - 1)) (catF a.n a.X (fun i => b.X (i + 1))) (catF a.n a.Y (fun i => b.Y (i + 1)))) : Pts W g 0 (jn a b).n (jn a b).X (jn a b).Y := by
  intro i hi
  have hi2 : i < a.n + (b.n - 1) := by have : (jn a b).n = a.n + b.n - 1 := rfl; omega
  have e1 : catF a.n a.X (fun i => b.X (i + 1)) i = (jn a b).X i := by
    unfold catF jn; dsimp only
    by_cases h1 : i < a.n
    · rw [if_pos h1, if_pos h1]
    · rw [if_neg h1, if_neg h1, show i - a.n + 1 = i - (a.n - 1) by omega]
  have e2 : catF a.n a.Y (fun i => b.Y (i + 1)) i = (jn a b).Y i := by
    unfold catF jn; dsimp only
    by_cases h1 : i < a.n
    · rw [if_pos h1, if_pos h1]
    · rw [if_neg h1, if_neg h1, show i - a.n + 1 = i - (a.n - 1) by omega]
  rw [← e1, ← e2]
  exact h i hi2

theorem jn_catR (a b : Crv) (ha : 2 ≤ a.n) (hb : 2 ≤ b.n) {W : World} {g : Nat} (h : RowAt W g (a.n + (b.n - 1)) (catF a.n a.X (fun i => b.X (i + 1))) (catF a.n a.Y (fun i => b.Y (i + 1)))) : RowAt W g (jn a b).n (jn a b).X (jn a b).Y := ⟨jn_cat a b ha hb h.1, h.2⟩

/-- What a curve's Join leaves. -/
def JnPost (a b : Crv) (w : World) (e : Ending) (w' : World) : Prop :=
  (chkF (jn a b) = 0 ∧ ∃ g cap, e = .returned (.tuple #[cv g 0 (jn a b).n cap, .int .i64 0]) ∧ RowAt w' g (jn a b).n (jn a b).X (jn a b).Y ∧ Below w.heap.size w w' ∧ w.heap.size ≤ g) ∨
  (chkF (jn a b) ≠ 0 ∧ e = .returned (.tuple #[.agg #[.slice none 0 0], .int .i64 (chkF (jn a b))]) ∧ Below w.heap.size w w')

set_option maxRecDepth 100000 in
set_option maxHeartbeats 4000000 in
theorem join_good (b1 o1 c1 b2 o2 c2 : Nat) (a b : Crv) (ga : Good a) (gb : Good b) (hx : a.X (a.n - 1) = b.X 0) (hy : a.Y (a.n - 1) = b.Y 0) (hc2 : b.n ≤ c2) (w : World) (h1 : Pts w b1 o1 a.n a.X a.Y) (h2 : Pts w b2 o2 b.n b.X b.Y) :
    Calls Try.prog 49 #[cv b1 o1 a.n c1, cv b2 o2 b.n c2] w (JnPost a b w) := by
  have na := ga.lo
  have na' := ga.hi
  have nb := gb.lo
  have nb' := gb.hi
  obtain ⟨W0, hW0, f1, f2, fR, hB⟩ := jn_boxes w (.slice (some ⟨b1, o1, none⟩) a.n c1) (.slice (some ⟨b2, o2, none⟩) b.n c2)
  have HP1 := Lib.hid (h1.below hB (h1.lt (by omega)))
  have HP2 := Lib.hid (h2.below hB (h2.lt (by omega)))
  have GA := Lib.hid ga
  have GB := Lib.hid gb
  have HX := Lib.hid hx
  have HY := Lib.hid hy
  have k0 : W0.cell? ⟨w.heap.size, 0, none⟩ = some (.slice (some ⟨b1, o1, none⟩) a.n c1) := f1.cell 0
  have l0 := f1.lt
  have hW0' := Lib.hid hW0
  clear hx hy ga gb hW0
  go_enter Try.func49, Try.ntmps49
  go_upto_region 1 with fail
  rw [← hW0'.out]
  clear hW0'
  go_upto_region 7 with (first
    | (go_at_call 20; (with_reducible refine (check_good b1 o1 c1 a GA.out _ HP1.out).mono ?_); rintro e w1 ⟨rfl, hb1⟩; have F1 := box_step f1 hb1; have F2 := box_step f2 hb1; have FR := box_step fR hb1; have Q1 := Lib.hid (HP1.out.below hb1 (HP1.out.lt (by omega))); have Q2 := Lib.hid (HP2.out.below hb1 (HP2.out.lt (by omega))); replace hB := below_step hB hb1; have k1 : w1.cell? ⟨w.heap.size + 1, 0, none⟩ = some (.slice (some ⟨b2, o2, none⟩) b.n c2) := F2.cell 0)
    | (go_at_call 20; (with_reducible refine (check_good b2 o2 c2 b GB.out _ Q2.out).mono ?_); rintro e w2 ⟨rfl, hb2⟩; have G1 := box_step F1 hb2; have G2 := box_step F2 hb2; have GR := box_step FR hb2; have R1 := Lib.hid (Q1.out.below hb2 (Q1.out.lt (by omega))); have R2 := Lib.hid (Q2.out.below hb2 (Q2.out.lt (by omega))); replace hB := below_step hB hb2))
  have m0 : w2.cell? ⟨w.heap.size, 0, none⟩ = some (.slice (some ⟨b1, o1, none⟩) a.n c1) := G1.cell 0
  have m1 : w2.cell? ⟨w.heap.size + 1, 0, none⟩ = some (.slice (some ⟨b2, o2, none⟩) b.n c2) := G2.cell 0
  obtain ⟨xa, ya⟩ := R1.out (a.n - 1) (by omega)
  obtain ⟨xb, yb⟩ := R2.out 0 (by omega)
  rw [HX.out] at xa
  rw [HY.out] at ya
  obtain ⟨xl, hxl⟩ : ∃ z, z = b.X 0 := ⟨_, rfl⟩
  obtain ⟨yl, hyl⟩ : ∃ z, z = b.Y 0 := ⟨_, rfl⟩
  rw [← hxl] at xa xb
  rw [← hyl] at ya yb
  clear hxl hyl
  rw [Nat.zero_mul, Nat.add_zero] at xb yb
  have j2 : (0 : Int) ≤ (a.n : Int) - 1 := by omega
  have j3 : (a.n : Int) - 1 < (a.n : Int) := by omega
  have j4 : IntKind.i64.wrap ((a.n : Int) - 1) = (a.n : Int) - 1 := IntWalk.i64_in _ (by omega)
  have j5 : ((a.n : Int) - 1).toNat = a.n - 1 := by omega
  have j6 : (1 : Int) ≤ (a.n : Int) := by omega
  have j9 : 1 ≤ a.n := by omega
  have j10 : a.n - 1 < a.n := by omega
  have j11 : (0 : Int) < (b.n : Int) := by omega
  have j12 : 0 < b.n := by omega
  have z1 := G1.lt
  have z2 := G2.lt
  have z3 := R1.out.lt (by omega)
  have z4 := R2.out.lt (by omega)
  clear k0 k1 l0 f1 f2 fR F1 F2 FR HP1 HP2 Q1 Q2 hb1 hb2
  go_cut [34] from 22 to 34 (fun v w' => v = .bool false ∧ Below w2.heap.size w2 w')
  case first =>
    go_quiet (fail)
    go_wp2
    go_meet
    exact ⟨rfl, below_drewN (Below.refl _ _) _⟩
  case rest =>
    obtain ⟨wd, rfl⟩ : ∃ x : World, x = wc := ⟨_, rfl⟩
    obtain ⟨rfl, hbd⟩ := hcut
    have D1 := box_step G1 hbd
    have D2 := box_step G2 hbd
    have DR := Lib.hid (box_step GR hbd)
    have P1 := Lib.hid (R1.out.below hbd z3)
    have P2 := Lib.hid (R2.out.below hbd z4)
    have hBd := Lib.hid (below_step hB hbd)
    have P3 : Hid (Pts wd b2 (o2 + 2) (b.n - 1) (fun i => b.X (i + 1)) (fun i => b.Y (i + 1))) := fun i hi => by
      obtain ⟨x0, x1⟩ := P2.out (i + 1) (by omega)
      rw [show o2 + (i + 1) * 2 = o2 + 2 + i * 2 by omega] at x0 x1
      exact ⟨x0, x1⟩
    have d0 : wd.cell? ⟨w.heap.size, 0, none⟩ = some (.slice (some ⟨b1, o1, none⟩) a.n c1) := D1.cell 0
    have d1 : wd.cell? ⟨w.heap.size + 1, 0, none⟩ = some (.slice (some ⟨b2, o2, none⟩) b.n c2) := D2.cell 0
    have y1 := D1.lt
    have y2 := D2.lt
    have y3 := P1.out.lt (by omega)
    have y4 := P3.out.lt (by omega)
    have hc3 : ¬ c2 = 1 := by omega
    have hc4 : 1 ≤ b.n := by omega
    have hc5 : (1 : Int) ≤ (b.n : Int) := by omega
    obtain ⟨N, hN⟩ : ∃ N, N = a.n + (b.n - 1) := ⟨_, rfl⟩
    have HE := Lib.hid (fun W (q1 : Pts W b1 o1 a.n a.X a.Y) (q2 : Pts W b2 (o2 + 2) (b.n - 1) (fun i => b.X (i + 1)) (fun i => b.Y (i + 1))) => ext_two b1 o1 c1 a.n b2 (o2 + 2) (c2 - 1) (b.n - 1) a.X a.Y _ _ W q1 q2 (by omega) (by omega) (by omega) (by omega))
    rw [← hN] at HE
    have HNN := Lib.hid hN
    clear hN m0 m1 xa xb ya yb j2 j3 j4 j5 j6 j9 j10 j11 j12 z1 z2 z3 z4 G1 G2 GR R1 R2 D1 D2 hB hbd P2
    go_upto_region 9 with fail
    go_cut [8] from 36 to 40 (fun v w' => ∃ L g cap, v = .pointer (some ⟨L, 0, none⟩) ∧ BoxAt w' L 24 #[.slice (some ⟨g, 0, none⟩) N cap] ∧ Hid (RowAt w' g N (catF a.n a.X (fun i => b.X (i + 1))) (catF a.n a.Y (fun i => b.Y (i + 1)))) ∧ Below wd.heap.size wd w' ∧ wd.heap.size ≤ g)
    case first =>
      go_region_held3 (fun w' => w'.cell? ⟨w.heap.size, 0, none⟩ = some (.slice (some ⟨b1, o1, none⟩) a.n c1) ∧ w'.cell? ⟨w.heap.size + 1, 0, none⟩ = some (.slice (some ⟨b2, o2, none⟩) b.n c2))
        (first | (refine ⟨?_, ?_⟩ <;> (refine (Below.cell (w := wd) (B := wd.heap.size) ?_ (by assumption)).trans (by assumption); (repeat (first | (with_reducible exact Below.refl _ _) | ((with_reducible refine bset ?_ ?_ _); (first | exact Nat.le_refl _ | omega | (simp; omega) | simp)) | ((with_reducible refine balloc ?_ ?_ _); (first | exact Nat.le_refl _ | omega | (simp; omega) | simp)) | (with_reducible refine Below.drew ?_) | (with_reducible refine below_step ?_ hb5))))) | go_keep)
        (first
          | (go_at_call 87; (with_reducible refine Calls.mono (HE.out _ ?_ ?_) ?_); (exact P1.out.below (by (repeat (first | (with_reducible exact Below.refl _ _) | ((with_reducible refine balloc ?_ ?_ _); (first | exact Nat.le_refl _ | omega | (simp; omega) | simp)) | (with_reducible refine Below.drew ?_)))) y3); (exact P3.out.below (by (repeat (first | (with_reducible exact Below.refl _ _) | ((with_reducible refine balloc ?_ ?_ _); (first | exact Nat.le_refl _ | omega | (simp; omega) | simp)) | (with_reducible refine Below.drew ?_)))) y4); rintro e w5 ⟨g, cap, rfl, hg, hP, hb5⟩; have HP5 := Lib.hid hP; clear hP; have hz5 := hb5.size; (try simp at hz5); (try simp at hg); obtain ⟨hc7, hf7⟩ := bcell hb5))
      all_goals go_wp2
      all_goals go_meet
      · exact ⟨_, g, cap, rfl, BoxAt.new _ _ _, HP5.out.below ((Below.refl _ _).alloc (Nat.le_refl _) _), (below_step ((Below.refl _ wd).drew) hb5).alloc hz5 _, hg⟩
      · have x0 : BoxAt w5 wd.heap.size 24 #[.slice none 0 0] := BoxAt.below (w := (wd.alloc (.cells #[.slice none 0 0] 24)).drew) (BoxAt.new wd 24 _) hb5 (by simp)
        have x1 : Below wd.heap.size wd w5 := below_step (((Below.refl _ wd).alloc (Nat.le_refl _) (.cells #[.slice none 0 0] 24)).drew) hb5
        exact ⟨_, g, cap, rfl, x0.set 0 _, HP5.out.other (by omega) 0 _, x1.setCell (p := ⟨wd.heap.size, 0, none⟩) (Nat.le_refl _) _, by omega⟩
    case rest =>
      obtain ⟨we, rfl⟩ : ∃ x : World, x = wc := ⟨_, rfl⟩
      obtain ⟨L, g, cap, rfl, hbox, HPc, hbe, hge⟩ := hcut
      have hJ := Lib.hid (jn_catR a b na nb (HNN.out ▸ HPc.out))
      have hn : (jn a b).n = N := by rw [HNN.out]; show a.n + b.n - 1 = _; omega
      have hBe := Lib.hid (below_step hBd.out hbe)
      have DR2 := Lib.hid (box_step DR.out hbe)
      obtain ⟨k, hk⟩ : ∃ k, k = chkF (jn a b) := ⟨_, rfl⟩
      have HC := Lib.hid (fun W (hW : Pts W g 0 (jn a b).n (jn a b).X (jn a b).Y) => check_any (some ⟨g, 0, none⟩) cap (jn a b) W (fun _ => ⟨g, 0, rfl, hW⟩))
      rw [← hk, hn] at HC
      rw [hn] at hJ
      have c0 : we.cell? ⟨L, 0, none⟩ = some (.slice (some ⟨g, 0, none⟩) N cap) := hbox.cell 0
      have HK := Lib.hid hk
      have HNJ := Lib.hid hn
      have hgw : Hid (w.heap.size ≤ g) := by show _ ≤ _; have := hBd.out.size; omega
      have lg : g < we.heap.size := hJ.out.lt
      have lD := DR2.out.lt
      have hgR : Hid (g ≠ w.heap.size + 1 + 1) := by show g ≠ _; have := DR.out.lt; omega
      clear hk hn d0 d1 y1 y2 y3 y4 hc3 hc4 hc5 P1 P3 HE HPc hbe hge DR
      by_cases hz : k = 0
      · subst hz
        go_wp2_with (go_at_call 20; (with_reducible refine (HC.out _ hJ.out.pts).mono ?_); rintro e w6 ⟨rfl, hb6⟩; have E1 := box_step hbox hb6; have ER := Lib.hid (box_step DR2.out hb6); have q0 : w6.cell? ⟨L, 0, none⟩ = some (.slice (some ⟨g, 0, none⟩) N cap) := E1.cell 0; have q1 : w6.cell? ⟨w.heap.size + 1 + 1, 0, none⟩ = some (.slice none 0 0) := BoxAt.cell ER.out 0; have q2 : w6.frozen? ⟨w.heap.size + 1 + 1, 0, none⟩ = false := BoxAt.frozen ER.out 0)
        have hzz := (BoxAt.set ER.out 0 (.slice (some ⟨g, 0, none⟩) N cap)).cell 0
        have e5 : ((#[Value.slice none 0 0] : Array Value).setIfInBounds 0 (.slice (some ⟨g, 0, none⟩) N cap)) = #[.slice (some ⟨g, 0, none⟩) N cap] := rfl
        rw [e5] at hzz
        refine bodyPost_ret (v := .tuple #[cv g 0 N cap, .int .i64 0]) (by simp [results, Try.results49, go_sem, hzz]) rfl (.inl ⟨HK.out.symm, g, cap, by rw [HNJ.out], ?_, (below_step hBe.out hb6).setCell (p := ⟨w.heap.size + 1 + 1, 0, none⟩) (by show w.heap.size ≤ w.heap.size + 1 + 1; omega) _, hgw.out⟩)
        rw [HNJ.out]
        exact (hJ.out.below hb6).other hgR.out 0 _
      · have hrb : (k == 0) = false := by simp [hz]
        have hrn : (k != 0) = true := by simp [hz]
        have HZ := Lib.hid hz
        clear hz
        go_wp2_with (go_at_call 20; (with_reducible refine (HC.out _ hJ.out.pts).mono ?_); rintro e w6 ⟨rfl, hb6⟩; have ER := Lib.hid (box_step DR2.out hb6); have q1 : w6.cell? ⟨w.heap.size + 1 + 1, 0, none⟩ = some (.slice none 0 0) := BoxAt.cell ER.out 0; have q2 : w6.frozen? ⟨w.heap.size + 1 + 1, 0, none⟩ = false := BoxAt.frozen ER.out 0)
        have hzz := (BoxAt.set ER.out 0 (.slice none 0 0)).cell 0
        have e5 : ((#[Value.slice none 0 0] : Array Value).setIfInBounds 0 (.slice none 0 0)) = #[.slice none 0 0] := rfl
        rw [e5] at hzz
        exact bodyPost_ret (v := .tuple #[.agg #[.slice none 0 0], .int .i64 k]) (by simp [results, Try.results49, go_sem, hzz]) rfl (.inr ⟨fun h => HZ.out (HK.out.trans h), by rw [HK.out], (below_step hBe.out hb6).setCell (p := ⟨w.heap.size + 1 + 1, 0, none⟩) (by show w.heap.size ≤ w.heap.size + 1 + 1; omega) _⟩)
end Go.Proofs.Ytglkpabcflecmaa
