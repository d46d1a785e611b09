/- The kit's 'Curve': a curve that is made of numbers. -/
import Derived.Test.YtglkpabcflecmaaKMod
import Derived.Test.YtglkpabcflecmaaCks
import Derived.BigQuiet
namespace Go.Proofs.Ytglkpabcflecmaa
open Go.RowKit Go.Shelf

/-- Steps in memory. -/
def Stps (w : World) (A : Option Addr) (m : Nat) (S : Nat → Int) : Prop := 0 < m → ∃ b off, A = some ⟨b, off, none⟩ ∧ ∀ i, i < m → w.cell? ⟨b, off + i, none⟩ = some (.int .i64 (S i))
theorem Stps.below {w w' : World} {A : Option Addr} {m : Nat} {S : Nat → Int} (h : Stps w A m S) (hb : Below w.heap.size w w') : Stps w' A m S := fun hn => by
  obtain ⟨b, off, e, hp⟩ := h hn
  have hlt : b < w.heap.size := World.block_lt_of_cell? w _ (hp 0 hn)
  exact ⟨b, off, e, fun i hi => (hb.cell (p := ⟨b, off + i, none⟩) hlt).trans (hp i hi)⟩
abbrev chv (x y : Int) (A : Option Addr) (m cap : Nat) : Value := .agg #[.int .i64 x, .int .i64 y, .slice A m cap]
/-- What the kit's Curve leaves. -/
def CurPost (m : Nat) (S : Nat → Int) (x y : Int) (w : World) (e : Ending) (w' : World) : Prop := ∃ g c', e = .returned (cv g 0 (chN m) c') ∧ Pts w' g 0 (chN m) (chX x m S) (chY y m S) ∧ Below w.heap.size w w' ∧ w.heap.size ≤ g

theorem grownBy_set (W : World) (b i : Nat) (v : Value) : W.grownBy (W.setCell ⟨b, i, none⟩ v) (some b) :=
  ⟨(Below.setCell (B := 0) (p := ⟨b, i, none⟩) (Below.refl 0 W) (Nat.zero_le _) v).os, (Below.setCell (B := 0) (p := ⟨b, i, none⟩) (Below.refl 0 W) (Nat.zero_le _) v).tape, (Below.setCell (B := 0) (p := ⟨b, i, none⟩) (Below.refl 0 W) (Nat.zero_le _) v).output, by simp, fun j _ hne => Below.heap_setCell _ _ _ _ (fun e => hne (by rw [e]))⟩
theorem box_ne_row {w : World} {B : Nat} {t : TypeId} {cs : Array Value} {base : Nat} {e : TypeId} {size : Nat} {v : Value} {k : Nat} {xs : List Value} (h : BoxAt w B t cs) (hne : t ≠ e) (ho : w.ownsRow base e size v k xs) : some B ≠ v.ownBlock := fun he => by
  rcases ho.2 with ⟨rfl, _⟩ | ⟨g, cap', cur, rfl, _, hgb, _⟩
  · simp [Value.ownBlock] at he
  · obtain rfl : B = g := by simpa [Value.ownBlock] using he
    have := (show w.heap[B]? = _ from h).symm.trans hgb
    simp at this
    exact hne this.2
theorem chN_cases (m : Nat) : (m = 0 → chN m - 1 = 1) ∧ (0 < m → m < 5 → chN m - 1 = m) ∧ (5 ≤ m → chN m - 1 = 5) := by
  unfold chN
  refine ⟨fun h => by rw [if_pos h], fun h h' => by rw [if_neg (by omega), if_pos h']; omega, fun h => by rw [if_neg (by omega), if_neg (by omega)]⟩
/-- What a round keeps. -/
def KInv (x y : Int) (A : Option Addr) (m cap : Nat) (S : Nat → Int) (x0 y0 : Int) (w : World) (k : Nat) (wr : World) : Prop :=
  ∃ v, BoxAt wr w.heap.size 37 #[.int .i64 x, .int .i64 y, .slice A m cap] ∧ BoxAt wr (w.heap.size + 1) 24 #[.slice none 0 0] ∧ BoxAt wr (w.heap.size + 1 + 1) 43 #[.int .i64 (chX x0 m S k), .int .i64 (chY y0 m S k)] ∧
    BoxAt wr (w.heap.size + 1 + 1 + 1 + 1) 24 #[v] ∧ BoxAt wr (w.heap.size + 1 + 1 + 1 + 1 + 1) 88 triCells ∧ wr.ownsRow (w.heap.size + 3) 43 2 v (k + 1) (cellsL (chX x0 m S) (chY y0 m S) (k + 1)) ∧ Below w.heap.size w wr

theorem kinv_start (x y : Int) (A : Option Addr) (m cap : Nat) (S : Nat → Int) (x0 y0 : Int) (w : World) :
    KInv x y A m cap S x0 y0 w 0 ((((((w.alloc (.cells #[.int .i64 x, .int .i64 y, .slice A m cap] 37)).alloc (.cells #[.slice none 0 0] 24)).alloc (.cells #[.int .i64 x0, .int .i64 y0] 43)).alloc (.cells #[.int .i64 x0, .int .i64 y0] 43)).alloc
      (.cells #[.slice (some ⟨w.heap.size + 1 + 1 + 1, 0, none⟩) 1 1] 24)).alloc (.cells triCells 88)) := by
  have h2 := BoxAt.new ((w.alloc (.cells #[.int .i64 x, .int .i64 y, .slice A m cap] 37)).alloc (.cells #[.slice none 0 0] 24)) 43 #[.int .i64 x0, .int .i64 y0]
  have h1 := BoxAt.new (w.alloc (.cells #[.int .i64 x, .int .i64 y, .slice A m cap] 37)) 24 #[.slice none 0 0]
  have h4 := BoxAt.new ((((w.alloc (.cells #[.int .i64 x, .int .i64 y, .slice A m cap] 37)).alloc (.cells #[.slice none 0 0] 24)).alloc (.cells #[.int .i64 x0, .int .i64 y0] 43)).alloc (.cells #[.int .i64 x0, .int .i64 y0] 43)) 24 #[.slice (some ⟨w.heap.size + 1 + 1 + 1, 0, none⟩) 1 1]
  have h5 := BoxAt.new (((((w.alloc (.cells #[.int .i64 x, .int .i64 y, .slice A m cap] 37)).alloc (.cells #[.slice none 0 0] 24)).alloc (.cells #[.int .i64 x0, .int .i64 y0] 43)).alloc (.cells #[.int .i64 x0, .int .i64 y0] 43)).alloc (.cells #[.slice (some ⟨w.heap.size + 1 + 1 + 1, 0, none⟩) 1 1] 24)) 88 triCells
  simp only [World.size_alloc] at h1 h2 h4 h5
  have h3 := World.ownsRow_lit (base := w.heap.size + 3) (e := 43) (size := 2) (((w.alloc (.cells #[.int .i64 x, .int .i64 y, .slice A m cap] 37)).alloc (.cells #[.slice none 0 0] 24)).alloc (.cells #[.int .i64 x0, .int .i64 y0] 43)) #[.int .i64 x0, .int .i64 y0] 1 (by simp) (by decide) rfl
  refine ⟨_, (((((BoxAt.new w 37 _).alloc _).alloc _).alloc _).alloc _).alloc _, (((h1.alloc _).alloc _).alloc _).alloc _, ((h2.alloc _).alloc _).alloc _, h4.alloc _, h5, ?_, ?_⟩
  · have := (h3.alloc (.cells #[.slice (some ⟨w.heap.size + 1 + 1 + 1, 0, none⟩) 1 1] 24)).alloc (.cells triCells 88)
    simpa [cellsL, chX, chY, World.size_alloc] using this
  · exact ((((((Below.refl _ w).alloc (Nat.le_refl _) _).alloc (by simp) _).alloc (by simp; omega) _).alloc (by simp; omega) _).alloc (by simp; omega) _).alloc (by simp; omega) _

set_option maxRecDepth 100000 in
set_option maxHeartbeats 4000000 in
theorem kcur_any (x y : Int) (A : Option Addr) (m cap : Nat) (S : Nat → Int) (w : World) (hS : Stps w A m S) :
    Calls Try.prog 28 #[chv x y A m cap] w (CurPost m S (x.tmod 20001) (y.tmod 20001) w) := by
  obtain ⟨i0, hi0, hz0, hz1, hz2⟩ := info_parts Try.info43
  have hI0 := Lib.hid hi0
  have hZ0 := Lib.hid hz0
  have hZ1 := Lib.hid hz1
  have hZ2 := Lib.hid hz2
  clear hi0 hz0 hz1 hz2
  obtain ⟨_, _, hx1, hx2⟩ := tmod_cases x 20001 (by decide)
  obtain ⟨_, _, hy1, hy2⟩ := tmod_cases y 20001 (by decide)
  obtain ⟨x0, hx0⟩ : ∃ z, x.tmod 20001 = z := ⟨_, rfl⟩
  obtain ⟨y0, hy0⟩ : ∃ z, y.tmod 20001 = z := ⟨_, rfl⟩
  rw [hx0] at hx1 hx2 ⊢
  rw [hy0] at hy1 hy2 ⊢
  have hI := Lib.hid (kinv_start x y A m cap S x0 y0 w)
  obtain ⟨q0, hq0⟩ : ∃ z, z = quarter m S := ⟨_, rfl⟩
  go_enter Try.func28, Try.ntmps28
  go_upto_region 5 with (go_at_call 66; (with_reducible refine (triples_any _).mono ?_); rintro e w1 ⟨rfl, rfl⟩)
  generalize ((((((w.alloc (.cells #[.int .i64 x, .int .i64 y, .slice A m cap] 37)).alloc (.cells #[.slice none 0 0] 24)).alloc (.cells #[.int .i64 x0, .int .i64 y0] 43)).alloc (.cells #[.int .i64 x0, .int .i64 y0] 43)).alloc
      (.cells #[.slice (some ⟨w.heap.size + 1 + 1 + 1, 0, none⟩) 1 1] 24)).alloc (.cells triCells 88)) = w0 at *
  obtain ⟨v0, b0, b1, b2, b4, b5, hrow, hB⟩ := hI.out
  have k0 : w0.cell? ⟨w.heap.size, 2, none⟩ = some (.slice A m cap) := b0.cell 2
  go_upto_if 27 with fail
  go_cut [6] from 24 to 32 (fun v w' => v = .int .i64 (firstK m S) ∧ w' = w0)
  case first =>
    rcases Nat.eq_zero_or_pos m with hm | hm
    · subst hm
      go_wp2
      go_meet
      exact ⟨rfl, rfl⟩
    · obtain ⟨b, off, rfl, hL⟩ := (hS.below (hB.mono (Nat.le_refl _))) hm
      have e : firstK m S = S 0 % 48 := by unfold firstK; rw [if_pos hm]
      have s0 : w0.cell? ⟨b, off, none⟩ = some (.int .i64 (S 0)) := hL 0 hm
      have hm' : (0 : Int) < (m : Int) := by omega
      go_wp2_with (go_at_call 67; (with_reducible refine (mod_any (S 0) 48 _ (by decide) (by decide)).mono ?_); rintro e w1 ⟨rfl, rfl⟩)
      go_meet
      exact ⟨by rw [e], rfl⟩
  case rest =>
    obtain ⟨wd, rfl⟩ : ∃ z : World, z = wc := ⟨_, rfl⟩
    obtain ⟨rfl, rfl⟩ := hcut
    clear v0 b0 b1 b2 b4 b5 hrow hB k0
    obtain ⟨f0, hf0⟩ : ∃ z, z = firstK m S := ⟨_, rfl⟩
    have hf := firstK_bd m S
    have hQ : Hid (q0 = quarter m S) := hq0
    have hq4 := quarter_lt m S
    rw [← hf0] at hf ⊢
    have hfq : f0.tmod 4 = (q0 : Int) := by
      rw [hq0, Int.tmod_eq_emod_of_nonneg hf.1]
      unfold quarter
      rw [← hf0]
      have := Int.emod_nonneg f0 (show (4:Int) ≠ 0 by decide)
      omega
    rw [← hq0] at hq4
    clear hf0 hq0
    go_wp2
    go_loopw [7] (fun i wr => ∃ k : Nat, k ≤ chN m - 1 ∧ i = .int .i64 k ∧ KInv x y A m cap S x0 y0 w k wr) (fun i _ => 10 - (intOf i).toNat)
    case atStart => exact ⟨0, Nat.zero_le _, rfl, hI.out⟩
    case round =>
      clear hI
      obtain ⟨k, hk, rfl, hK⟩ := hrel
      obtain ⟨t, ht⟩ : ∃ t, t = decide (k < chN m - 1) := ⟨_, rfl⟩
      have hT := Lib.hid ht
      clear ht
      have k0 : wr.cell? ⟨w.heap.size, 2, none⟩ = some (.slice A m cap) := by obtain ⟨v, b0, _⟩ := hK; exact b0.cell 2
      go_upto_region 8 with fail
      go_cut [39] from 33 to 106 (fun v w' => v = .bool t ∧ w' = wr)
      case first =>
        have HK := Lib.hid hK
        clear hK
        have hm0 : (0 : Int) ≤ (m : Int) := by omega
        have hM := chN_cases m
        by_cases h1 : (m : Int) = 0
        · have hk1 : chN m - 1 = 1 := by omega
          rw [hk1] at hT hk
          go_wp2
          go_meet
          exact ⟨congrArg Value.bool ((decide_eq_decide.2 (by omega)).trans hT.out.symm), rfl⟩
        · by_cases h2 : (m : Int) < 5
          · have hk1 : chN m - 1 = m := by omega
            rw [hk1] at hT hk
            go_wp2
            all_goals go_meet
            all_goals exact ⟨congrArg Value.bool ((decide_eq_decide.2 (by omega)).trans hT.out.symm), rfl⟩
          · have hk1 : chN m - 1 = 5 := by omega
            rw [hk1] at hT hk
            go_wp2
            all_goals go_meet
            all_goals exact ⟨congrArg Value.bool ((decide_eq_decide.2 (by omega)).trans hT.out.symm), rfl⟩
      case rest =>
        obtain ⟨rfl, rfl⟩ := hcut
        obtain ⟨wr, rfl⟩ : ∃ z : World, z = wc := ⟨_, rfl⟩
        obtain ⟨v, b0, b1, b2, b4, b5, hrow, hB⟩ := hK
        have HO := Lib.hid hrow
        clear hrow
        cases t with
        | false =>
          have hkM : k + 1 = chN m := by have := hT.out; simp at this; have := chN_bd m; omega
          have hown := HO.out
          rw [hkM] at hown
          obtain ⟨g, cap', rfl, hg1, hg2⟩ := hown.form (by have := chN_bd m; omega)
          have hP := Pts.of_own hown
          have c4 : wr.cell? ⟨w.heap.size + 1 + 1 + 1 + 1, 0, none⟩ = some (.slice (some ⟨g, 0, none⟩) (chN m) cap') := b4.cell 0
          have c1 : wr.cell? ⟨w.heap.size + 1, 0, none⟩ = some (.slice none 0 0) := b1.cell 0
          have f1 : wr.frozen? ⟨w.heap.size + 1, 0, none⟩ = false := b1.frozen 0
          have HP := Lib.hid hP
          clear hown HO hP hT hkM
          go_wp2
          have hz := (b1.set 0 (.slice (some ⟨g, 0, none⟩) (chN m) cap'))
          have z0 := hz.cell 0
          have e : ((#[Value.slice none 0 0] : Array Value).setIfInBounds 0 (.slice (some ⟨g, 0, none⟩) (chN m) cap')) = #[.slice (some ⟨g, 0, none⟩) (chN m) cap'] := rfl
          rw [e] at z0
          have hgne : g ≠ w.heap.size + 1 := by omega
          have hP2 : Pts (wr.setCell ⟨w.heap.size + 1, 0, none⟩ (.slice (some ⟨g, 0, none⟩) (chN m) cap')) g 0 (chN m) (chX x0 m S) (chY y0 m S) := fun i hi => by
            have h1 := HP.out i hi
            have far : ∀ j, (wr.setCell ⟨w.heap.size + 1, 0, none⟩ (.slice (some ⟨g, 0, none⟩) (chN m) cap')).cell? ⟨g, j, none⟩ = wr.cell? ⟨g, j, none⟩ := fun j => World.cell?_of_block (Below.heap_setCell _ _ _ _ hgne)
            exact ⟨(far _).trans h1.1, (far _).trans h1.2⟩
          exact bodyPost_ret (v := cv g 0 (chN m) cap') (by simp [results, Try.results28, go_sem, z0]) rfl ⟨g, cap', rfl, hP2, hB.setCell (p := ⟨w.heap.size + 1, 0, none⟩) (by simp) _, by omega⟩
        | true =>
          have hlt : k < chN m - 1 := by have := hT.out; simpa using this
          clear hT
          go_upto_if 46 with fail
          obtain ⟨N, hN⟩ : ∃ z, z = stepK m S k := ⟨_, rfl⟩
          go_cut [8] from 33 to 106 (fun v w' => v = .int .i64 N ∧ w' = wr)
          case first =>
            by_cases hkm : k < m
            · obtain ⟨b, off, rfl, hL⟩ := (hS.below hB) (by omega)
              have e : N = S k % 1048576 := by rw [hN]; unfold stepK; rw [if_pos hkm]
              have s0 : wr.cell? ⟨b, off + k, none⟩ = some (.int .i64 (S k)) := hL k hkm
              have i1 : (0 : Int) ≤ (k : Int) := Int.natCast_nonneg _
              have i2 : (k : Int) < (m : Int) := by omega
              go_wp2_with (go_at_call 67; (with_reducible refine (mod_any (S k) 1048576 _ (by decide) (by decide)).mono ?_); rintro e w1 ⟨rfl, rfl⟩)
              go_meet
              exact ⟨by rw [e], rfl⟩
            · have e : N = 0 := by rw [hN]; unfold stepK; rw [if_neg hkm]
              have i2 : ¬ (k : Int) < (m : Int) := by omega
              go_wp2
              go_meet
              exact ⟨by rw [e], rfl⟩
          case rest =>
            obtain ⟨rfl, rfl⟩ := hcut
            obtain ⟨wo, rfl⟩ : ∃ z : World, z = wc := ⟨_, rfl⟩
            have hNb := stepK_bd m S k
            rw [← hN] at hNb
            obtain ⟨r, hr⟩ : ∃ z, z = (N % 11).toNat := ⟨_, rfl⟩
            have r0 := Int.emod_nonneg N (show (11:Int) ≠ 0 by decide)
            have r1 := Int.emod_lt_of_pos N (show (0:Int) < 11 by decide)
            have er : N.tmod 11 = (r : Int) := by rw [Int.tmod_eq_emod_of_nonneg hNb.1, hr]; omega
            have hr11 : r < 11 := by omega
            obtain ⟨t0, t1, t2⟩ := tri_cells b5 r hr11
            rw [Nat.zero_add] at t0 t1 t2
            obtain ⟨d0, hd0⟩ : ∃ z, z = tri0 r := ⟨_, rfl⟩
            obtain ⟨d1, hd1⟩ : ∃ z, z = tri1 r := ⟨_, rfl⟩
            obtain ⟨d2, hd2⟩ : ∃ z, z = tri2 r := ⟨_, rfl⟩
            have hok := tri_ok r
            rw [← hd0, ← hd1, ← hd2] at hok
            rw [← hd0] at t0
            rw [← hd1] at t1
            rw [← hd2] at t2
            obtain ⟨o1, o2, o3, o4, o5, o6, _⟩ := hok
            have u0 : 0 ≤ N / 11 := Int.ediv_nonneg hNb.1 (by decide)
            have z0 := Int.emod_nonneg (N / 11) (show (2000:Int) ≠ 0 by decide)
            have z1 := Int.emod_lt_of_pos (N / 11) (show (0:Int) < 2000 by decide)
            obtain ⟨u, hu⟩ : ∃ z, z = N / 11 := ⟨_, rfl⟩
            have eu : N.tdiv 11 = u := by rw [Int.tdiv_eq_ediv_of_nonneg hNb.1, hu]
            obtain ⟨z, hz⟩ : ∃ y, y = u % 2000 := ⟨_, rfl⟩
            have u1 : N / 11 ≤ N := Int.ediv_le_self _ hNb.1
            rw [← hu] at u0 z0 z1 u1
            have ez : u.tmod 2000 = z := by rw [Int.tmod_eq_emod_of_nonneg u0, hz]
            rw [← hz] at z0 z1
            obtain ⟨k1, hk1⟩ : ∃ y, y = 1000 / d2 := ⟨_, rfl⟩
            obtain ⟨k2, hk2⟩ : ∃ y, y = z / d2 := ⟨_, rfl⟩
            have e1 : Int.tdiv 1000 d2 = k1 := by rw [Int.tdiv_eq_ediv_of_nonneg (by decide), hk1]
            have e2 : Int.tdiv z d2 = k2 := by rw [Int.tdiv_eq_ediv_of_nonneg z0, hk2]
            have p1 : 0 ≤ k1 := by rw [hk1]; exact Int.ediv_nonneg (by decide) (by omega)
            have p2 : 0 ≤ k2 := by rw [hk2]; exact Int.ediv_nonneg z0 (by omega)
            have p3 : k1 ≤ 1000 := by rw [hk1]; exact Int.ediv_le_self _ (by decide)
            have p4 : k2 ≤ z := by rw [hk2]; exact Int.ediv_le_self _ z0
            have hK : Hid (k1 + 1 + k2 = triK N) := by show _ = _; unfold triK; rw [← hr, ← hu, ← hz, ← hd2, ← hk1, ← hk2]
            have HN := Lib.hid hN
            have HR := Lib.hid hr
            have D0 := Lib.hid hd0
            have D1 := Lib.hid hd1
            clear hN hr hd0 hd1 hd2 hk1 hk2 hu hz r0 r1
            have hd2n : ¬ d2 = 0 := by omega
            have ri1 : (0 : Int) ≤ (r : Int) := by omega
            have ri2 : (r : Int) < 12 := by omega
            go_upto_region 14 with fail
            have c9 := BoxAt.new wo 88 #[.int .i64 d0, .int .i64 d1, .int .i64 d2]
            have hB9 : Below wo.heap.size wo (wo.alloc (.cells #[.int .i64 d0, .int .i64 d1, .int .i64 d2] 88)) := (Below.refl _ _).alloc (Nat.le_refl _) _
            generalize wo.alloc (.cells #[.int .i64 d0, .int .i64 d1, .int .i64 d2] 88) = w9 at *
            have g0 : w9.cell? ⟨wo.heap.size, 0, none⟩ = some (.int .i64 d0) := c9.cell 0
            have g1 : w9.cell? ⟨wo.heap.size, 1, none⟩ = some (.int .i64 d1) := c9.cell 1
            have g2 : w9.cell? ⟨wo.heap.size, 2, none⟩ = some (.int .i64 d2) := c9.cell 2
            go_quiet (fail)
            obtain ⟨K, hKd⟩ : ∃ y, y = k1 + 1 + k2 := ⟨_, rfl⟩
            rw [← hKd]
            obtain ⟨a, ha⟩ : ∃ y, d0 * K = y := ⟨_, rfl⟩
            obtain ⟨b, hb⟩ : ∃ y, d1 * K = y := ⟨_, rfl⟩
            have hA : Hid (a = legA m S k) := by show a = _; unfold legA; rw [← HN.out, ← HR.out, ← D0.out, ← hK.out, ← hKd, ha]
            have hBb : Hid (b = legB m S k) := by show b = _; unfold legB; rw [← HN.out, ← HR.out, ← D1.out, ← hK.out, ← hKd, hb]
            obtain ⟨l1, l2, _, _, l3, l4, _⟩ := leg_ok m S k
            rw [← hA.out] at l1 l3
            rw [← hBb.out] at l2 l4
            have c10 : BoxAt (w9.drewN nq) wo.heap.size 88 #[.int .i64 d0, .int .i64 d1, .int .i64 d2] := c9
            have hB10 : Below wo.heap.size wo (w9.drewN nq) := below_drewN hB9 _
            generalize w9.drewN nq = wx at *
            clear g0 g1 g2 c9 hB9 hKd hK z0 z1 u0 u1 e1 e2 p1 p2 p3 p4 eu ez t0 t1 t2 o1 o2 o3 o4 o5 o6 er ri1 ri2
            have g0 : wx.cell? ⟨wo.heap.size, 0, none⟩ = some (.int .i64 d0) := c10.cell 0
            have g1 : wx.cell? ⟨wo.heap.size, 1, none⟩ = some (.int .i64 d1) := c10.cell 1
            have r0 := rot_bd (B := 3100) (a := a) (b := b) (by omega) (by omega)
            have v10 := BoxAt.new wx 43 #[.int .i64 a, .int .i64 b]
            go_wp2
            go_loopw [12] (fun q wr => ∃ t : Nat, t ≤ q0 ∧ q = .int .i64 ((q0 - t : Nat) : Int) ∧ BoxAt wr wx.heap.size 43 #[.int .i64 (rot a b t).1, .int .i64 (rot a b t).2] ∧ Below wx.heap.size wx wr) (fun q _ => (intOf q).toNat)
            case atStart => exact ⟨0, Nat.zero_le _, rfl, v10, (Below.refl _ _).alloc (Nat.le_refl _) _⟩
            case round =>
              clear v10 g0 g1
              obtain ⟨t, ht, rfl, bv, hBi⟩ := hrel
              obtain ⟨p, hp⟩ : ∃ y, y = (rot a b t).1 := ⟨_, rfl⟩
              obtain ⟨q, hq⟩ : ∃ y, y = (rot a b t).2 := ⟨_, rfl⟩
              obtain ⟨⟨pb1, pb2⟩, qb1, qb2⟩ := r0 t
              rw [← hp, ← hq] at bv
              rw [← hp] at pb1 pb2
              rw [← hq] at qb1 qb2
              have HP := Lib.hid hp
              have HQ2 := Lib.hid hq
              clear hp hq
              have v0 : wr.cell? ⟨wx.heap.size, 0, none⟩ = some (.int .i64 p) := bv.cell 0
              have v1 : wr.cell? ⟨wx.heap.size, 1, none⟩ = some (.int .i64 q) := bv.cell 1
              have vf0 : wr.frozen? ⟨wx.heap.size, 0, none⟩ = false := bv.frozen 0
              have vf1 : wr.frozen? ⟨wx.heap.size, 1, none⟩ = false := bv.frozen 1
              by_cases htq : t < q0
              · have i1 : (0 : Int) < ((q0 - t : Nat) : Int) := by omega
                have i2 : ((q0 - t : Nat) : Int) < 10 := by omega
                go_wp2
                go_roundw
                case rel => exact ⟨t + 1, by omega, congrArg (Value.int .i64) (by omega), by show BoxAt _ _ _ #[.int .i64 (-(rot a b t).2), .int .i64 (rot a b t).1]; rw [← HP.out, ← HQ2.out]; exact (bv.set 0 _).set 1 _, (hBi.setCell (p := ⟨wx.heap.size, 0, none⟩) (Nat.le_refl _) _).setCell (p := ⟨wx.heap.size, 1, none⟩) (Nat.le_refl _) _⟩
                case measure => simp [intOf]; omega
              · have i1 : ¬ (0 : Int) < ((q0 - t : Nat) : Int) := by omega
                have htq2 : t = q0 := by omega
                have eX : Hid (chX x0 m S (k + 1) = chX x0 m S k + p) := by show _ + (rot _ _ _).1 = _; rw [HP.out, hA.out, hBb.out, htq2, hQ.out]
                have eY : Hid (chY y0 m S (k + 1) = chY y0 m S k + q) := by show _ + (rot _ _ _).2 = _; rw [HQ2.out, hA.out, hBb.out, htq2, hQ.out]
                obtain ⟨⟨xb1, xb2⟩, yb1, yb2⟩ := ch_bd (x := x0) (y := y0) m S (by omega) (by omega) k
                have hM := (chN_bd m).2
                have hB12 : Below wo.heap.size wo wr := hB10.trans (hBi.mono hB10.size)
                have b2' := box_step b2 hB12
                have a0 : wr.cell? ⟨w.heap.size + 1 + 1, 0, none⟩ = some (.int .i64 (chX x0 m S k)) := b2'.cell 0
                have a1 : wr.cell? ⟨w.heap.size + 1 + 1, 1, none⟩ = some (.int .i64 (chY y0 m S k)) := b2'.cell 1
                have af0 : wr.frozen? ⟨w.heap.size + 1 + 1, 0, none⟩ = false := b2'.frozen 0
                have af1 : wr.frozen? ⟨w.heap.size + 1 + 1, 1, none⟩ = false := b2'.frozen 1
                go_upto_region 21 with fail
                rw [← eX.out, ← eY.out]
                obtain ⟨X1, hX1⟩ : ∃ y, y = chX x0 m S (k + 1) := ⟨_, rfl⟩
                obtain ⟨Y1, hY1⟩ : ∃ y, y = chY y0 m S (k + 1) := ⟨_, rfl⟩
                rw [← hX1, ← hY1]
                have HX1 := Lib.hid hX1
                have HY1 := Lib.hid hY1
                clear hX1 hY1
                have HO3 : Hid (((wr.setCell ⟨w.heap.size + 1 + 1, 0, none⟩ (.int .i64 X1)).setCell ⟨w.heap.size + 1 + 1, 1, none⟩ (.int .i64 Y1)).ownsRow (w.heap.size + 3) 43 2 v (k + 1) (cellsL (chX x0 m S) (chY y0 m S) (k + 1))) := by
                  have hne : v.ownBlock = none ∨ v.ownBlock ≠ some (w.heap.size + 1 + 1) := .inr (fun e => by have := (HO.out.lt _ e).1; omega)
                  exact ((HO.out.kept (grown_of_below hB12) (Classical.em _)).kept (grownBy_set _ _ _ _) hne).kept (grownBy_set _ _ _ _) hne
                have B2 := ((b2'.set 0 (.int .i64 X1)).set 1 (.int .i64 Y1))
                have B0 := ((box_step b0 hB12).other (g' := w.heap.size + 1 + 1) (by omega) 0 (.int .i64 X1)).other (g' := w.heap.size + 1 + 1) (by omega) 1 (.int .i64 Y1)
                have B1 := ((box_step b1 hB12).other (g' := w.heap.size + 1 + 1) (by omega) 0 (.int .i64 X1)).other (g' := w.heap.size + 1 + 1) (by omega) 1 (.int .i64 Y1)
                have B4 := ((box_step b4 hB12).other (g' := w.heap.size + 1 + 1) (by omega) 0 (.int .i64 X1)).other (g' := w.heap.size + 1 + 1) (by omega) 1 (.int .i64 Y1)
                have B5 := ((box_step b5 hB12).other (g' := w.heap.size + 1 + 1) (by omega) 0 (.int .i64 X1)).other (g' := w.heap.size + 1 + 1) (by omega) 1 (.int .i64 Y1)
                have BB := ((below_step hB hB12).setCell (p := ⟨w.heap.size + 1 + 1, 0, none⟩) (by show w.heap.size ≤ w.heap.size + 1 + 1; omega) (.int .i64 X1)).setCell (p := ⟨w.heap.size + 1 + 1, 1, none⟩) (by show w.heap.size ≤ w.heap.size + 1 + 1; omega) (.int .i64 Y1)
                have e2 : (((#[Value.int .i64 (chX x0 m S k), Value.int .i64 (chY y0 m S k)] : Array Value).setIfInBounds 0 (.int .i64 X1)).setIfInBounds 1 (.int .i64 Y1)) = #[.int .i64 X1, .int .i64 Y1] := rfl
                rw [e2] at B2
                clear a0 a1 af0 af1 v0 v1 vf0 vf1 b0 b1 b2 b4 b5 b2' hB e2
                have hl5 := B5.lt
                generalize (wr.setCell ⟨w.heap.size + 1 + 1, 0, none⟩ (.int .i64 X1)).setCell ⟨w.heap.size + 1 + 1, 1, none⟩ (.int .i64 Y1) = w3 at *
                have a0 : w3.cell? ⟨w.heap.size + 1 + 1, 0, none⟩ = some (.int .i64 X1) := B2.cell 0
                have a1 : w3.cell? ⟨w.heap.size + 1 + 1, 1, none⟩ = some (.int .i64 Y1) := B2.cell 1
                have a4 : w3.cell? ⟨w.heap.size + 1 + 1 + 1 + 1, 0, none⟩ = some v := B4.cell 0
                have hk6 : k + 1 < 6 := by omega
                go_wp2_with (at_builtin; refine wpList_append_lies _ rfl _ _ 22 rfl (w.heap.size + 3) 43 i0 _ 2 16 Try.underlying22 hI0.out hZ0.out hZ1.out hZ2.out rfl (by decide) v (k + 1) (cellsL (chX x0 m S) (chY y0 m S) (k + 1)) rfl (HO3.out.alloc _) ⟨w3.heap.size, 0, none⟩ 1 1 [.int .i64 X1, .int .i64 Y1] rfl rfl (World.news_of_block (cs := #[.int .i64 X1, .int .i64 Y1]) (t := 43) (fr := (0, 0)) (heap_alloc_new w3 _)) (by simp [Value.oneCell']) (by decide) (by unfold maxLen; omega) (by omega) (by simp; omega) _ rfl ?_; intro gg cap1 w7 hown7 hgrow hat hlt7; have C4 : Hid (BoxAt w7 (w.heap.size + 1 + 1 + 1 + 1) 24 #[v]) := ((B4.alloc _).grown hgrow (box_ne_row B4 (by decide) HO3.out)); have f4 : w7.frozen? ⟨w.heap.size + 1 + 1 + 1 + 1, 0, none⟩ = false := BoxAt.frozen C4.out 0; have c4 : w7.cell? ⟨w.heap.size + 1 + 1 + 1 + 1, 0, none⟩ = some v := BoxAt.cell C4.out 0)
                have e7 : cellsL (chX x0 m S) (chY y0 m S) (k + 1) ++ [.int .i64 X1, .int .i64 Y1] = cellsL (chX x0 m S) (chY y0 m S) (k + 1 + 1) := by rw [HX1.out, HY1.out]; rfl
                rw [e7] at hown7
                have hne4 := box_ne_row C4.out (by decide) hown7
                have n2 : some (w.heap.size + 1 + 1) ≠ v.ownBlock := fun e => by have := (HO3.out.lt _ e.symm).1; omega
                have C0 := ((B0.alloc (.cells #[.int .i64 X1, .int .i64 Y1] 43)).grown hgrow (box_ne_row B0 (by decide) HO3.out)).other (g' := w.heap.size + 1 + 1 + 1 + 1) (by omega) 0 (.slice (some ⟨gg, 0, none⟩) (k + 1 + 1) cap1)
                have C1 := ((B1.alloc (.cells #[.int .i64 X1, .int .i64 Y1] 43)).grown hgrow (box_ne_row B1 (by decide) HO3.out)).other (g' := w.heap.size + 1 + 1 + 1 + 1) (by omega) 0 (.slice (some ⟨gg, 0, none⟩) (k + 1 + 1) cap1)
                have C2 := ((B2.alloc (.cells #[.int .i64 X1, .int .i64 Y1] 43)).grown hgrow n2).other (g' := w.heap.size + 1 + 1 + 1 + 1) (by omega) 0 (.slice (some ⟨gg, 0, none⟩) (k + 1 + 1) cap1)
                have C5 := ((B5.alloc (.cells #[.int .i64 X1, .int .i64 Y1] 43)).grown hgrow (box_ne_row B5 (by decide) HO3.out)).other (g' := w.heap.size + 1 + 1 + 1 + 1) (by omega) 0 (.slice (some ⟨gg, 0, none⟩) (k + 1 + 1) cap1)
                have hB7 := ((BB.alloc BB.size (.cells #[.int .i64 X1, .int .i64 Y1] 43)).grown hgrow (by have := BB.size; simp; omega) (fun g e => by have := (HO3.out.lt _ e).1; omega)).setCell (p := ⟨w.heap.size + 1 + 1 + 1 + 1, 0, none⟩) (by show w.heap.size ≤ w.heap.size + 1 + 1 + 1 + 1; omega) (.slice (some ⟨gg, 0, none⟩) (k + 1 + 1) cap1)
                rw [HX1.out, HY1.out] at C2
                go_roundw
                case rel => exact ⟨k + 1, by omega, by go_num, _, C0, C1, C2, C4.out.set 0 _, C5, hown7.kept (grownBy_set _ _ _ _) (.inr (Ne.symm hne4)), hB7⟩
                case measure => simp [intOf]; omega

/-- **The kit's Curve: a valid curve, not far from the middle.** -/
theorem kcurve (x y : Int) (A : Option Addr) (m cap : Nat) (S : Nat → Int) (w : World) (hS : Stps w A m S) :
    ∃ c : Crv, Mid c ∧ Calls Try.prog 28 #[chv x y A m cap] w fun e w' => ∃ g c', e = .returned (cv g 0 c.n c') ∧ Pts w' g 0 c.n c.X c.Y ∧ Below w.heap.size w w' ∧ w.heap.size ≤ g := by
  obtain ⟨_, _, hx1, hx2⟩ := tmod_cases x 20001 (by decide)
  obtain ⟨_, _, hy1, hy2⟩ := tmod_cases y 20001 (by decide)
  exact ⟨chain (x.tmod 20001) (y.tmod 20001) m S, chain_mid m S (by omega) (by omega), kcur_any x y A m cap S w hS⟩
end Go.Proofs.Ytglkpabcflecmaa
