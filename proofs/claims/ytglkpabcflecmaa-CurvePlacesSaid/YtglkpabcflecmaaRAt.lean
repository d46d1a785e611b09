/- The reference's At. -/
import Derived.Test.YtglkpabcflecmaaRPie
namespace Go.Proofs.Ytglkpabcflecmaa
open Go.RowKit Go.Shelf

set_option maxRecDepth 100000 in
set_option maxHeartbeats 4000000 in
theorem rat_bad (A : Option Addr) (cap : Nat) (c : Crv) (s : Int) (w : World) (h : Spots w A c.n c.X c.Y) (hne : chkF c ≠ 0) :
    Calls Try.prog 32 #[.agg #[.slice A c.n cap], .int .i64 s] w fun e w' => e = .returned (sp 0 0) ∧ Below w.heap.size w w' := by
  have hB : Below w.heap.size w ((w.alloc (.cells #[.slice A c.n cap] 24)).alloc (.cells #[.int .i64 0, .int .i64 0] 43)) := ((Below.refl _ w).alloc (Nat.le_refl _) _).alloc (by simp) _
  have hR := BoxAt.new (w.alloc (.cells #[.slice A c.n cap] 24)) 43 #[.int .i64 0, .int .i64 0]
  rw [World.size_alloc] at hR
  have h' := h.below hB
  have HC := Lib.hid (rpieces_bad A cap c _ h' hne)
  clear hne
  go_enter Try.func32, Try.ntmps32
  go_wp2_with (go_at_call 26; (with_reducible refine HC.out.mono ?_); rintro e w1 ⟨rfl, hb1⟩; replace hB := below_step hB hb1; have hR1 := Lib.hid (box_step hR hb1); have r0 : w1.cell? ⟨w.heap.size + 1, 0, none⟩ = some (.int .i64 0) := BoxAt.cell hR1.out 0; have r1 : w1.cell? ⟨w.heap.size + 1, 1, none⟩ = some (.int .i64 0) := BoxAt.cell hR1.out 1; have f0 : w1.frozen? ⟨w.heap.size + 1, 0, none⟩ = false := BoxAt.frozen hR1.out 0; have f1 : w1.frozen? ⟨w.heap.size + 1, 1, none⟩ = false := BoxAt.frozen hR1.out 1)
  have hz := (BoxAt.set (BoxAt.set hR1.out 0 (.int .i64 0)) 1 (.int .i64 0))
  have z0 := hz.cell 0
  have z1 := hz.cell 1
  have e : (((#[Value.int .i64 0, Value.int .i64 0] : Array Value).setIfInBounds 0 (.int .i64 0)).setIfInBounds 1 (.int .i64 0)) = #[.int .i64 0, .int .i64 0] := rfl
  rw [e] at z0 z1
  exact bodyPost_ret (v := sp 0 0) (by simp [results, Try.results32, go_sem, z0, z1]) rfl ⟨rfl, (hB.setCell (p := ⟨w.heap.size + 1, 0, none⟩) (by simp) _).setCell (p := ⟨w.heap.size + 1, 1, none⟩) (by simp) _⟩

set_option maxRecDepth 100000 in
set_option maxHeartbeats 4000000 in
theorem rat_good (b off cap : Nat) (c : Crv) (hg : Good c) (s : Int) (j : Nat) (hj : InPiece c s j) (hs1 : -9223372036854775808 ≤ s) (hs2 : s ≤ 9223372036854775807) (w : World) (hp : Pts w b off c.n c.X c.Y) :
    Calls Try.prog 32 #[cv b off c.n cap, .int .i64 s] w fun e w' => e = .returned (sp (atX c s j) (atY c s j)) ∧ Below w.heap.size w w' := by
  obtain ⟨hn, hn', hok, _⟩ := id hg
  have hb : b < w.heap.size := hp.lt (by omega)
  have hjn := hj.lt
  have hjl : j + 1 < c.n := by omega
  have ox0 := hok j (by omega)
  have ox1 := hok (j + 1) (by omega)
  have l1 := (hg.len hjl).2.1
  have l2 := (hg.len hjl).2.2
  have cl := clampT_bd (s := s) (st := c.st j) (l := c.len j) (by omega)
  obtain ⟨t, ht⟩ : ∃ z, z = clampT s (c.st j) (c.len j) := ⟨_, rfl⟩
  have hx : Hid (atX c s j = c.X j + c.wx j * t / c.len j) := by show _ = _; rw [ht]; rfl
  have hy : Hid (atY c s j = c.Y j + c.wy j * t / c.len j) := by show _ = _; rw [ht]; rfl
  have hB0 : Below w.heap.size w ((w.alloc (.cells #[.slice (some ⟨b, off, none⟩) c.n cap] 24)).alloc (.cells #[.int .i64 0, .int .i64 0] 43)) := ((Below.refl _ w).alloc (Nat.le_refl _) _).alloc (by simp) _
  have hp2 := hp.below hB0 hb
  have HP : Hid (∃ N, N = c.n - 1 ∧ Calls Try.prog 26 #[cv b off c.n cap] ((w.alloc (.cells #[.slice (some ⟨b, off, none⟩) c.n cap] 24)).alloc (.cells #[.int .i64 0, .int .i64 0] 43)) fun e w' => ∃ g cap1, e = .returned (.slice (some ⟨g, 0, none⟩) N cap1) ∧ Ints w' g N c.len ∧ Below ((w.alloc (.cells #[.slice (some ⟨b, off, none⟩) c.n cap] 24)).alloc (.cells #[.int .i64 0, .int .i64 0] 43)).heap.size ((w.alloc (.cells #[.slice (some ⟨b, off, none⟩) c.n cap] 24)).alloc (.cells #[.int .i64 0, .int .i64 0] 43)) w') :=
    ⟨c.n - 1, rfl, rpieces_good b off cap c hg _ hp2⟩
  have HPI : Hid (∀ W : World, Pts W b off c.n c.X c.Y → Calls Try.prog 30 #[cv b off c.n cap, .int .i64 s] W fun e w' => e = .returned (tup j t) ∧ Below W.heap.size W w') := fun W hW => by rw [ht]; exact rpiece_good b off cap c hg s j hj hs1 hs2 W hW
  rw [← ht] at cl
  obtain ⟨N, hN, HP'⟩ := HP.out
  have HP1 := Lib.hid HP'
  have hjN : j < N := by omega
  have hNn : ¬ (N : Int) = 0 := by omega
  have hNb : ((N : Int) == 0) = false := by simp; omega
  clear HP HP' ht hN
  go_enter Try.func32, Try.ntmps32
  go_upto_region 5 with (first
    | (go_at_call 26; (with_reducible refine HP1.out.mono ?_); rintro e w1 ⟨g, cap1, rfl, hI, hb1⟩; obtain ⟨hbw, hz1, cC, hz2, hR⟩ := two_facts hb1; clear hb1; have hp3 := hp.below hbw hb; have HI := Lib.hid hI; clear hI)
    | (go_at_call 30; (with_reducible refine (HPI.out _ hp3).mono ?_); rintro e w2 ⟨rfl, hb2⟩; replace HI := Lib.hid (HI.out.below hb2); replace hR := Lib.hid (BoxAt.below hR.out hb2 (BoxAt.lt hR.out)); replace cC := (hb2.cell (p := ⟨w.heap.size, 0, none⟩) hz2).trans cC; replace hbw := below_step hbw hb2))
  have hp4 := hp.below hbw hb
  obtain ⟨hx0, hy0⟩ := hp4 j (by omega)
  obtain ⟨hx1, hy1⟩ := hp4 (j + 1) (by omega)
  have i0 : (0 : Int) ≤ (j : Int) := Int.natCast_nonneg _
  have i1 : (j : Int) < (c.n : Int) := by omega
  have i2 : (0 : Int) ≤ (j : Int) + 1 := by omega
  have i3 : (j : Int) + 1 < (c.n : Int) := by omega
  have i4 : IntKind.i64.wrap ((j : Int) + 1) = (j : Int) + 1 := IntWalk.i64_in _ (by omega)
  have i5 : ((j : Int) + 1).toNat = j + 1 := by omega
  have i6 : (j : Int) < (N : Int) := by omega
  have lb := World.block_lt_of_cell? w2 _ hx0
  have lC := World.block_lt_of_cell? w2 _ cC
  go_cut [8] from 21 to 32 (fun v w' => ∃ g, v = .pointer (some ⟨g, 0, none⟩) ∧ w2.heap.size ≤ g ∧ BoxAt w' g 43 #[.int .i64 (c.wx j), .int .i64 (c.wy j)] ∧ Below w2.heap.size w2 w')
  case first =>
    go_region_held3 (fun w' => w'.cell? ⟨w.heap.size, 0, none⟩ = some (.slice (some ⟨b, off, none⟩) c.n cap) ∧ w'.cell? ⟨b, off + j * 2, none⟩ = some (.int .i64 (c.X j)) ∧ w'.cell? ⟨b, off + j * 2 + 1, none⟩ = some (.int .i64 (c.Y j)) ∧
        w'.cell? ⟨b, off + (j + 1) * 2, none⟩ = some (.int .i64 (c.X (j + 1))) ∧ w'.cell? ⟨b, off + (j + 1) * 2 + 1, none⟩ = some (.int .i64 (c.Y (j + 1))))
      (first | go_keep | (refine ⟨?_, ?_, ?_, ?_, ?_⟩ <;> (refine (Below.cell (w := w2) (B := w2.heap.size) ?_ (by assumption)).trans (by assumption); (repeat (first | (with_reducible exact hb3) | (with_reducible exact Below.refl _ _) | ((with_reducible refine bset ?_ ?_ _); (first | exact Nat.le_refl _ | omega | (simp; omega) | simp)) | ((with_reducible refine balloc ?_ ?_ _); (first | exact Nat.le_refl _ | omega | (simp; omega) | simp)) | (with_reducible refine Below.drew ?_) | refine Below.trans ?_ (hb3.mono (by first | omega | (simp; omega) | simp)))))))
      (first | (go_at_call 48; refine (rminus_any _ _ _ _ _ ox1.1 ox1.2 ox0.1 ox0.2).mono ?_; rintro e w3 ⟨rfl, hb3⟩; have hz3 : w2.heap.size ≤ w3.heap.size := (by have := hb3.size; simp at this; omega); obtain ⟨hc3, hf3⟩ := bcell hb3))
    all_goals go_wp2
    all_goals go_meet
    · exact ⟨_, rfl, hz3, BoxAt.new _ _ _, by (repeat (first | (with_reducible exact hb3) | (with_reducible exact Below.refl _ _) | ((with_reducible refine bset ?_ ?_ _); (first | exact Nat.le_refl _ | omega | (simp; omega) | simp)) | ((with_reducible refine balloc ?_ ?_ _); (first | exact Nat.le_refl _ | omega | (simp; omega) | simp)) | (with_reducible refine Below.drew ?_) | refine Below.trans ?_ (hb3.mono (by first | omega | (simp; omega) | simp))))⟩
    · refine ⟨_, rfl, Nat.le_refl _, ?_, by (repeat (first | (with_reducible exact hb3) | (with_reducible exact Below.refl _ _) | ((with_reducible refine bset ?_ ?_ _); (first | exact Nat.le_refl _ | omega | (simp; omega) | simp)) | ((with_reducible refine balloc ?_ ?_ _); (first | exact Nat.le_refl _ | omega | (simp; omega) | simp)) | (with_reducible refine Below.drew ?_) | refine Below.trans ?_ (hb3.mono (by first | omega | (simp; omega) | simp))))⟩
      have h0 : BoxAt w3 w2.heap.size 43 #[.int .i64 0, .int .i64 0] := BoxAt.below (w := (w2.alloc (.cells #[.int .i64 0, .int .i64 0] 43)).drew) (BoxAt.new w2 43 _) hb3 (by simp)
      exact (h0.set 0 _).set 1 _
  case rest =>
    obtain ⟨wd, rfl⟩ : ∃ z : World, z = wc := ⟨_, rfl⟩
    obtain ⟨gv, rfl, hgv, hbox, hbd⟩ := hcut
    have hBw := below_step hbw hbd
    have hp5 := hp.below hBw hb
    have k0 : wd.cell? ⟨b, off + j * 2, none⟩ = some (.int .i64 (c.X j)) := (hp5 j (by omega)).1
    have k1 : wd.cell? ⟨b, off + j * 2 + 1, none⟩ = some (.int .i64 (c.Y j)) := (hp5 j (by omega)).2
    have k2 : wd.cell? ⟨w.heap.size, 0, none⟩ = some (.slice (some ⟨b, off, none⟩) c.n cap) := (hbd.cell (p := ⟨w.heap.size, 0, none⟩) lC).trans cC
    have k3 : wd.cell? ⟨gv, 0, none⟩ = some (.int .i64 (c.wx j)) := hbox.cell 0
    have k4 : wd.cell? ⟨gv, 1, none⟩ = some (.int .i64 (c.wy j)) := hbox.cell 1
    have k5 : wd.cell? ⟨g, j, none⟩ = some (.int .i64 (c.len j)) := (HI.out.below hbd) j hjN
    have hRd := BoxAt.below hR.out hbd (BoxAt.lt hR.out)
    have r0 : wd.cell? ⟨w.heap.size + 1, 0, none⟩ = some (.int .i64 0) := hRd.cell 0
    have r1 : wd.cell? ⟨w.heap.size + 1, 1, none⟩ = some (.int .i64 0) := hRd.cell 1
    have f0 : wd.frozen? ⟨w.heap.size + 1, 0, none⟩ = false := hRd.frozen 0
    have f1 : wd.frozen? ⟨w.heap.size + 1, 1, none⟩ = false := hRd.frozen 1
    have owx := Crv.okd_wx hok hjl
    have owy := Crv.okd_wy hok hjl
    obtain ⟨x, hx'⟩ : ∃ z, z = c.X j := ⟨_, rfl⟩
    obtain ⟨y, hy'⟩ : ∃ z, z = c.Y j := ⟨_, rfl⟩
    obtain ⟨p, hp'⟩ : ∃ z, z = c.wx j := ⟨_, rfl⟩
    obtain ⟨q, hq'⟩ : ∃ z, z = c.wy j := ⟨_, rfl⟩
    obtain ⟨l, hl'⟩ : ∃ z, z = c.len j := ⟨_, rfl⟩
    rw [← hx', ← hp', ← hl'] at hx
    rw [← hy', ← hq', ← hl'] at hy
    rw [← hx'] at k0 ox0
    rw [← hy'] at k1 ox0
    rw [← hp'] at k3 owx
    rw [← hq'] at k4 owy
    rw [← hl'] at k5 cl l1 l2
    clear hx0 hy0 hx1 hy1 hp4 hp5 hp3 hp2 hbox hx' hy' hp' hq' hl' ox1 cC lC lb
    have key : ∀ p : Int, okd p → (-2251799813685248 ≤ p * t ∧ p * t ≤ 2251799813685248) ∧ -2251799813685248 ≤ p * t / l ∧ p * t / l ≤ 2251799813685248 := by
      intro p hp
      have m := mul_bound (a := p) (b := t) (A := 33554432) (B := 67108864) hp.1 hp.2 (by omega) (by omega)
      refine ⟨by omega, Int.le_ediv_of_mul_le (by omega) (by omega), ?_⟩
      have h := Int.ediv_lt_of_lt_mul (a := p * t) (b := 2251799813685249) (c := l) (by omega) (by omega)
      omega
    obtain ⟨⟨m1, m2⟩, m3, m4⟩ := key p owx
    obtain ⟨⟨n1, n2⟩, n3, n4⟩ := key q owy
    obtain ⟨⟨ox1, ox2⟩, oy1, oy2⟩ := ox0
    obtain ⟨pt, hpt⟩ : ∃ z, p * t = z := ⟨_, rfl⟩
    obtain ⟨qt, hqt⟩ : ∃ z, q * t = z := ⟨_, rfl⟩
    rw [hpt] at hx m1 m2 m3 m4
    rw [hqt] at hy n1 n2 n3 n4
    have FL1 : Hid (∀ W : World, Calls Try.prog 71 #[.int .i64 pt, .int .i64 l] W fun e w' => e = .returned (.int .i64 (pt / l)) ∧ W = w') := fun W => rfloor_any pt l W (by omega) (by omega) (by omega) (by omega)
    have FL2 : Hid (∀ W : World, Calls Try.prog 71 #[.int .i64 qt, .int .i64 l] W fun e w' => e = .returned (.int .i64 (qt / l)) ∧ W = w') := fun W => rfloor_any qt l W (by omega) (by omega) (by omega) (by omega)
    obtain ⟨dx, hdx⟩ : ∃ z, z = pt / l := ⟨_, rfl⟩
    obtain ⟨dy, hdy⟩ : ∃ z, z = qt / l := ⟨_, rfl⟩
    rw [← hdx] at hx m3 m4 FL1
    rw [← hdy] at hy n3 n4 FL2
    have j1 : IntKind.i64.wrap (p * t) = pt := by rw [hpt]; exact IntWalk.i64_in _ (by omega)
    have j2 : IntKind.i64.wrap (q * t) = qt := by rw [hqt]; exact IntWalk.i64_in _ (by omega)
    have j3 : IntKind.i64.wrap (x + dx) = x + dx := IntWalk.i64_in _ (by omega)
    have j4 : IntKind.i64.wrap (y + dy) = y + dy := IntWalk.i64_in _ (by omega)
    have HRd := Lib.hid hRd
    have hgne : w.heap.size + 1 ≠ g := by
      rintro rfl
      have e1 := HRd.out.cell 0
      have e2 := (HI.out.below hbd) 0 (by omega)
      rw [e1] at e2
      have := (hg.len (i := 0) (by omega)).2.1
      simp at e2
      omega
    have hgv2 : w.heap.size + 1 ≠ gv := by have := BoxAt.lt hR.out; omega
    have hbne : w.heap.size + 1 ≠ b := by omega
    have q1 := Ne.symm hgne
    have q2 := Ne.symm hgv2
    have q3 := Ne.symm hbne
    clear key hpt hqt hdx hdy owx owy hRd
    go_upto_region 6 with fail
    go_region_held3 (fun w' => w'.cell? ⟨w.heap.size, 0, none⟩ = some (.slice (some ⟨b, off, none⟩) c.n cap) ∧ w'.cell? ⟨b, off + j * 2, none⟩ = some (.int .i64 x) ∧ w'.cell? ⟨b, off + j * 2 + 1, none⟩ = some (.int .i64 y) ∧ w'.cell? ⟨gv, 0, none⟩ = some (.int .i64 p) ∧ w'.cell? ⟨gv, 1, none⟩ = some (.int .i64 q) ∧ w'.cell? ⟨g, j, none⟩ = some (.int .i64 l))
      (go_keep)
      (first | (go_at_call 71; (with_reducible refine (FL1.out _).mono ?_); rintro e w1 ⟨rfl, rfl⟩) | (go_at_call 71; (with_reducible refine (FL2.out _).mono ?_); rintro e w1 ⟨rfl, rfl⟩))
    go_wp2
    have hz := ((BoxAt.set (BoxAt.set HRd.out 0 (.int .i64 (x + dx))) 1 (.int .i64 (y + dy)))).drew
    have z0 := hz.cell 0
    have z1 := hz.cell 1
    have e : (((#[Value.int .i64 0, Value.int .i64 0] : Array Value).setIfInBounds 0 (.int .i64 (x + dx))).setIfInBounds 1 (.int .i64 (y + dy))) = #[.int .i64 (x + dx), .int .i64 (y + dy)] := rfl
    rw [e] at z0 z1
    exact bodyPost_ret (v := sp (x + dx) (y + dy)) (by simp [results, Try.results32, go_sem, z0, z1]) rfl ⟨by rw [hx.out, hy.out], ((hBw.setCell (p := ⟨w.heap.size + 1, 0, none⟩) (by simp) _).setCell (p := ⟨w.heap.size + 1, 1, none⟩) (by simp) _).drew⟩

theorem rat_any (A : Option Addr) (cap : Nat) (c : Crv) (s : Int) (hs1 : -9223372036854775808 ≤ s) (hs2 : s ≤ 9223372036854775807) (w : World) (h : Spots w A c.n c.X c.Y) :
    Calls Try.prog 32 #[.agg #[.slice A c.n cap], .int .i64 s] w fun e w' => e = .returned (sp (atXF c s) (atYF c s)) ∧ Below w.heap.size w w' := by
  unfold atXF atYF
  by_cases hz : chkF c = 0
  · rw [if_pos hz, if_pos hz]
    have hg := good_of hz
    obtain ⟨b, off, rfl, hp⟩ := h (by have := hg.lo; omega)
    exact rat_good b off cap c hg s _ (pieceJ_in hg.lo s) hs1 hs2 w hp
  · rw [if_neg hz, if_neg hz]; exact rat_bad A cap c s w h hz
end Go.Proofs.Ytglkpabcflecmaa
