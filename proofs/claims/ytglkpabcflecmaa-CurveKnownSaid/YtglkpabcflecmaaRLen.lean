/- Check of any curve, by the program and by the reference; Length and Pieces of what is no curve. -/
/- The reference's Pieces of a valid curve. -/
/- The reference's Length of a valid curve; lists of numbers compared. -/
import Derived.Test.YtglkpabcflecmaaRChk
import Derived.Deep.AppendLies
import Derived.BigQuiet
namespace Go.Proofs.Ytglkpabcflecmaa
open Go.RowKit Go.Shelf

open Classical in
/-- What Check answers. -/
noncomputable def chkF (c : Crv) : Int := if c.n < 2 then 6 else if 16 < c.n then 5 else if c.AllOk then firstE c.ferr (c.n - 1) else 2

/-- A slice of n spots, wherever it lies. -/
def Spots (w : World) (A : Option Addr) (n : Nat) (X Y : Nat → Int) : Prop := 0 < n → ∃ b off, A = some ⟨b, off, none⟩ ∧ Pts w b off n X Y
theorem Spots.below {w w' : World} {A : Option Addr} {n : Nat} {X Y : Nat → Int} (h : Spots w A n X Y) (hb : Below w.heap.size w w') : Spots w' A n X Y := fun hn => by
  obtain ⟨b, off, e, hp⟩ := h hn
  exact ⟨b, off, e, hp.below hb (hp.lt hn)⟩

theorem good_of {c : Crv} (h : chkF c = 0) : Good c := by
  unfold chkF at h
  split at h
  · omega
  split at h
  · omega
  split at h
  · rename_i h1 h2 h3
    exact ⟨by omega, by omega, h3, fun i hi => of_firstE h i (by omega)⟩
  · omega
theorem of_good {c : Crv} (h : Good c) : chkF c = 0 := by
  unfold chkF
  rw [if_neg (by have := h.lo; omega), if_neg (by have := h.hi; omega), if_pos h.ok]
  exact h.first

theorem bad_at {c : Crv} (h : ¬ c.AllOk) : ∃ j, j < c.n ∧ ¬ (okc (c.X j) ∧ okc (c.Y j)) := by
  apply Classical.byContradiction
  intro hc
  exact h (fun i hi => Classical.byContradiction fun hb => hc ⟨i, hi, hb⟩)

theorem check_any (A : Option Addr) (cap : Nat) (c : Crv) (w : World) (h : Spots w A c.n c.X c.Y) :
    Calls Try.prog 20 #[.agg #[.slice A c.n cap]] w fun e w' => e = .returned (.int .i64 (chkF c)) ∧ Below w.heap.size w w' := by
  unfold chkF
  by_cases h1 : c.n < 2
  · rw [if_pos h1]; exact check_short A c.n cap h1 w
  rw [if_neg h1]
  by_cases h2 : 16 < c.n
  · rw [if_pos h2]; exact check_long A c.n cap h2 w
  rw [if_neg h2]
  obtain ⟨b, off, rfl, hp⟩ := h (by omega)
  by_cases h3 : c.AllOk
  · rw [if_pos h3]; exact check_ok b off cap c (by omega) (by omega) h3 w hp
  · rw [if_neg h3]
    obtain ⟨j, hj, hbad⟩ := bad_at h3
    exact check_range b off c.n cap c.X c.Y (by omega) (by omega) w hp j hj hbad

theorem rcheck_any (A : Option Addr) (cap : Nat) (c : Crv) (w : World) (h : Spots w A c.n c.X c.Y) :
    Calls Try.prog 21 #[.agg #[.slice A c.n cap]] w fun e w' => e = .returned (.int .i64 (chkF c)) ∧ Below w.heap.size w w' := by
  unfold chkF
  by_cases h1 : c.n < 2
  · rw [if_pos h1]; exact rcheck_short A c.n cap h1 w
  rw [if_neg h1]
  by_cases h2 : 16 < c.n
  · rw [if_pos h2]; exact rcheck_long A c.n cap h2 w
  rw [if_neg h2]
  obtain ⟨b, off, rfl, hp⟩ := h (by omega)
  by_cases h3 : c.AllOk
  · rw [if_pos h3]; exact rcheck_ok b off cap c (by omega) (by omega) h3 w hp
  · rw [if_neg h3]
    obtain ⟨j, hj, hbad⟩ := bad_at h3
    exact rcheck_range b off c.n cap c.X c.Y (by omega) (by omega) w hp j hj hbad

set_option maxHeartbeats 2000000 in
theorem length_bad (A : Option Addr) (cap : Nat) (c : Crv) (w : World) (h : Spots w A c.n c.X c.Y) (hne : chkF c ≠ 0) :
    Calls Try.prog 22 #[.agg #[.slice A c.n cap]] w fun e w' => e = .returned (.int .i64 0) ∧ Below w.heap.size w w' := by
  have hB : Below w.heap.size w (w.alloc (.cells #[.slice A c.n cap] 24)) := (Below.refl _ w).alloc (Nat.le_refl _) _
  have h' := h.below hB
  obtain ⟨r, hr⟩ : ∃ r, r = chkF c := ⟨_, rfl⟩
  have HC := Lib.hid (check_any A cap c _ h')
  rw [← hr] at HC hne
  have hrb : (r == 0) = false := by simp [hne]
  have hrn : (r != 0) = true := by simp [hne]
  clear hr hne
  go_enter Try.func22, Try.ntmps22
  go_wp2_with (go_at_call 20; (with_reducible refine HC.out.mono ?_); rintro e w1 ⟨rfl, hb1⟩; replace hB := below_step hB hb1)
  go_ret
  exact ⟨rfl, hB⟩

set_option maxHeartbeats 2000000 in
theorem pieces_bad (A : Option Addr) (cap : Nat) (c : Crv) (w : World) (h : Spots w A c.n c.X c.Y) (hne : chkF c ≠ 0) :
    Calls Try.prog 25 #[.agg #[.slice A c.n cap]] w fun e w' => e = .returned (.slice none 0 0) ∧ Below w.heap.size w w' := by
  have hB : Below w.heap.size w (w.alloc (.cells #[.slice A c.n cap] 24)) := (Below.refl _ w).alloc (Nat.le_refl _) _
  have h' := h.below hB
  obtain ⟨r, hr⟩ : ∃ r, r = chkF c := ⟨_, rfl⟩
  have HC := Lib.hid (check_any A cap c _ h')
  rw [← hr] at HC hne
  have hrb : (r == 0) = false := by simp [hne]
  have hrn : (r != 0) = true := by simp [hne]
  clear hr hne
  go_enter Try.func25, Try.ntmps25
  go_wp2_with (go_at_call 20; (with_reducible refine HC.out.mono ?_); rintro e w1 ⟨rfl, hb1⟩; replace hB := below_step hB hb1)
  go_ret
  exact ⟨rfl, hB⟩

set_option maxHeartbeats 2000000 in
theorem rpieces_bad (A : Option Addr) (cap : Nat) (c : Crv) (w : World) (h : Spots w A c.n c.X c.Y) (hne : chkF c ≠ 0) :
    Calls Try.prog 26 #[.agg #[.slice A c.n cap]] w fun e w' => e = .returned (.slice none 0 0) ∧ Below w.heap.size w w' := by
  have hB : Below w.heap.size w (w.alloc (.cells #[.slice A c.n cap] 24)) := (Below.refl _ w).alloc (Nat.le_refl _) _
  have h' := h.below hB
  obtain ⟨r, hr⟩ : ∃ r, r = chkF c := ⟨_, rfl⟩
  have HC := Lib.hid (rcheck_any A cap c _ h')
  rw [← hr] at HC hne
  have hrb : (r == 0) = false := by simp [hne]
  have hrn : (r != 0) = true := by simp [hne]
  clear hr hne
  go_enter Try.func26, Try.ntmps26
  go_wp2_with (go_at_call 21; (with_reducible refine HC.out.mono ?_); rintro e w1 ⟨rfl, hb1⟩; replace hB := below_step hB hb1)
  go_ret
  exact ⟨rfl, hB⟩

set_option maxHeartbeats 2000000 in
theorem rlength_bad (A : Option Addr) (cap : Nat) (c : Crv) (w : World) (h : Spots w A c.n c.X c.Y) (hne : chkF c ≠ 0) :
    Calls Try.prog 23 #[.agg #[.slice A c.n cap]] w fun e w' => e = .returned (.int .i64 0) ∧ Below w.heap.size w w' := by
  have hB : Below w.heap.size w (w.alloc (.cells #[.slice A c.n cap] 24)) := (Below.refl _ w).alloc (Nat.le_refl _) _
  have h' := h.below hB
  have HC := Lib.hid (rpieces_bad A cap c _ h' hne)
  clear hne
  go_enter Try.func23, Try.ntmps23
  go_wp2_with (go_at_call 26; (with_reducible refine HC.out.mono ?_); rintro e w1 ⟨rfl, hb1⟩; replace hB := below_step hB hb1)
  go_loopw [3, 5] (fun u i wr => u = .int .i64 0 ∧ i = .int .i64 0 ∧ Below w.heap.size w wr) (fun _ _ _ => 0)
  case atStart => exact ⟨rfl, rfl, hB⟩
  case round =>
    obtain ⟨rfl, rfl, hB⟩ := hrel
    go_wp2
    go_ret
    exact ⟨rfl, hB⟩
end Go.Proofs.Ytglkpabcflecmaa

namespace Go.Proofs.Ytglkpabcflecmaa
open Go.RowKit Go.Shelf

theorem Try.info2 : (Try.prog.info? 2).map (fun i => (i.zero, i.size, i.bytes)) = some (some (.int .i64 0), 1, 8) := by kernel_rfl

/-- k numbers as cells. -/
def cellsI (f : Nat → Int) : Nat → List Value
  | 0 => []
  | k + 1 => cellsI f k ++ [.int .i64 (f k)]
theorem cellsI_length (f : Nat → Int) (k : Nat) : (cellsI f k).length = k := by induction k with | zero => rfl | succ k ih => simp [cellsI, ih]
theorem cellsI_get (f : Nat → Int) {k i : Nat} (h : i < k) : (cellsI f k)[i]? = some (.int .i64 (f i)) := by
  induction k with
  | zero => omega
  | succ k ih =>
    have hl := cellsI_length f k
    unfold cellsI
    rcases Nat.lt_or_ge i k with h' | h'
    · rw [List.getElem?_append_left (by omega)]; exact ih h'
    · obtain rfl : i = k := by omega
      rw [List.getElem?_append_right (by omega), hl]; simp
/-- n numbers lie in block g. -/
def Ints (w : World) (g n : Nat) (f : Nat → Int) : Prop := ∀ i, i < n → w.cell? ⟨g, i, none⟩ = some (.int .i64 (f i))
theorem Ints.of_own {w : World} {base g k cap : Nat} {f : Nat → Int} (h : w.ownsRow base 2 1 (.slice (some ⟨g, 0, none⟩) k cap) k (cellsI f k)) : Ints w g k f := by
  intro i hi
  have add : ∀ j, (⟨g, 0, none⟩ : Addr).add j = ⟨g, 0 + j, none⟩ := fun j => by unfold Addr.add; split <;> simp_all
  have h1 := h.cells (g := g) rfl _ _ (cellsI_get f hi)
  rw [add, Nat.zero_add] at h1
  exact h1
theorem Ints.below {w w' : World} {g n : Nat} {f : Nat → Int} (h : Ints w g n f) (hb : Below w.heap.size w w') : Ints w' g n f := fun i hi =>
  (hb.cell (p := ⟨g, i, none⟩) (World.block_lt_of_cell? w _ (h i hi))).trans (h i hi)

def PcsPost (c : Crv) (w : World) (e : Ending) (w' : World) : Prop := ∃ g cap, e = .returned (.slice (some ⟨g, 0, none⟩) (c.n - 1 : Nat) cap) ∧ Ints w' g (c.n - 1) c.len ∧ Below w.heap.size w w'

set_option maxRecDepth 100000 in
set_option maxHeartbeats 8000000 in
theorem rpieces_good (b off cap : Nat) (c : Crv) (hg : Good c) (w : World) (hp : Pts w b off c.n c.X c.Y) :
    Calls Try.prog 26 #[cv b off c.n cap] w (PcsPost c w) := by
  obtain ⟨hn, hn', hok, _⟩ := id hg
  obtain ⟨i0_, hi0, hz0, hz1, hz2⟩ := info_parts Try.info2
  have hI0 := Lib.hid hi0
  have hZ0 := Lib.hid hz0
  have hZ1 := Lib.hid hz1
  have hZ2 := Lib.hid hz2
  clear hi0 hz0 hz1 hz2
  have hb := hp.lt (by omega)
  have hB : Below w.heap.size w (w.alloc (.cells #[.slice (some ⟨b, off, none⟩) c.n cap] 24)) := (Below.refl _ w).alloc (Nat.le_refl _) _
  have hBB : BoxAt (w.alloc (.cells #[.slice (some ⟨b, off, none⟩) c.n cap] 24)) w.heap.size 24 #[.slice (some ⟨b, off, none⟩) c.n cap] := BoxAt.new _ _ _
  have hC0 := rcheck_ok b off cap c hn hn' hok _ (hp.below hB hb)
  rw [hg.first] at hC0
  have HC := Lib.hid hC0
  clear hC0
  go_enter Try.func26, Try.ntmps26
  go_wp2_with (go_at_call 21; (with_reducible refine HC.out.mono ?_); rintro e w1 ⟨rfl, hb1⟩; replace hBB := box_step hBB hb1; replace hB := below_step hB hb1)
  clear HC
  go_loopw [3, 4] (fun o i wr => ∃ (k : Nat) (v : Value), k ≤ c.n - 1 ∧ o = v ∧ i = .int .i64 k ∧ wr.ownsRow (w.heap.size + 1) 2 1 v k (cellsI c.len k) ∧ BoxAt wr w.heap.size 24 #[.slice (some ⟨b, off, none⟩) c.n cap] ∧ Below w.heap.size w wr) (fun _ i _ => c.n - (intOf i).toNat)
  case atStart => exact ⟨0, .slice none 0 0, Nat.zero_le _, rfl, rfl, World.ownsRow_nil _ _ _ _, hBB, hB⟩
  case round =>
    clear hB hBB
    obtain ⟨k, v, hk, rfl, rfl, hown, hBB, hB⟩ := hrel
    have HO := Lib.hid hown
    clear hown
    have hsz := hBB.lt
    have hBx : wr.cell? ⟨w.heap.size, 0, none⟩ = some (.slice (some ⟨b, off, none⟩) c.n cap) := hBB.cell 0
    by_cases hlt2 : k < c.n - 1
    · obtain ⟨hx0, hy0⟩ := (hp.below hB hb) k (by omega)
      obtain ⟨hx1, hy1⟩ := (hp.below hB hb) (k + 1) (by omega)
      have ox0 := hok k (by omega)
      have ox1 := hok (k + 1) (by omega)
      have i0 : (0 : Int) ≤ (k : Int) := Int.natCast_nonneg _
      have i1 : (k : Int) < (c.n : Int) := by omega
      have i2 : (0 : Int) ≤ (k : Int) + 1 := by omega
      have i3 : (k : Int) + 1 < (c.n : Int) := by omega
      have lb := World.block_lt_of_cell? wr _ hx0
      have i4 : IntKind.i64.wrap ((k : Int) + 1) = (k : Int) + 1 := IntWalk.i64_in _ (by omega)
      have i5 : ((k : Int) + 1).toNat = k + 1 := by omega
      go_upto_region 7 with fail
      go_cut [5] from 17 to 28 (fun v w' => ∃ g, v = .pointer (some ⟨g, 0, none⟩) ∧ wr.heap.size ≤ g ∧ BoxAt w' g 43 #[.int .i64 (c.wx k), .int .i64 (c.wy k)] ∧ Below wr.heap.size wr w')
      case first =>
        go_region_held3 (fun w' => w'.cell? ⟨w.heap.size, 0, none⟩ = some (.slice (some ⟨b, off, none⟩) c.n cap) ∧ w'.cell? ⟨b, off + k * 2, none⟩ = some (.int .i64 (c.X k)) ∧ w'.cell? ⟨b, off + k * 2 + 1, none⟩ = some (.int .i64 (c.Y k)) ∧
            w'.cell? ⟨b, off + (k + 1) * 2, none⟩ = some (.int .i64 (c.X (k + 1))) ∧ w'.cell? ⟨b, off + (k + 1) * 2 + 1, none⟩ = some (.int .i64 (c.Y (k + 1))))
          (first | go_keep | (refine ⟨?_, ?_, ?_, ?_, ?_⟩ <;> (refine (Below.cell (w := wr) (B := wr.heap.size) ?_ (by assumption)).trans (by assumption); (repeat (first | (with_reducible exact hb1) | (with_reducible exact Below.refl _ _) | ((with_reducible refine bset ?_ ?_ _); (first | exact Nat.le_refl _ | omega | (simp; omega) | simp)) | ((with_reducible refine balloc ?_ ?_ _); (first | exact Nat.le_refl _ | omega | (simp; omega) | simp)) | (with_reducible refine Below.drew ?_) | refine Below.trans ?_ (hb1.mono (by first | omega | (simp; omega) | simp)))))))
          (first | (go_at_call 48; refine (rminus_any _ _ _ _ _ ox1.1 ox1.2 ox0.1 ox0.2).mono ?_; rintro e w1 ⟨rfl, hb1⟩; have hz1 : wr.heap.size ≤ w1.heap.size := (by have := hb1.size; simp at this; omega); obtain ⟨hc1, hf1⟩ := bcell hb1))
        all_goals go_wp2
        all_goals go_meet
        · exact ⟨_, rfl, hz1, BoxAt.new _ _ _, by (repeat (first | (with_reducible exact hb1) | (with_reducible exact Below.refl _ _) | ((with_reducible refine bset ?_ ?_ _); (first | exact Nat.le_refl _ | omega | (simp; omega) | simp)) | ((with_reducible refine balloc ?_ ?_ _); (first | exact Nat.le_refl _ | omega | (simp; omega) | simp)) | (with_reducible refine Below.drew ?_) | refine Below.trans ?_ (hb1.mono (by first | omega | (simp; omega) | simp))))⟩
        · refine ⟨_, rfl, Nat.le_refl _, ?_, by (repeat (first | (with_reducible exact hb1) | (with_reducible exact Below.refl _ _) | ((with_reducible refine bset ?_ ?_ _); (first | exact Nat.le_refl _ | omega | (simp; omega) | simp)) | ((with_reducible refine balloc ?_ ?_ _); (first | exact Nat.le_refl _ | omega | (simp; omega) | simp)) | (with_reducible refine Below.drew ?_) | refine Below.trans ?_ (hb1.mono (by first | omega | (simp; omega) | simp))))⟩
          have h0 : BoxAt w1 wr.heap.size 43 #[.int .i64 0, .int .i64 0] := BoxAt.below (w := (wr.alloc (.cells #[.int .i64 0, .int .i64 0] 43)).drew) (BoxAt.new wr 43 _) hb1 (by simp)
          exact (h0.set 0 _).set 1 _
      case rest =>
        obtain ⟨wd, rfl⟩ : ∃ x : World, x = wc := ⟨_, rfl⟩
        obtain ⟨g, rfl, hg0, hbox, hbw⟩ := hcut
        obtain ⟨p, hp'⟩ : ∃ p, p = c.wx k := ⟨_, rfl⟩
        obtain ⟨q, hq'⟩ : ∃ q, q = c.wy k := ⟨_, rfl⟩
        obtain ⟨d, hd'⟩ : ∃ d, d = c.d2 k := ⟨_, rfl⟩
        obtain ⟨L, hL'⟩ : ∃ L, L = c.len k := ⟨_, rfl⟩
        have owx : okd p := by rw [hp']; exact Crv.okd_wx hok (i := k) (by omega)
        have owy : okd q := by rw [hq']; exact Crv.okd_wy hok (i := k) (by omega)
        have d0 : 0 ≤ d := by rw [hd']; exact Crv.d2_nonneg (c := c) k
        have d1 : d ≤ 4503599627370496 := by have := Crv.d2_le hok (i := k) (by omega); omega
        have HD : Hid (p * p + q * q = d) := by show _ = _; rw [hp', hq', hd']; rfl
        have HL : Hid (isqI d = L) := by show _ = _; rw [hd', hL']; rfl
        rw [← hp', ← hq'] at hbox
        have HLk := Lib.hid hL'
        clear hp' hq' hd' hL'
        have g0 : wd.cell? ⟨g, 0, none⟩ = some (.int .i64 p) := hbox.cell 0
        have g1 : wd.cell? ⟨g, 1, none⟩ = some (.int .i64 q) := hbox.cell 1
        have lg := hbox.lt
        clear hx0 hy0 hx1 hy1 hBx
        have hBy : Below wd.heap.size wd wd := Below.refl _ _
        go_wp2_with (first
          | (go_at_call 65; (with_reducible refine (rdot_n p q p q d _ owx owy owx owy HD.out).mono ?_); rintro e w2 ⟨rfl, hb2⟩; replace hBy := below_step hBy hb2)
          | (go_at_call 64; (with_reducible refine (root_n d L _ d0 d1 HL).mono ?_); rintro e w3 ⟨rfl, rfl⟩)
          | (at_builtin; refine wpList_append_lies _ rfl _ _ 32 rfl (w.heap.size + 1) 2 i0_ (.int .i64 0) 1 8 Try.underlying32 hI0.out hZ0.out hZ1.out hZ2.out rfl (by decide) u3 k (cellsI c.len k) rfl ((HO.out.kept (grown_of_below (below_step hbw hBy)) (Classical.em _)).alloc _) ⟨w2.heap.size, 0, none⟩ 1 1 [.int .i64 L] rfl rfl (World.news_of_block (cs := #[.int .i64 L]) (t := 2) (fr := (0, 0)) (heap_alloc_new w2 _)) (by simp [Value.oneCell']) (by decide) (by unfold maxLen; omega) (by omega) (by have := hBy.size; have := hbw.size; simp; omega) _ rfl ?_; intro gg cap1 w7 hown7 hgrow hat hlt7))
        have e7 : cellsI c.len k ++ [.int .i64 L] = cellsI c.len (k + 1) := by rw [HLk.out]; rfl
        rw [e7] at hown7
        have hbx := below_step hbw hBy
        have hz3 : w.heap.size ≤ w2.heap.size := by have := hbx.size; omega
        have hBB7 : BoxAt w7 w.heap.size 24 #[.slice (some ⟨b, off, none⟩) c.n cap] := ((box_step hBB hbx).alloc _).grown hgrow (fun e => by have := (HO.out.lt _ e.symm).1; omega)
        have hB7 : Below w.heap.size w w7 := ((below_step hB hbx).alloc hz3 _).grown hgrow (by simp; omega) (fun g e => by have := (HO.out.lt _ e).1; omega)
        have OB := Lib.hid hown7
        clear hown7 hat e7
        go_wp2
        go_roundw
        case rel => exact ⟨k + 1, _, by omega, rfl, by go_num, OB.out, hBB7, hB7⟩
        case measure => simp [intOf]; omega
    · obtain rfl : k = c.n - 1 := by omega
      have i3 : ¬ ((c.n - 1 : Nat) : Int) + 1 < (c.n : Int) := by omega
      obtain ⟨g, cap', rfl, hg1, hg2⟩ := HO.out.form (by omega)
      go_wp2
      go_ret
      exact ⟨g, cap', rfl, Ints.of_own HO.out, hB⟩
end Go.Proofs.Ytglkpabcflecmaa

namespace Go.Proofs.Ytglkpabcflecmaa
open Go.RowKit Go.Shelf

set_option maxHeartbeats 4000000 in
theorem rlength_good (b off cap : Nat) (c : Crv) (hg : Good c) (w : World) (hp : Pts w b off c.n c.X c.Y) :
    Calls Try.prog 23 #[cv b off c.n cap] w fun e w' => e = .returned (.int .i64 (c.st (c.n - 1))) ∧ Below w.heap.size w w' := by
  obtain ⟨hn, hn', hok, _⟩ := id hg
  have hb := hp.lt (by omega)
  have hB : Below w.heap.size w (w.alloc (.cells #[.slice (some ⟨b, off, none⟩) c.n cap] 24)) := (Below.refl _ w).alloc (Nat.le_refl _) _
  have HC := Lib.hid (rpieces_good b off cap c hg _ (hp.below hB hb))
  go_enter Try.func23, Try.ntmps23
  go_wp2_with (go_at_call 26; (with_reducible refine HC.out.mono ?_); rintro e w1 ⟨g, cap1, rfl, hI, hb1⟩; replace hB := below_step hB hb1; have HI := Lib.hid hI; clear hI)
  clear HC
  go_loopw [3, 5] (fun u i wr => ∃ k : Nat, k ≤ c.n - 1 ∧ u = .int .i64 (c.st k) ∧ i = .int .i64 k ∧ Below w.heap.size w wr ∧ Hid (Ints wr g (c.n - 1) c.len)) (fun _ i _ => c.n - (intOf i).toNat)
  case atStart => exact ⟨0, Nat.zero_le _, rfl, rfl, hB, HI⟩
  case round =>
    clear hB HI
    obtain ⟨k, hk, rfl, rfl, hB, HI⟩ := hrel
    by_cases hlt : k < c.n - 1
    · have c0 := HI.out k hlt
      have i1 : (0 : Int) ≤ (k : Int) := Int.natCast_nonneg _
      have i2 : (k : Int) < ((c.n - 1 : Nat) : Int) := by omega
      have hst := Lib.hid (st_wrap hok (k := k) (by omega) hn')
      go_wp2
      go_roundw
      case rel => exact ⟨k + 1, by omega, by rw [← hst.out], by go_num, by
        repeat (first | exact hB | exact ⟨hB, HI⟩ | exact HI)⟩
      case measure => simp [intOf]; omega
    · obtain rfl : k = c.n - 1 := by omega
      go_wp2
      go_ret
      exact ⟨rfl, hB⟩

/-- SameLongs of two lists of the same numbers. -/
def Longs (w : World) (A : Option Addr) (n : Nat) (f : Nat → Int) : Prop := n = 0 ∨ ∃ g, A = some ⟨g, 0, none⟩ ∧ Ints w g n f

set_option maxHeartbeats 4000000 in
theorem same_longs (g1 g2 n c1 c2 : Nat) (f : Nat → Int) (w : World) (hn : n ≤ 1000000) (h1 : Ints w g1 n f) (h2 : Ints w g2 n f) :
    Calls Try.prog 24 #[.slice (some ⟨g1, 0, none⟩) n c1, .slice (some ⟨g2, 0, none⟩) n c2] w fun e w' => e = .returned (.bool true) ∧ Below w.heap.size w w' := by
  have H1 := Lib.hid h1
  have H2 := Lib.hid h2
  clear h1 h2
  go_enter Try.func24, Try.ntmps24
  go_wp2
  go_loopw [5] (fun i wr => ∃ k : Nat, k ≤ n ∧ i = .int .i64 k ∧ Below w.heap.size w wr ∧ Hid (Ints wr g1 n f) ∧ Hid (Ints wr g2 n f)) (fun i _ => n - (intOf i).toNat)
  case atStart => exact ⟨0, Nat.zero_le _, rfl, Below.refl _ _, H1, H2⟩
  case round =>
    clear H1 H2
    obtain ⟨k, hk, rfl, hB, H1, H2⟩ := hrel
    by_cases hlt : k < n
    · have c0 := H1.out k hlt
      have c1' := H2.out k hlt
      have i1 : (0 : Int) ≤ (k : Int) := Int.natCast_nonneg _
      have i2 : (k : Int) < (n : Int) := by omega
      go_wp2_with fail
      go_quiet (fail)
      go_wp2
      go_roundw
      case rel => exact ⟨k + 1, by omega, by go_num, below_drewN hB _, H1, H2⟩
      case measure => simp [intOf]; omega
    · obtain rfl : k = n := by omega
      go_wp2
      go_ret
      exact ⟨rfl, hB⟩

set_option maxHeartbeats 4000000 in
theorem same_longs_nil (w : World) :
    Calls Try.prog 24 #[.slice none 0 0, .slice none 0 0] w fun e w' => e = .returned (.bool true) ∧ Below w.heap.size w w' := by
  go_enter Try.func24, Try.ntmps24
  go_wp2
  go_loopw [5] (fun i wr => i = .int .i64 0 ∧ Below w.heap.size w wr) (fun _ _ => 0)
  case atStart => exact ⟨rfl, Below.refl _ _⟩
  case round =>
    obtain ⟨rfl, hB⟩ := hrel
    go_wp2
    go_ret
    exact ⟨rfl, hB⟩
end Go.Proofs.Ytglkpabcflecmaa

