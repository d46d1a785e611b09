/- The small functions of package curve: differences, products, the root. -/
/- The root by Newton's steps. -/
/- 'valid' over a list of spots. -/
import Derived.Test.YtglkpabcflecmaaRows
import Derived.Test.YtglkpabcflecmaaModel
import Derived.WalkKit
import Derived.WalkSpells
import Derived.WalkLawsBesides
import Derived.IntWalk
import Derived.Lib.Hide
namespace Go.Proofs.Ytglkpabcflecmaa
open Go.RowKit

abbrev sp (x y : Int) : Value := .agg #[.int .i64 x, .int .i64 y]

set_option maxHeartbeats 400000 in
theorem minus_any (a b c d : Int) (w : World) (ha : okc a) (hb : okc b) (hc : okc c) (hd : okc d) :
    Calls Try.prog 78 #[sp a b, sp c d] w fun e w' => e = .returned (sp (a - c) (b - d)) ∧ Below w.heap.size w w' := by
  obtain ⟨ha1, ha2⟩ := ha; obtain ⟨hb1, hb2⟩ := hb; obtain ⟨hc1, hc2⟩ := hc; obtain ⟨hd1, hd2⟩ := hd
  go_enter Try.func78, Try.ntmps78
  go_wp2
  exact bodyPost_ret (v := sp (a - c) (b - d)) (by simp [results, Try.results78, go_sem]) rfl ⟨rfl, by
    repeat (first | exact Below.refl _ _ | refine Below.setCell ?_ (by first | omega | (simp; omega) | simp) _ | refine Below.alloc ?_ (by first | omega | (simp; omega) | simp) _)⟩

set_option maxHeartbeats 400000 in
theorem dot_any (a b c d : Int) (w : World) (ha : okd a) (hb : okd b) (hc : okd c) (hd : okd d) :
    Calls Try.prog 62 #[sp a b, sp c d] w fun e w' => e = .returned (.int .i64 (a * c + b * d)) ∧ Below w.heap.size w w' := by
  obtain ⟨h1, h2⟩ := okd_mul ha hc
  obtain ⟨h3, h4⟩ := okd_mul hb hd
  clear ha hb hc hd
  go_enter Try.func62, Try.ntmps62
  go_wp2
  go_ret
  exact ⟨rfl, by
    repeat (first | exact Below.refl _ _ | refine Below.setCell ?_ (by first | omega | (simp; omega) | simp) _ | refine Below.alloc ?_ (by first | omega | (simp; omega) | simp) _)⟩

set_option maxHeartbeats 400000 in
theorem cross_any (a b c d : Int) (w : World) (ha : okd a) (hb : okd b) (hc : okd c) (hd : okd d) :
    Calls Try.prog 77 #[sp a b, sp c d] w fun e w' => e = .returned (.int .i64 (a * d - b * c)) ∧ Below w.heap.size w w' := by
  obtain ⟨h1, h2⟩ := okd_mul ha hd
  obtain ⟨h3, h4⟩ := okd_mul hb hc
  clear ha hb hc hd
  go_enter Try.func77, Try.ntmps77
  go_wp2
  go_ret
  exact ⟨rfl, by
    repeat (first | exact Below.refl _ _ | refine Below.setCell ?_ (by first | omega | (simp; omega) | simp) _ | refine Below.alloc ?_ (by first | omega | (simp; omega) | simp) _)⟩
end Go.Proofs.Ytglkpabcflecmaa

namespace Go.Proofs.Ytglkpabcflecmaa
open Go.RowKit

theorem sq_zero {x y : Int} (h : ¬ 0 < x * x + y * y) : x = 0 ∧ y = 0 := by
  have sq : ∀ a : Int, 0 ≤ a * a ∧ (a ≠ 0 → 0 < a * a) := by
    intro a
    rcases Int.lt_trichotomy a 0 with h | h | h
    · have := Int.mul_pos (show 0 < -a by omega) (show 0 < -a by omega)
      rw [Int.neg_mul_neg] at this
      exact ⟨by omega, fun _ => this⟩
    · subst h; simp
    · have := Int.mul_pos h h
      exact ⟨by omega, fun _ => this⟩
  have h1 := sq x
  have h2 := sq y
  by_cases hx : x = 0
  · by_cases hy : y = 0
    · exact ⟨hx, hy⟩
    · have := h2.2 hy; omega
  · have := h1.2 hx; omega

theorem dot_n (a b c d n : Int) (w : World) (ha : okd a) (hb : okd b) (hc : okd c) (hd : okd d) (hn : a * c + b * d = n) :
    Calls Try.prog 62 #[sp a b, sp c d] w fun e w' => e = .returned (.int .i64 n) ∧ Below w.heap.size w w' := by
  subst hn; exact dot_any a b c d w ha hb hc hd

theorem bcell {W w1 : World} (hb : Below W.heap.size W w1) : (∀ b o, b < W.heap.size → w1.cell? ⟨b, o, none⟩ = W.cell? ⟨b, o, none⟩) ∧ (∀ b o, b < W.heap.size → w1.frozen? ⟨b, o, none⟩ = W.frozen? ⟨b, o, none⟩) :=
  ⟨fun b o h => hb.cell (p := ⟨b, o, none⟩) h, fun b o h => hb.frozen (p := ⟨b, o, none⟩) h⟩

theorem w64 {a : Int} (h : -9223372036854775808 ≤ a) (h' : a ≤ 9223372036854775807) : wrap64 a = a := by
  unfold wrap64; omega

/-- Newton's step as the walk spells it. -/
theorem step_eq {n r : Int} (h0 : 0 < n) (h1 : n ≤ 2251799813685248) (hr : 0 < r) (hr1 : r ≤ 2251799813685248) :
    wrap64 ((wrap64 (r + n / r)).tdiv 2) = (r + n / r) / 2 := by
  have hq0 : 0 ≤ n / r := Int.ediv_nonneg (by omega) (by omega)
  have hq1 : n / r ≤ n := Int.ediv_le_self _ (by omega)
  rw [w64 (a := r + n / r) (by omega) (by omega), Int.tdiv_eq_ediv_of_nonneg (by omega), w64 (by omega) (by omega)]

/-- The root of a vector that isn't 0: at every sign of its sides. -/
theorem abs_start (x y n : Int) (hn : x * x + y * y = n) (h0 : 0 < n) :
    (0 ≤ x → 0 ≤ y → n < (x + y + 1) * (x + y + 1) ∧ 0 < x + y) ∧ (0 ≤ x → y < 0 → n < (x + -y + 1) * (x + -y + 1) ∧ 0 < x + -y) ∧
    (x < 0 → 0 ≤ y → n < (-x + y + 1) * (-x + y + 1) ∧ 0 < -x + y) ∧ (x < 0 → y < 0 → n < (-x + -y + 1) * (-x + -y + 1) ∧ 0 < -x + -y) := by
  subst hn
  have pos : ∀ a b : Int, 0 ≤ a → 0 ≤ b → 0 < a * a + b * b → 0 < a + b := by
    intro a b ha hb h
    rcases Int.lt_or_le 0 (a + b) with h' | h'
    · exact h'
    · have : a = 0 := by omega
      have : b = 0 := by omega
      subst_vars
      simp at h
  have en : ∀ a : Int, (-a) * (-a) = a * a := fun a => Int.neg_mul_neg a a
  refine ⟨fun a b => ⟨newton_start x y a b, pos x y a b h0⟩, fun a b => ?_, fun a b => ?_, fun a b => ?_⟩
  · have := newton_start x (-y) a (by omega)
    have := pos x (-y) a (by omega) (by rw [en]; exact h0)
    rw [en] at *
    exact ⟨by assumption, by assumption⟩
  · have := newton_start (-x) y (by omega) b
    have := pos (-x) y (by omega) b (by rw [en]; exact h0)
    rw [en] at *
    exact ⟨by assumption, by assumption⟩
  · have h1 := newton_start (-x) (-y) (by omega) (by omega)
    have h2 := pos (-x) (-y) (by omega) (by omega) (by rw [en, en]; exact h0)
    rw [en, en] at h1
    exact ⟨h1, h2⟩

set_option maxHeartbeats 1600000 in
theorem norm_pos (x y n : Int) (w : World) (hx : okd x) (hy : okd y) (hn : Hid (x * x + y * y = n)) (h0 : 0 < n) (h1 : n ≤ 2251799813685248) :
    Calls Try.prog 90 #[sp x y] w fun e w' => e = .returned (.int .i64 (isqI n)) ∧ Below w.heap.size w w' := by
  obtain ⟨hxl, hxr⟩ := id hx
  obtain ⟨hyl, hyr⟩ := id hy
  have hbeq : (n == 0) = false := by simp; omega
  obtain ⟨k1, k2, k3, k4⟩ := abs_start x y n hn.out h0
  rcases Int.lt_or_le x 0 with hx0 | hx0 <;> rcases Int.lt_or_le y 0 with hy0 | hy0
  · obtain ⟨hge, hs⟩ := k4 hx0 hy0
    have hmx : x < -x := by omega
    have hmy : y < -y := by omega
    have hs0 : ¬ -x + -y = 0 := by omega
    have HG := Lib.hid hge
    clear hge k1 k2 k3 k4
    go_enter Try.func90, Try.ntmps90
    go_wp2_with (go_at_call 62; refine (dot_n _ _ _ _ n _ hx hy hx hy hn.out).mono ?_; rintro e w1 ⟨rfl, hb1⟩; obtain ⟨hc1, hf1⟩ := bcell hb1)
    go_loop [4, 5] (fun a b => ∃ r q : Int, 0 < r ∧ r ≤ 134217728 ∧ Hid (n < (r + 1) * (r + 1)) ∧ Hid (q = (r + n / r) / 2) ∧ a = .int .i64 r ∧ b = .int .i64 q) (fun a _ => (intOf a).toNat)
    case atStart => exact ⟨_, _, hs, by omega, HG, Lib.hid rfl, rfl, by rw [step_eq h0 h1 hs (by omega)]⟩
    case round =>
      obtain ⟨r, q, hr0, hr1, hg, hq, rfl, rfl⟩ := hrel
      by_cases hlt : q < r
      · have hq0 : 0 < q := by have := newton_pos h0 hr0 (by rw [← hq.out]; exact hlt); rw [hq.out]; exact this
        have hq2 : ¬ q = 0 := by omega
        have hgq : Hid (n < (q + 1) * (q + 1)) := by rw [hq.out]; exact newton_next h0 hr0
        have hst := Lib.hid (step_eq h0 h1 hq0 (by omega))
        go_wp2
        go_round
        case rel => exact ⟨q, _, hq0, by omega, hgq, Lib.hid rfl, rfl, by rw [hst.out]⟩
        case measure => simp [intOf]; omega
      · have hfin : Hid (isqI n = r) := newton_end hr0 hg.out (by rw [← hq.out]; omega)
        go_wp2
        go_ret
        refine ⟨?_, ?_⟩
        · exact congrArg (fun z => Ending.returned (.int .i64 z)) hfin.out.symm
        · refine Below.trans ?_ (hb1.mono (by simp))
          exact (Below.refl _ _).alloc (by simp) _
  · obtain ⟨hge, hs⟩ := k3 hx0 hy0
    have hmx : x < -x := by omega
    have hmy : ¬ y < -y := by omega
    have hs0 : ¬ -x + y = 0 := by omega
    have HG := Lib.hid hge
    clear hge k1 k2 k3 k4
    go_enter Try.func90, Try.ntmps90
    go_wp2_with (go_at_call 62; refine (dot_n _ _ _ _ n _ hx hy hx hy hn.out).mono ?_; rintro e w1 ⟨rfl, hb1⟩; obtain ⟨hc1, hf1⟩ := bcell hb1)
    go_loop [4, 5] (fun a b => ∃ r q : Int, 0 < r ∧ r ≤ 134217728 ∧ Hid (n < (r + 1) * (r + 1)) ∧ Hid (q = (r + n / r) / 2) ∧ a = .int .i64 r ∧ b = .int .i64 q) (fun a _ => (intOf a).toNat)
    case atStart => exact ⟨_, _, hs, by omega, HG, Lib.hid rfl, rfl, by rw [step_eq h0 h1 hs (by omega)]⟩
    case round =>
      obtain ⟨r, q, hr0, hr1, hg, hq, rfl, rfl⟩ := hrel
      by_cases hlt : q < r
      · have hq0 : 0 < q := by have := newton_pos h0 hr0 (by rw [← hq.out]; exact hlt); rw [hq.out]; exact this
        have hq2 : ¬ q = 0 := by omega
        have hgq : Hid (n < (q + 1) * (q + 1)) := by rw [hq.out]; exact newton_next h0 hr0
        have hst := Lib.hid (step_eq h0 h1 hq0 (by omega))
        go_wp2
        go_round
        case rel => exact ⟨q, _, hq0, by omega, hgq, Lib.hid rfl, rfl, by rw [hst.out]⟩
        case measure => simp [intOf]; omega
      · have hfin : Hid (isqI n = r) := newton_end hr0 hg.out (by rw [← hq.out]; omega)
        go_wp2
        go_ret
        refine ⟨?_, ?_⟩
        · exact congrArg (fun z => Ending.returned (.int .i64 z)) hfin.out.symm
        · refine Below.trans ?_ (hb1.mono (by simp))
          exact (Below.refl _ _).alloc (by simp) _
  · obtain ⟨hge, hs⟩ := k2 hx0 hy0
    have hmx : ¬ x < -x := by omega
    have hmy : y < -y := by omega
    have hs0 : ¬ x + -y = 0 := by omega
    have HG := Lib.hid hge
    clear hge k1 k2 k3 k4
    go_enter Try.func90, Try.ntmps90
    go_wp2_with (go_at_call 62; refine (dot_n _ _ _ _ n _ hx hy hx hy hn.out).mono ?_; rintro e w1 ⟨rfl, hb1⟩; obtain ⟨hc1, hf1⟩ := bcell hb1)
    go_loop [4, 5] (fun a b => ∃ r q : Int, 0 < r ∧ r ≤ 134217728 ∧ Hid (n < (r + 1) * (r + 1)) ∧ Hid (q = (r + n / r) / 2) ∧ a = .int .i64 r ∧ b = .int .i64 q) (fun a _ => (intOf a).toNat)
    case atStart => exact ⟨_, _, hs, by omega, HG, Lib.hid rfl, rfl, by rw [step_eq h0 h1 hs (by omega)]⟩
    case round =>
      obtain ⟨r, q, hr0, hr1, hg, hq, rfl, rfl⟩ := hrel
      by_cases hlt : q < r
      · have hq0 : 0 < q := by have := newton_pos h0 hr0 (by rw [← hq.out]; exact hlt); rw [hq.out]; exact this
        have hq2 : ¬ q = 0 := by omega
        have hgq : Hid (n < (q + 1) * (q + 1)) := by rw [hq.out]; exact newton_next h0 hr0
        have hst := Lib.hid (step_eq h0 h1 hq0 (by omega))
        go_wp2
        go_round
        case rel => exact ⟨q, _, hq0, by omega, hgq, Lib.hid rfl, rfl, by rw [hst.out]⟩
        case measure => simp [intOf]; omega
      · have hfin : Hid (isqI n = r) := newton_end hr0 hg.out (by rw [← hq.out]; omega)
        go_wp2
        go_ret
        refine ⟨?_, ?_⟩
        · exact congrArg (fun z => Ending.returned (.int .i64 z)) hfin.out.symm
        · refine Below.trans ?_ (hb1.mono (by simp))
          exact (Below.refl _ _).alloc (by simp) _
  · obtain ⟨hge, hs⟩ := k1 hx0 hy0
    have hmx : ¬ x < -x := by omega
    have hmy : ¬ y < -y := by omega
    have hs0 : ¬ x + y = 0 := by omega
    have HG := Lib.hid hge
    clear hge k1 k2 k3 k4
    go_enter Try.func90, Try.ntmps90
    go_wp2_with (go_at_call 62; refine (dot_n _ _ _ _ n _ hx hy hx hy hn.out).mono ?_; rintro e w1 ⟨rfl, hb1⟩; obtain ⟨hc1, hf1⟩ := bcell hb1)
    go_loop [4, 5] (fun a b => ∃ r q : Int, 0 < r ∧ r ≤ 134217728 ∧ Hid (n < (r + 1) * (r + 1)) ∧ Hid (q = (r + n / r) / 2) ∧ a = .int .i64 r ∧ b = .int .i64 q) (fun a _ => (intOf a).toNat)
    case atStart => exact ⟨_, _, hs, by omega, HG, Lib.hid rfl, rfl, by rw [step_eq h0 h1 hs (by omega)]⟩
    case round =>
      obtain ⟨r, q, hr0, hr1, hg, hq, rfl, rfl⟩ := hrel
      by_cases hlt : q < r
      · have hq0 : 0 < q := by have := newton_pos h0 hr0 (by rw [← hq.out]; exact hlt); rw [hq.out]; exact this
        have hq2 : ¬ q = 0 := by omega
        have hgq : Hid (n < (q + 1) * (q + 1)) := by rw [hq.out]; exact newton_next h0 hr0
        have hst := Lib.hid (step_eq h0 h1 hq0 (by omega))
        go_wp2
        go_round
        case rel => exact ⟨q, _, hq0, by omega, hgq, Lib.hid rfl, rfl, by rw [hst.out]⟩
        case measure => simp [intOf]; omega
      · have hfin : Hid (isqI n = r) := newton_end hr0 hg.out (by rw [← hq.out]; omega)
        go_wp2
        go_ret
        refine ⟨?_, ?_⟩
        · exact congrArg (fun z => Ending.returned (.int .i64 z)) hfin.out.symm
        · refine Below.trans ?_ (hb1.mono (by simp))
          exact (Below.refl _ _).alloc (by simp) _

theorem norm_zero (w : World) :
    Calls Try.prog 90 #[sp 0 0] w fun e w' => e = .returned (.int .i64 0) ∧ Below w.heap.size w w' := by
  have ho : okd 0 := by simp [okd]
  go_enter Try.func90, Try.ntmps90
  go_wp2_with (go_at_call 62; refine (dot_n _ _ _ _ 0 _ ho ho ho ho (by omega)).mono ?_; rintro e w1 ⟨rfl, hb1⟩; obtain ⟨hc1, hf1⟩ := bcell hb1)
  go_ret
  refine ⟨rfl, ?_⟩
  refine Below.trans ?_ (hb1.mono (by simp))
  exact (Below.refl _ _).alloc (by simp) _

/-- **norm: the root, rounded down, of the square of the length.** -/
theorem norm_any (x y : Int) (w : World) (hx : okd x) (hy : okd y) :
    Calls Try.prog 90 #[sp x y] w fun e w' => e = .returned (.int .i64 (isqI (x * x + y * y))) ∧ Below w.heap.size w w' := by
  have h1 := okd_mul hx hx
  have h2 := okd_mul hy hy
  by_cases h : 0 < x * x + y * y
  · exact norm_pos x y _ w hx hy (Lib.hid rfl) h (by omega)
  · obtain ⟨rfl, rfl⟩ := sq_zero h
    exact norm_zero w
end Go.Proofs.Ytglkpabcflecmaa

namespace Go.Proofs.Ytglkpabcflecmaa
open Go.RowKit

/-- n spots lie in block b from offset off on. -/
def Pts (w : World) (b off n : Nat) (X Y : Nat → Int) : Prop :=
  ∀ i, i < n → w.cell? ⟨b, off + i * 2, none⟩ = some (.int .i64 (X i)) ∧ w.cell? ⟨b, off + i * 2 + 1, none⟩ = some (.int .i64 (Y i))
theorem Pts.below {B : Nat} {w w' : World} {b off n : Nat} {X Y : Nat → Int} (h : Pts w b off n X Y) (hb : Below B w w') (hlt : b < B) : Pts w' b off n X Y :=
  fun i hi => ⟨(hb.cell (p := ⟨b, off + i * 2, none⟩) hlt).trans (h i hi).1, (hb.cell (p := ⟨b, off + i * 2 + 1, none⟩) hlt).trans (h i hi).2⟩
theorem Pts.lt {w : World} {b off n : Nat} {X Y : Nat → Int} (h : Pts w b off n X Y) (hn : 0 < n) : b < w.heap.size := World.block_lt_of_cell? w _ (h 0 hn).1

set_option maxHeartbeats 800000 in
theorem valid_yes (b off n cap : Nat) (X Y : Nat → Int) (w : World) (hp : Pts w b off n X Y) (hb : b < w.heap.size) (hn : n ≤ 1000000) (hok : ∀ i, i < n → okc (X i) ∧ okc (Y i)) :
    Calls Try.prog 59 #[.slice (some ⟨b, off, none⟩) n cap] w fun e w' => e = .returned (.bool true) ∧ Below w.heap.size w w' := by
  go_enter Try.func59, Try.ntmps59
  go_wp2
  go_loopw [7] (fun i wr => ∃ k : Nat, k ≤ n ∧ i = .int .i64 k ∧ Below w.heap.size w wr) (fun i _ => n - (intOf i).toNat)
  case atStart => exact ⟨0, Nat.zero_le _, rfl, Below.refl _ _⟩
  case round =>
    obtain ⟨k, hk, rfl, hB⟩ := hrel
    have hsz := hB.size
    by_cases hlt : k < n
    · obtain ⟨hx, hy⟩ := (hp.below hB hb) k hlt
      obtain ⟨⟨x1, x2⟩, ⟨y1, y2⟩⟩ := hok k hlt
      go_wp2
      go_roundw
      case rel => exact ⟨k + 1, by omega, by go_num, by
        repeat (first | exact hB | refine Below.setCell ?_ (by first | omega | (simp; omega) | simp) _ | refine Below.alloc ?_ (by first | omega | (simp; omega) | simp) _)⟩
      case measure => simp [intOf]; omega
    · go_wp2
      go_ret
      exact ⟨rfl, hB⟩
set_option maxHeartbeats 1600000 in
theorem valid_no (b off n cap : Nat) (X Y : Nat → Int) (w : World) (hp : Pts w b off n X Y) (hb : b < w.heap.size) (hn : n ≤ 1000000) (j : Nat) (hj : j < n) (hbad : ¬ (okc (X j) ∧ okc (Y j))) :
    Calls Try.prog 59 #[.slice (some ⟨b, off, none⟩) n cap] w fun e w' => e = .returned (.bool false) ∧ Below w.heap.size w w' := by
  have HB := Lib.hid hbad
  clear hbad
  go_enter Try.func59, Try.ntmps59
  go_wp2
  go_loopw [7] (fun i wr => ∃ k : Nat, k ≤ j ∧ i = .int .i64 k ∧ Below w.heap.size w wr) (fun i _ => n - (intOf i).toNat)
  case atStart => exact ⟨0, Nat.zero_le _, rfl, Below.refl _ _⟩
  case round =>
    obtain ⟨k, hk, rfl, hB⟩ := hrel
    have hsz := hB.size
    have hlt : k < n := by omega
    obtain ⟨hx, hy⟩ := (hp.below hB hb) k hlt
    by_cases x1 : X k < -16777216
    · go_wp2
      go_ret
      exact ⟨rfl, by
        repeat (first | exact hB | refine Below.setCell ?_ (by first | omega | (simp; omega) | simp) _ | refine Below.alloc ?_ (by first | omega | (simp; omega) | simp) _)⟩
    by_cases x2 : X k > 16777216
    · go_wp2
      go_ret
      exact ⟨rfl, by
        repeat (first | exact hB | refine Below.setCell ?_ (by first | omega | (simp; omega) | simp) _ | refine Below.alloc ?_ (by first | omega | (simp; omega) | simp) _)⟩
    by_cases y1 : Y k < -16777216
    · go_wp2
      go_ret
      exact ⟨rfl, by
        repeat (first | exact hB | refine Below.setCell ?_ (by first | omega | (simp; omega) | simp) _ | refine Below.alloc ?_ (by first | omega | (simp; omega) | simp) _)⟩
    by_cases y2 : Y k > 16777216
    · go_wp2
      go_ret
      exact ⟨rfl, by
        repeat (first | exact hB | refine Below.setCell ?_ (by first | omega | (simp; omega) | simp) _ | refine Below.alloc ?_ (by first | omega | (simp; omega) | simp) _)⟩
    have hkj : k < j := by
      rcases Nat.lt_or_ge k j with h | h
      · exact h
      · obtain rfl : k = j := by omega
        exact absurd ⟨⟨by omega, by omega⟩, ⟨by omega, by omega⟩⟩ HB.out
    go_wp2
    go_roundw
    case rel => exact ⟨k + 1, by omega, by go_num, by
        repeat (first | exact hB | refine Below.setCell ?_ (by first | omega | (simp; omega) | simp) _ | refine Below.alloc ?_ (by first | omega | (simp; omega) | simp) _)⟩
    case measure => simp [intOf]; omega

/-- No spot at all. -/
theorem valid_nil (A : Option Addr) (cap : Nat) (w : World) :
    Calls Try.prog 59 #[.slice A 0 cap] w fun e w' => e = .returned (.bool true) ∧ Below w.heap.size w w' := by
  go_enter Try.func59, Try.ntmps59
  go_wp2
  go_loopw [7] (fun i wr => i = .int .i64 0 ∧ Below w.heap.size w wr) (fun _ _ => 0)
  case atStart => exact ⟨rfl, Below.refl _ _⟩
  case round =>
    obtain ⟨rfl, hB⟩ := hrel
    go_wp2
    go_ret
    exact ⟨rfl, hB⟩
end Go.Proofs.Ytglkpabcflecmaa

