/- Plain mathematics of the curves that the statements make of numbers: right triangles, turned by quarters. It names no program. -/
/- The kit's 'Mod', 'Mod64' and its table of triangles. -/
import Derived.Test.YtglkpabcflecmaaLen
import Derived.Test.YtglkpabcflecmaaAwk2
namespace Go.Proofs.Ytglkpabcflecmaa

/-- The sides of the triangle r. -/
def tri0 (r : Nat) : Int := match r with | 0 => 1 | 1 => 3 | 2 => 4 | 3 => 5 | 4 => 12 | 5 => 8 | 6 => 15 | 7 => 7 | 8 => 24 | 9 => 20 | _ => 21
def tri1 (r : Nat) : Int := match r with | 0 => 0 | 1 => 4 | 2 => 3 | 3 => 12 | 4 => 5 | 5 => 15 | 6 => 8 | 7 => 24 | 8 => 7 | 9 => 21 | _ => 20
def tri2 (r : Nat) : Int := match r with | 0 => 1 | 1 => 5 | 2 => 5 | 3 => 13 | 4 => 13 | 5 => 17 | 6 => 17 | 7 => 25 | 8 => 25 | 9 => 29 | _ => 29
theorem tri_cases (r : Nat) : r = 0 ∨ r = 1 ∨ r = 2 ∨ r = 3 ∨ r = 4 ∨ r = 5 ∨ r = 6 ∨ r = 7 ∨ r = 8 ∨ r = 9 ∨ 10 ≤ r := by omega
theorem tri_ok (r : Nat) : 0 < tri0 r ∧ 0 ≤ tri1 r ∧ 0 < tri2 r ∧ tri2 r ≤ 29 ∧ tri0 r ≤ tri2 r ∧ tri1 r ≤ tri2 r ∧ tri0 r * tri0 r + tri1 r * tri1 r = tri2 r * tri2 r := by
  rcases tri_cases r with rfl | rfl | rfl | rfl | rfl | rfl | rfl | rfl | rfl | rfl | h
  iterate 10 decide
  obtain ⟨k, rfl⟩ : ∃ k, r = k + 10 := ⟨r - 10, by omega⟩
  show (0 : Int) < 21 ∧ (0 : Int) ≤ 20 ∧ (0 : Int) < 29 ∧ (29 : Int) ≤ 29 ∧ (21 : Int) ≤ 29 ∧ (20 : Int) ≤ 29 ∧ (21 : Int) * 21 + 20 * 20 = 29 * 29
  decide

/-- How often the triangle is taken. -/
def triK (n : Int) : Int := 1000 / tri2 (n % 11).toNat + 1 + (n / 11 % 2000) / tri2 (n % 11).toNat
theorem triK_bd (n : Int) (hn : 0 ≤ n) : 0 < triK n ∧ triK n ≤ 3001 ∧ 1000 ≤ tri2 (n % 11).toNat * triK n ∧ tri2 (n % 11).toNat * triK n ≤ 3100 := by
  obtain ⟨_, _, h1, h2, _⟩ := tri_ok (n % 11).toNat
  unfold triK
  generalize tri2 (n % 11).toNat = d at *
  have h3 : 0 ≤ n / 11 % 2000 := Int.emod_nonneg _ (by decide)
  have h4 : n / 11 % 2000 < 2000 := Int.emod_lt_of_pos _ (by decide)
  generalize n / 11 % 2000 = z at *
  have a1 := Int.mul_ediv_add_emod 1000 d
  have a2 := Int.emod_nonneg 1000 (show d ≠ 0 by omega)
  have a3 := Int.emod_lt_of_pos 1000 h1
  have b1 := Int.mul_ediv_add_emod z d
  have b2 := Int.emod_nonneg z (show d ≠ 0 by omega)
  have b3 := Int.emod_lt_of_pos z h1
  have c1 : 0 ≤ 1000 / d := Int.ediv_nonneg (by omega) (by omega)
  have c2 : 0 ≤ z / d := Int.ediv_nonneg (by omega) (by omega)
  have c5 := Int.mul_nonneg (show 0 ≤ d by omega) c2
  have c3 : 1000 / d ≤ 1000 := Int.ediv_le_self _ (by omega)
  have c4 : z / d ≤ z := Int.ediv_le_self _ (by omega)
  have e : d * (1000 / d + 1 + z / d) = d * (1000 / d) + d + d * (z / d) := by grind
  exact ⟨by omega, by omega, by omega, by omega⟩

/-- Quarter turns. -/
def rot (a b : Int) : Nat → Int × Int
  | 0 => (a, b)
  | q + 1 => (-(rot a b q).2, (rot a b q).1)
theorem rot_dot (a b a' b' : Int) (q : Nat) : (rot a b q).1 * (rot a' b' q).1 + (rot a b q).2 * (rot a' b' q).2 = a * a' + b * b' := by
  induction q with
  | zero => rfl
  | succ q ih =>
    show -(rot a b q).2 * -(rot a' b' q).2 + (rot a b q).1 * (rot a' b' q).1 = _
    rw [Int.neg_mul_neg]; omega
theorem rot_bd {a b B : Int} (ha : -B ≤ a ∧ a ≤ B) (hb : -B ≤ b ∧ b ≤ B) (q : Nat) : (-B ≤ (rot a b q).1 ∧ (rot a b q).1 ≤ B) ∧ -B ≤ (rot a b q).2 ∧ (rot a b q).2 ≤ B := by
  induction q with
  | zero => exact ⟨ha, hb⟩
  | succ q ih =>
    obtain ⟨⟨h1, h2⟩, h3, h4⟩ := ih
    show (-B ≤ -(rot a b q).2 ∧ -(rot a b q).2 ≤ B) ∧ -B ≤ (rot a b q).1 ∧ (rot a b q).1 ≤ B
    omega

/-- The numbers of a piece: the step i of m steps. -/
def stepK (m : Nat) (S : Nat → Int) (i : Nat) : Int := if i < m then S i % 1048576 else 0
theorem stepK_bd (m : Nat) (S : Nat → Int) (i : Nat) : 0 ≤ stepK m S i ∧ stepK m S i < 1048576 := by
  unfold stepK
  split
  · exact ⟨Int.emod_nonneg _ (by decide), Int.emod_lt_of_pos _ (by decide)⟩
  · omega
def firstK (m : Nat) (S : Nat → Int) : Int := if 0 < m then S 0 % 48 else 0
theorem firstK_bd (m : Nat) (S : Nat → Int) : 0 ≤ firstK m S ∧ firstK m S < 48 := by
  unfold firstK
  split
  · exact ⟨Int.emod_nonneg _ (by decide), Int.emod_lt_of_pos _ (by decide)⟩
  · omega
def quarter (m : Nat) (S : Nat → Int) : Nat := (firstK m S % 4).toNat
theorem quarter_lt (m : Nat) (S : Nat → Int) : quarter m S < 4 := by
  unfold quarter; have := Int.emod_lt_of_pos (firstK m S) (show (0:Int) < 4 by decide); omega
def legA (m : Nat) (S : Nat → Int) (i : Nat) : Int := tri0 (stepK m S i % 11).toNat * triK (stepK m S i)
def legB (m : Nat) (S : Nat → Int) (i : Nat) : Int := tri1 (stepK m S i % 11).toNat * triK (stepK m S i)
def legL (m : Nat) (S : Nat → Int) (i : Nat) : Int := tri2 (stepK m S i % 11).toNat * triK (stepK m S i)
theorem leg_ok (m : Nat) (S : Nat → Int) (i : Nat) : 0 < legA m S i ∧ 0 ≤ legB m S i ∧ 1000 ≤ legL m S i ∧ legL m S i ≤ 3100 ∧ legA m S i ≤ 3100 ∧ legB m S i ≤ 3100 ∧ legA m S i * legA m S i + legB m S i * legB m S i = legL m S i * legL m S i := by
  obtain ⟨h1, h2, h3, h4⟩ := triK_bd (stepK m S i) (stepK_bd m S i).1
  obtain ⟨t0, t1, t2, t3, t4, t5, t6⟩ := tri_ok (stepK m S i % 11).toNat
  unfold legA legB legL
  generalize tri0 (stepK m S i % 11).toNat = a at *
  generalize tri1 (stepK m S i % 11).toNat = b at *
  generalize tri2 (stepK m S i % 11).toNat = d at *
  generalize triK (stepK m S i) = k at *
  have e1 := Int.mul_pos t0 h1
  have e2 := Int.mul_nonneg t1 (show 0 ≤ k by omega)
  have e3 := Int.mul_le_mul_of_nonneg_right t4 (show 0 ≤ k by omega)
  have e4 := Int.mul_le_mul_of_nonneg_right t5 (show 0 ≤ k by omega)
  refine ⟨e1, e2, h3, h4, by omega, by omega, ?_⟩
  have : a * k * (a * k) + b * k * (b * k) = (a * a + b * b) * (k * k) := by grind
  rw [this, t6]; grind

/-- The curve of the numbers x, y, S. -/
def chX (x : Int) (m : Nat) (S : Nat → Int) : Nat → Int
  | 0 => x
  | i + 1 => chX x m S i + (rot (legA m S i) (legB m S i) (quarter m S)).1
def chY (y : Int) (m : Nat) (S : Nat → Int) : Nat → Int
  | 0 => y
  | i + 1 => chY y m S i + (rot (legA m S i) (legB m S i) (quarter m S)).2
def chN (m : Nat) : Nat := (if m = 0 then 1 else if m < 5 then m else 5) + 1
theorem chN_bd (m : Nat) : 2 ≤ chN m ∧ chN m ≤ 6 := by unfold chN; split; omega; split <;> omega
def chain (x y : Int) (m : Nat) (S : Nat → Int) : Crv := ⟨chN m, chX x m S, chY y m S⟩

theorem ch_bd {x y : Int} (m : Nat) (S : Nat → Int) (hx : -20000 ≤ x ∧ x ≤ 20000) (hy : -20000 ≤ y ∧ y ≤ 20000) (i : Nat) :
    (-(20000 + 3100 * (i : Int)) ≤ chX x m S i ∧ chX x m S i ≤ 20000 + 3100 * (i : Int)) ∧ -(20000 + 3100 * (i : Int)) ≤ chY y m S i ∧ chY y m S i ≤ 20000 + 3100 * (i : Int) := by
  induction i with
  | zero => show (_ ≤ x ∧ x ≤ _) ∧ _ ≤ y ∧ y ≤ _; omega
  | succ i ih =>
    obtain ⟨a1, a2, a3, a4, a5, a6, _⟩ := leg_ok m S i
    have := rot_bd (B := 3100) (a := legA m S i) (b := legB m S i) (by omega) (by omega) (quarter m S)
    show (_ ≤ chX x m S i + _ ∧ chX x m S i + _ ≤ _) ∧ _ ≤ chY y m S i + _ ∧ chY y m S i + _ ≤ _
    push_cast
    omega
theorem chain_wx (x y : Int) (m : Nat) (S : Nat → Int) (i : Nat) : (chain x y m S).wx i = (rot (legA m S i) (legB m S i) (quarter m S)).1 := by
  show chX x m S i + _ - chX x m S i = _; omega
theorem chain_wy (x y : Int) (m : Nat) (S : Nat → Int) (i : Nat) : (chain x y m S).wy i = (rot (legA m S i) (legB m S i) (quarter m S)).2 := by
  show chY y m S i + _ - chY y m S i = _; omega
theorem chain_d2 (x y : Int) (m : Nat) (S : Nat → Int) (i : Nat) : (chain x y m S).d2 i = legL m S i * legL m S i := by
  unfold Crv.d2
  rw [chain_wx, chain_wy, rot_dot]
  exact (leg_ok m S i).2.2.2.2.2.2
theorem chain_len (x y : Int) (m : Nat) (S : Nat → Int) (i : Nat) : (chain x y m S).len i = legL m S i := by
  obtain ⟨_, _, h, _⟩ := leg_ok m S i
  unfold Crv.len
  rw [chain_d2]
  refine isqI_uniq (by omega) (Int.le_refl _) ?_
  have e : (legL m S i + 1) * (legL m S i + 1) = legL m S i * legL m S i + 2 * legL m S i + 1 := by grind
  omega

/-- A curve that is far from the border of what is valid. -/
structure Mid (c : Crv) : Prop where
  good : Good c
  few : c.n ≤ 6
  bx : ∀ i, i < c.n → -40000 ≤ c.X i ∧ c.X i ≤ 40000
  bY : ∀ i, i < c.n → -40000 ≤ c.Y i ∧ c.Y i ≤ 40000
  pc : ∀ i, i + 1 < c.n → c.len i ≤ 3100
theorem chain_mid {x y : Int} (m : Nat) (S : Nat → Int) (hx : -20000 ≤ x ∧ x ≤ 20000) (hy : -20000 ≤ y ∧ y ≤ 20000) : Mid (chain x y m S) := by
  have hn : (chain x y m S).n ≤ 6 := (chN_bd m).2
  have hB : ∀ i, i < (chain x y m S).n → (-40000 ≤ (chain x y m S).X i ∧ (chain x y m S).X i ≤ 40000) ∧ -40000 ≤ (chain x y m S).Y i ∧ (chain x y m S).Y i ≤ 40000 := fun i hi => by
    have := ch_bd m S hx hy i
    show (_ ≤ chX x m S i ∧ chX x m S i ≤ _) ∧ _ ≤ chY y m S i ∧ chY y m S i ≤ _
    omega
  refine ⟨⟨(chN_bd m).1, by omega, fun i hi => ?_, fun i hi => ?_⟩, hn, fun i hi => (hB i hi).1, fun i hi => (hB i hi).2, fun i hi => ?_⟩
  · have := hB i hi; unfold okc; omega
  · have hp : (chain x y m S).perr i = 0 := by
      unfold Crv.perr
      rw [chain_len, chain_d2]
      obtain ⟨_, _, h1, h2, _⟩ := leg_ok m S i
      rw [if_neg (by simp), if_neg (by omega)]
    unfold Crv.ferr
    rw [hp, if_neg (by simp), if_neg]
    rintro ⟨hi0, ht⟩
    obtain ⟨j, rfl⟩ : ∃ j, i = j + 1 := ⟨i - 1, by omega⟩
    unfold Crv.turn at ht
    rw [show j + 1 - 1 = j by omega, chain_wx, chain_wy, chain_wx, chain_wy, rot_dot] at ht
    obtain ⟨a1, a2, _⟩ := leg_ok m S j
    obtain ⟨b1, b2, _⟩ := leg_ok m S (j + 1)
    have := Int.mul_pos a1 b1
    have := Int.mul_nonneg a2 b2
    omega
  · rw [chain_len]; exact (leg_ok m S i).2.2.2.1
end Go.Proofs.Ytglkpabcflecmaa

namespace Go.Proofs.Ytglkpabcflecmaa
open Go.RowKit Go.Shelf

theorem tmod_cases (n m : Int) (hm : 0 < m) : (n.tmod m < 0 → n % m = n.tmod m + m) ∧ (0 ≤ n.tmod m → n % m = n.tmod m) ∧ -m < n.tmod m ∧ n.tmod m < m := by
  have h1 := Int.emod_nonneg n (show m ≠ 0 by omega)
  have h2 := Int.emod_lt_of_pos n hm
  have h := Int.tmod_eq_emod (a := n) (b := m)
  split at h
  · omega
  · rename_i h3
    have h4 : n % m ≠ 0 := fun h => h3 (.inr (Int.dvd_of_emod_eq_zero h))
    omega

set_option maxHeartbeats 1000000 in
theorem mod_any (n m : Int) (w : World) (hm : 0 < m) (hm' : m ≤ 1048576) : Calls Try.prog 67 #[.int .i64 n, .int .i64 m] w fun e w' => e = .returned (.int .i64 (n % m)) ∧ w = w' := by
  have hm0 : ¬ m = 0 := by omega
  obtain ⟨h1, h2, h3, h4⟩ := tmod_cases n m hm
  obtain ⟨r, hr⟩ : ∃ r, r = n % m := ⟨_, rfl⟩
  rw [← hr] at h1 h2 ⊢
  clear hr
  obtain ⟨t, ht⟩ : ∃ t, n.tmod m = t := ⟨_, rfl⟩
  rw [ht] at h1 h2 h3 h4
  rcases Int.lt_or_le t 0 with h | h
  · have E := Lib.hid (h1 h)
    clear h1 h2
    go_enter Try.func67, Try.ntmps67
    go_wp2
    go_ret
    exact ⟨congrArg (fun z => Ending.returned (.int .i64 z)) E.out.symm, rfl⟩
  · have E := Lib.hid (h2 h)
    clear h1 h2
    go_enter Try.func67, Try.ntmps67
    go_wp2
    go_ret
    exact ⟨congrArg (fun z => Ending.returned (.int .i64 z)) E.out.symm, rfl⟩
set_option maxHeartbeats 1000000 in
theorem mod64_any (n m : Int) (w : World) (hm : 0 < m) (hm' : m ≤ 4294967296) : Calls Try.prog 56 #[.int .i64 n, .int .i64 m] w fun e w' => e = .returned (.int .i64 (n % m)) ∧ w = w' := by
  have hm0 : ¬ m = 0 := by omega
  obtain ⟨h1, h2, h3, h4⟩ := tmod_cases n m hm
  obtain ⟨r, hr⟩ : ∃ r, r = n % m := ⟨_, rfl⟩
  rw [← hr] at h1 h2 ⊢
  clear hr
  obtain ⟨t, ht⟩ : ∃ t, n.tmod m = t := ⟨_, rfl⟩
  rw [ht] at h1 h2 h3 h4
  rcases Int.lt_or_le t 0 with h | h
  · have E := Lib.hid (h1 h)
    clear h1 h2
    go_enter Try.func56, Try.ntmps56
    go_wp2
    go_ret
    exact ⟨congrArg (fun z => Ending.returned (.int .i64 z)) E.out.symm, rfl⟩
  · have E := Lib.hid (h2 h)
    clear h1 h2
    go_enter Try.func56, Try.ntmps56
    go_wp2
    go_ret
    exact ⟨congrArg (fun z => Ending.returned (.int .i64 z)) E.out.symm, rfl⟩

abbrev i64s (l : List Int) : Array Value := (l.map (fun z => Value.int .i64 z)).toArray
abbrev triCells : Array Value := #[.int .i64 1, .int .i64 0, .int .i64 1, .int .i64 3, .int .i64 4, .int .i64 5, .int .i64 4, .int .i64 3, .int .i64 5, .int .i64 5, .int .i64 12, .int .i64 13, .int .i64 12, .int .i64 5, .int .i64 13,
  .int .i64 8, .int .i64 15, .int .i64 17, .int .i64 15, .int .i64 8, .int .i64 17, .int .i64 7, .int .i64 24, .int .i64 25, .int .i64 24, .int .i64 7, .int .i64 25, .int .i64 20, .int .i64 21, .int .i64 29, .int .i64 21, .int .i64 20, .int .i64 29, .int .i64 0, .int .i64 1, .int .i64 1]
set_option maxHeartbeats 1000000 in
theorem triples_any (w : World) : Calls Try.prog 66 #[] w fun e w' => e = .returned (.slice (some ⟨w.heap.size, 0, none⟩) 12 12) ∧ w' = w.alloc (.cells triCells 88) := by
  go_enter Try.func66, Try.ntmps66
  go_wp2
  go_ret
  exact ⟨rfl, rfl⟩
theorem tri_cells {w : World} {g : Nat} (h : BoxAt w g 88 triCells) (r : Nat) (hr : r < 11) :
    w.cell? ⟨g, 0 + r * 3, none⟩ = some (.int .i64 (tri0 r)) ∧ w.cell? ⟨g, 0 + r * 3 + 1, none⟩ = some (.int .i64 (tri1 r)) ∧ w.cell? ⟨g, 0 + r * 3 + 2, none⟩ = some (.int .i64 (tri2 r)) := by
  have : r = 0 ∨ r = 1 ∨ r = 2 ∨ r = 3 ∨ r = 4 ∨ r = 5 ∨ r = 6 ∨ r = 7 ∨ r = 8 ∨ r = 9 ∨ r = 10 := by omega
  rcases this with rfl | rfl | rfl | rfl | rfl | rfl | rfl | rfl | rfl | rfl | rfl <;> exact ⟨h.cell _, h.cell _, h.cell _⟩
end Go.Proofs.Ytglkpabcflecmaa

