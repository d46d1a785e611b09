/- Lists of spots: copied, compared. next 88, validCorners 87, the reference's corners 89: of lists of spots. Area2 of any list of corners: the program's 45 and the reference's 46. The reference's Area2 of any list of corners. Inside of any list of corners: the program's 47. The reference's Inside 48 of any list of corners. -/
import Derived.Test.YtaehfildhmljeaaPtsL
import Derived.Test.YtaehfildhmljeaaChkC
import Derived.Test.YtaehfildhmljeaaIdxP
import Derived.BigQuiet
import Derived.Test.YtaehfildhmljeaaQBel
import Derived.Test.YtaehfildhmljeaaRef4
import Derived.Deep.CutBlock
namespace Go.Proofs.Ytaehfildhmljeaa
open Go.RowKit Go.Shelf

def Spots (w : World) (A : Option Addr) (n : Nat) (X Y : Nat → Int) : Prop := 0 < n → ∃ b off, A = some ⟨b, off, none⟩ ∧ Pts w b off n X Y
theorem Spots.below {w w' : World} {A : Option Addr} {n : Nat} {X Y : Nat → Int} (h : Spots w A n X Y) (hb : Below w.heap.size w w') : Spots w' A n X Y := fun hn => by
  obtain ⟨b, off, e, hp⟩ := h hn
  exact ⟨b, off, e, hp.below hb (hp.lt hn)⟩
def cellsL (X Y : Nat → Int) : Nat → List Value
  | 0 => []
  | k + 1 => cellsL X Y k ++ [.int .i64 (X k), .int .i64 (Y k)]
theorem cellsL_length (X Y : Nat → Int) (k : Nat) : (cellsL X Y k).length = k * 2 := by induction k with | zero => rfl | succ k ih => simp [cellsL, ih]; omega
theorem cellsL_get (X Y : Nat → Int) {k i : Nat} (h : i < k) : (cellsL X Y k)[i * 2]? = some (.int .i64 (X i)) ∧ (cellsL X Y k)[i * 2 + 1]? = some (.int .i64 (Y i)) := by
  induction k with
  | zero => omega
  | succ k ih =>
    have hl := cellsL_length X Y k
    unfold cellsL
    rcases Nat.lt_or_ge i k with h' | h'
    · obtain ⟨a, b⟩ := ih h'
      exact ⟨by rw [List.getElem?_append_left (by omega)]; exact a, by rw [List.getElem?_append_left (by omega)]; exact b⟩
    · obtain rfl : i = k := by omega
      exact ⟨by rw [List.getElem?_append_right (by omega), hl]; simp, by rw [List.getElem?_append_right (by omega), hl]; simp⟩
/-- A row that a call owns, as spots. -/
theorem Pts.of_own {w : World} {base g k cap : Nat} {X Y : Nat → Int} (h : w.ownsRow base 24 2 (.slice (some ⟨g, 0, none⟩) k cap) k (cellsL X Y k)) : Pts w g 0 k X Y := by
  intro i hi
  obtain ⟨a, b⟩ := cellsL_get X Y hi
  have add : ∀ j, (⟨g, 0, none⟩ : Addr).add j = ⟨g, 0 + j, none⟩ := fun j => by unfold Addr.add; split <;> simp_all
  have h1 := h.cells (g := g) rfl _ _ a
  have h2 := h.cells (g := g) rfl _ _ b
  rw [add] at h1 h2
  exact ⟨h1, by rw [show 0 + i * 2 + 1 = 0 + (i * 2 + 1) by omega]; exact h2⟩
theorem cellsL_inv {X Y : Nat → Int} {n j : Nat} {u : Value} (h : (cellsL X Y n)[j]? = some u) : ∃ i, i < n ∧ ((j = i * 2 ∧ u = .int .i64 (X i)) ∨ (j = i * 2 + 1 ∧ u = .int .i64 (Y i))) := by
  have hj : j < (cellsL X Y n).length := (List.getElem?_eq_some_iff.1 h).1
  rw [cellsL_length] at hj
  have hi : j / 2 < n := by omega
  obtain ⟨a, b⟩ := cellsL_get X Y hi
  refine ⟨j / 2, hi, ?_⟩
  rcases Nat.mod_two_eq_zero_or_one j with e | e
  · have e2 : j / 2 * 2 = j := by omega
    rw [e2] at a; rw [a] at h; cases h
    exact .inl ⟨e2.symm, rfl⟩
  · have e2 : j / 2 * 2 + 1 = j := by omega
    rw [e2] at b; rw [b] at h; cases h
    exact .inr ⟨e2.symm, rfl⟩

theorem empty_rowS (w : World) : (w.alloc (.cells #[] 24)).ownsRow w.heap.size 24 2 (.slice (some ⟨w.heap.size, 0, none⟩) 0 0) 0 [] :=
  ⟨rfl, .inr ⟨w.heap.size, 0, #[], rfl, Nat.le_refl _, World.alloc_heap_new w _, Nat.le_refl _, by decide, rfl, rfl⟩⟩


set_option maxHeartbeats 2000000 in
theorem ownspots_some (b off n cap : Nat) (X Y : Nat → Int) (hn : 0 < n) (hn' : n ≤ 1100) (w : World) (hp : Pts w b off n X Y) :
    Calls Try.prog 41 #[.slice (some ⟨b, off, none⟩) n cap] w fun e w' => ∃ g cap', e = .returned (.slice (some ⟨g, 0, none⟩) n cap') ∧ Pts w' g 0 n X Y ∧ Below w.heap.size w w' := by
  obtain ⟨i0, hi0, hz0, hz1, hz2⟩ := info_parts Try.info24
  have hI0 := Lib.hid hi0
  have hZ0 := Lib.hid hz0
  have hZ1 := Lib.hid hz1
  have hZ2 := Lib.hid hz2
  clear hi0 hz0 hz1 hz2
  have hb := hp.lt hn
  have hE := Lib.hid (empty_rowS w)
  have hB : Below w.heap.size w (w.alloc (.cells #[] 24)) := (Below.refl _ _).alloc (Nat.le_refl _) _
  have hP := Lib.hid (hp.below hB hb)
  have hnews : Hid (∀ j u, (cellsL X Y n)[j]? = some u → (w.alloc (.cells #[] 24)).cell? ((⟨b, off, none⟩ : Addr).add j) = some u) := by
    intro j u h
    obtain ⟨i, hi, ⟨rfl, rfl⟩ | ⟨rfl, rfl⟩⟩ := cellsL_inv h
    · rw [add_plain]; exact (hP.out i hi).1
    · rw [add_plain, ← Nat.add_assoc]; exact (hP.out i hi).2
  have hone : Hid (∀ u ∈ cellsL X Y n, u.oneCell' = true) := by
    intro u hu
    obtain ⟨j, hj⟩ := List.getElem?_of_mem hu
    obtain ⟨i, hi, ⟨_, rfl⟩ | ⟨_, rfl⟩⟩ := cellsL_inv hj <;> simp [Value.oneCell']
  clear hp
  go_enter Try.func41, Try.ntmps41
  go_wp2_with (at_builtin; refine wpList_append_lies _ rfl _ _ 56 rfl w.heap.size 24 i0 _ 2 16 Try.underlying56 hI0.out hZ0.out hZ1.out hZ2.out rfl (by decide) (.slice (some ⟨w.heap.size, 0, none⟩) 0 0) 0 [] rfl hE.out ⟨b, off, none⟩ n cap (cellsL X Y n) rfl (cellsL_length X Y n) hnews.out hone.out hn (by unfold maxLen; omega) (by omega) (by simp) _ rfl ?_; intro gg cap1 w7 hown7 hgrow hat hlt7)
  rw [Nat.zero_add, List.nil_append] at hown7
  have hP7 := Lib.hid (Pts.of_own hown7)
  have hB7 : Below w.heap.size w w7 := hB.grown hgrow (by simp) (fun g e => by simp [Value.ownBlock] at e; omega)
  have e0 : 0 + n = n := Nat.zero_add n
  clear hown7 hat
  go_wp2
  go_ret
  exact ⟨gg, cap1, by simp, hP7.out, hB7⟩
set_option maxHeartbeats 2000000 in
theorem ownspots_nil (A : Option Addr) (cap : Nat) (w : World) :
    Calls Try.prog 41 #[.slice A 0 cap] w fun e w' => ∃ B cap', e = .returned (.slice B 0 cap') ∧ Below w.heap.size w w' := by
  obtain _ | ⟨b, off, row⟩ := A
  · go_enter Try.func41, Try.ntmps41
    go_wp2
    go_ret
    exact ⟨_, _, rfl, (Below.refl _ _).alloc (Nat.le_refl _) _⟩
  · go_enter Try.func41, Try.ntmps41
    go_wp2
    go_ret
    exact ⟨_, _, rfl, (Below.refl _ _).alloc (Nat.le_refl _) _⟩

theorem ownspots_any (A : Option Addr) (n cap : Nat) (X Y : Nat → Int) (hn' : n ≤ 1100) (w : World) (h : Spots w A n X Y) :
    Calls Try.prog 41 #[.slice A n cap] w fun e w' => ∃ B cap', e = .returned (.slice B n cap') ∧ Spots w' B n X Y ∧ Below w.heap.size w w' := by
  rcases Nat.eq_zero_or_pos n with rfl | hn
  · refine (ownspots_nil A cap w).mono ?_
    rintro e w' ⟨B, cap', rfl, hb⟩
    exact ⟨B, cap', rfl, fun h => absurd h (by omega), hb⟩
  · obtain ⟨b, off, rfl, hp⟩ := h hn
    refine (ownspots_some b off n cap X Y hn hn' w hp).mono ?_
    rintro e w' ⟨g, cap', rfl, hp', hb⟩
    exact ⟨_, cap', rfl, fun _ => ⟨g, 0, rfl, hp'⟩, hb⟩


set_option maxHeartbeats 4000000 in
theorem same_spots (A1 A2 : Option Addr) (n c1 c2 : Nat) (X Y : Nat → Int) (w : World) (hn : n ≤ 1000000) (h1 : Spots w A1 n X Y) (h2 : Spots w A2 n X Y) :
    Calls Try.prog 44 #[.slice A1 n c1, .slice A2 n c2] w fun e w' => e = .returned (.bool true) ∧ Below w.heap.size w w' := by
  have H1 := Lib.hid h1
  have H2 := Lib.hid h2
  clear h1 h2
  go_enter Try.func44, Try.ntmps44
  go_wp2
  go_loopw [5] (fun i wr => ∃ k : Nat, k ≤ n ∧ i = .int .i64 k ∧ Hid (Below w.heap.size w wr)) (fun i _ => n - (intOf i).toNat)
  case atStart => exact ⟨0, Nat.zero_le _, rfl, Lib.hid (Below.refl _ _)⟩
  case round =>
    obtain ⟨k, hk, rfl, hB⟩ := hrel
    by_cases hlt : k < n
    · obtain ⟨b1, o1, e1, p1⟩ := H1.out (by omega)
      obtain ⟨b2, o2, e2, p2⟩ := H2.out (by omega)
      subst e1
      subst e2
      obtain ⟨a0, a1⟩ := (p1.below hB.out (p1.lt (by omega))) k hlt
      obtain ⟨a3, a4⟩ := (p2.below hB.out (p2.lt (by omega))) k hlt
      have l1 := World.block_lt_of_cell? wr _ a0
      have l2 := World.block_lt_of_cell? wr _ a3
      clear p1 p2
      have i1 : (0 : Int) ≤ (k : Int) := Int.natCast_nonneg _
      have i2 : (k : Int) < (n : Int) := by omega
      go_wp2_with fail
      go_quiet (fail)
      go_wp2
      go_roundw
      case rel => exact ⟨k + 1, by omega, by go_num, Lib.hid (below_drewN hB.out _)⟩
      case measure => simp [intOf]; omega
    · obtain rfl : k = n := by omega
      go_wp2
      go_ret
      exact ⟨rfl, hB.out⟩

/-- The coordinates of a list of points. -/
def lX (L : List Pt) (i : Nat) : Int := (L.getD i (0, 0)).1
def lY (L : List Pt) (i : Nat) : Int := (L.getD i (0, 0)).2
end Go.Proofs.Ytaehfildhmljeaa

namespace Go.Proofs.Ytaehfildhmljeaa
open Go.RowKit Go.Shelf

def nx (n k : Nat) : Nat := (k + 1) % n
theorem nx_lt {n k : Nat} (h : k < n) : nx n k < n := Nat.mod_lt _ (by omega)
theorem nx_tmod (n k : Nat) : (((k : Int) + 1).tmod (n : Int)) = ((nx n k : Nat) : Int) := by
  unfold nx
  rw [Int.tmod_eq_emod_of_nonneg (by omega), Int.natCast_emod]
  rfl

set_option maxHeartbeats 2000000 in
theorem next_any (b off n cap k : Nat) (X Y : Nat → Int) (hk : k < n) (hn : n ≤ 1000) (w : World) (hp : Pts w b off n X Y) :
    Calls Try.prog 88 #[.slice (some ⟨b, off, none⟩) n cap, .int .i64 (k : Int)] w fun e w' => e = .returned (sp (X (nx n k)) (Y (nx n k))) ∧ Below w.heap.size w w' := by
  have HR := Lib.hid (nx_tmod n k)
  have hJ := nx_lt hk
  obtain ⟨x0, y0⟩ := hp _ hJ
  have hb := hp.lt (by omega)
  have hB : Below w.heap.size w (w.alloc (.cells #[.int .i64 0, .int .i64 0] 24)) := (Below.refl _ w).alloc (Nat.le_refl _) _
  have C := BoxAt.new w 24 #[.int .i64 0, .int .i64 0]
  have c0 := hB.cell (p := ⟨b, off + nx n k * 2, none⟩) hb
  have c1 := hB.cell (p := ⟨b, off + nx n k * 2 + 1, none⟩) hb
  rw [x0] at c0
  rw [y0] at c1
  obtain ⟨J, hJe⟩ : ∃ J, J = nx n k := ⟨_, rfl⟩
  rw [← hJe] at HR hJ c0 c1 ⊢
  have hr : ((k : Int) + 1).tmod (n : Int) = (J : Int) := HR.out
  have i0 : (0 : Int) ≤ (J : Int) := Int.natCast_nonneg _
  have i1 : (J : Int) < (n : Int) := by omega
  have n0 : ((n : Int) == 0) = false := by simp; omega
  have n1 : (n : Int) ≠ 0 := by omega
  clear HR hJe x0 y0 hp
  go_enter Try.func88, Try.ntmps88
  go_wp2
  exact bodyPost_ret (v := sp (X J) (Y J)) (by simp [results, Try.results88, go_sem, BoxAt.cell (BoxAt.new w 24 #[.int .i64 (X J), .int .i64 (Y J)])]) rfl ⟨rfl, (Below.refl _ w).alloc (Nat.le_refl _) _⟩

/-- Do the corners lie in the world, and not too many? -/
def corF (n : Nat) (X Y : Nat → Int) : Bool := decide (n ≤ 1000) && allB (fun i => vldB (X i) (Y i)) n

set_option maxHeartbeats 2000000 in
theorem vcor_any (b off n cap : Nat) (X Y : Nat → Int) (r : Bool) (w : World) (hp : Pts w b off n X Y) (h0 : 0 < n) (hN : n ≤ 1000000) (hr : Hid (corF n X Y = r)) :
    Calls Try.prog 87 #[.slice (some ⟨b, off, none⟩) n cap] w fun e w' => e = .returned (.bool r) ∧ Below w.heap.size w w' := by
  by_cases h : n ≤ 1000
  · have i1 : (n : Int) ≤ 1000 := by omega
    have HV := Lib.hid (vspots_any b off n cap X Y r w hp (hp.lt h0) (by omega) (Lib.hid (by rw [← hr.out]; unfold corF; rw [decide_eq_true h]; rfl)))
    clear hp
    cases r <;>
    · go_enter Try.func87, Try.ntmps87
      go_wp2_with (go_at_call 60; (with_reducible refine HV.out.mono ?_); rintro e w1 ⟨rfl, hb1⟩)
      go_ret
      exact ⟨rfl, hb1⟩
  · have i1 : ¬ (n : Int) ≤ 1000 := by omega
    have hz : Hid (false = r) := Lib.hid (by rw [← hr.out]; unfold corF; rw [decide_eq_false h]; rfl)
    clear hp
    go_enter Try.func87, Try.ntmps87
    go_wp2
    go_ret
    exact ⟨congrArg (fun z => Ending.returned (.bool z)) hz.out, Below.refl _ _⟩

set_option maxHeartbeats 4000000 in
theorem rcor_any (A : Option Addr) (n cap : Nat) (X Y : Nat → Int) (r : Bool) (w : World) (hs : Spots w A n X Y) (hN : n ≤ 1000000) (hr : Hid (corF n X Y = r)) :
    Calls Try.prog 89 #[.slice A n cap] w fun e w' => e = .returned (.bool r) ∧ Below w.heap.size w w' := by
  by_cases h : n ≤ 1000
  · have i1 : ¬ (n : Int) > 1000 := by omega
    have HA : Hid (allB (fun i => vldB (X i) (Y i)) n = r) := Lib.hid (by rw [← hr.out]; unfold corF; rw [decide_eq_true h]; rfl)
    have HS := Lib.hid hs
    clear hs hr
    go_enter Try.func89, Try.ntmps89
    go_wp2
    go_loopw [3] (fun i wr => ∃ k : Nat, k ≤ n ∧ i = .int .i64 k ∧ Hid (allB (fun i => vldB (X i) (Y i)) k = true) ∧ Hid (Below w.heap.size w wr)) (fun i _ => n - (intOf i).toNat)
    case atStart => exact ⟨0, Nat.zero_le _, rfl, Lib.hid rfl, Lib.hid (Below.refl _ _)⟩
    case round =>
      obtain ⟨k, hk, rfl, HT, HB⟩ := hrel
      by_cases hlt : k < n
      · have i0 : (0 : Int) ≤ (k : Int) := Int.natCast_nonneg _
        have i2 : (k : Int) < (n : Int) := by omega
        obtain ⟨b, off, e1, hp⟩ := HS.out (by omega)
        subst e1
        have hb := hp.lt (by omega)
        obtain ⟨hx, hy⟩ := (hp.below HB.out hb) k hlt
        have l1 : b < wr.heap.size := Nat.lt_of_lt_of_le hb HB.out.size
        clear hp
        obtain ⟨z, hz⟩ : ∃ z, z = vldB (X k) (Y k) := ⟨_, rfl⟩
        have HV : Hid (vp (X k, Y k) = z) := Lib.hid hz.symm
        have HZ := Lib.hid hz
        clear hz
        cases z with
        | true =>
          have HT2 : Hid (allB (fun i => vldB (X i) (Y i)) (k + 1) = true) := Lib.hid (by unfold allB; rw [HT.out, ← HZ.out]; rfl)
          go_wp2_with (go_at_call 62; (with_reducible refine (rvalid_any _ _ true _ HV).mono ?_); rintro e wb ⟨rfl, hbb⟩)
          go_roundw
          case rel => exact ⟨k + 1, by omega, by go_num, HT2, Lib.hid (below_step HB.out hbb)⟩
          case measure => simp [intOf]; omega
        | false =>
          have HF : Hid (r = false) := Lib.hid (by rw [← HA.out]; exact allB_false hlt HZ.out.symm)
          go_wp2_with (go_at_call 62; (with_reducible refine (rvalid_any _ _ false _ HV).mono ?_); rintro e wb ⟨rfl, hbb⟩)
          go_ret
          exact ⟨by rw [HF.out]; rfl, below_step HB.out hbb⟩
      · obtain rfl : k = n := by omega
        have i2 : ¬ (k : Int) < (k : Int) := by omega
        have HF : Hid (r = true) := Lib.hid (HA.out.symm.trans HT.out)
        go_wp2
        go_ret
        exact ⟨by rw [HF.out]; rfl, HB.out⟩
  · have i1 : (n : Int) > 1000 := by omega
    have hz : Hid (false = r) := Lib.hid (by rw [← hr.out]; unfold corF; rw [decide_eq_false h]; rfl)
    clear hs
    go_enter Try.func89, Try.ntmps89
    go_wp2
    go_ret
    exact ⟨congrArg (fun z => Ending.returned (.bool z)) hz.out, Below.refl _ _⟩
end Go.Proofs.Ytaehfildhmljeaa

namespace Go.Proofs.Ytaehfildhmljeaa
open Go.RowKit Go.Shelf

def crK (X Y : Nat → Int) (n i : Nat) : Int := X i * Y (nx n i) - Y i * X (nx n i)
def arS (X Y : Nat → Int) (n : Nat) : Nat → Int
  | 0 => 0
  | k + 1 => arS X Y n k + crK X Y n k
def areaF (n : Nat) (X Y : Nat → Int) : Int := if corF n X Y = true ∧ 3 ≤ n then arS X Y n n else 0
theorem corF_at {n : Nat} {X Y : Nat → Int} (h : corF n X Y = true) : n ≤ 1000 ∧ ∀ i, i < n → okc (X i) ∧ okc (Y i) := by
  unfold corF at h
  rw [Bool.and_eq_true, decide_eq_true_eq] at h
  exact ⟨h.1, fun i hi => (vldB_iff _ _).1 (allB_true h.2 i hi)⟩
theorem okc_d {x : Int} (h : okc x) : okd x := by unfold okc at h; unfold okd; omega
theorem crK_bd {n i : Nat} {X Y : Nat → Int} (h : corF n X Y = true) (hi : i < n) : -2251799813685248 ≤ crK X Y n i ∧ crK X Y n i ≤ 2251799813685248 := by
  obtain ⟨_, ha⟩ := corF_at h
  obtain ⟨a1, a2⟩ := ha i hi
  obtain ⟨b1, b2⟩ := ha _ (nx_lt hi)
  have m1 := okd_mul (okc_d a1) (okc_d b2)
  have m2 := okd_mul (okc_d a2) (okc_d b1)
  unfold crK
  omega
theorem arS_bd {n : Nat} {X Y : Nat → Int} (h : corF n X Y = true) : ∀ k, k ≤ n → -(2251799813685248 * (k : Int)) ≤ arS X Y n k ∧ arS X Y n k ≤ 2251799813685248 * (k : Int) := by
  intro k
  induction k with
  | zero => intro _; simp [arS]
  | succ k ih =>
    intro hk
    have h1 := ih (by omega)
    have h2 := crK_bd h (i := k) (by omega)
    unfold arS
    push_cast
    omega
theorem areaF_no {n : Nat} {X Y : Nat → Int} (h : corF n X Y = false) : areaF n X Y = 0 := by
  unfold areaF; rw [if_neg (by simp [h])]
theorem areaF_few {n : Nat} {X Y : Nat → Int} (h : n < 3) : areaF n X Y = 0 := by
  unfold areaF; rw [if_neg (by omega)]
theorem areaF_yes {n : Nat} {X Y : Nat → Int} (h : corF n X Y = true) (h3 : 3 ≤ n) : areaF n X Y = arS X Y n n := by
  unfold areaF; rw [if_pos ⟨h, h3⟩]

set_option maxRecDepth 100000 in
set_option maxHeartbeats 4000000 in
theorem area_any (A : Option Addr) (n cap : Nat) (X Y : Nat → Int) (r : Int) (w : World) (hs : Spots w A n X Y) (hN : n ≤ 1000000) (hr : Hid (areaF n X Y = r)) :
    Calls Try.prog 45 #[.slice A n cap] w fun e w' => e = .returned (.int .i64 r) ∧ Below w.heap.size w w' := by
  by_cases h3 : n < 3
  · have i1 : (n : Int) < 3 := by omega
    have HF : Hid (r = 0) := Lib.hid (by rw [← hr.out]; exact areaF_few h3)
    clear hs
    go_enter Try.func45, Try.ntmps45
    go_wp2
    go_ret
    exact ⟨by rw [HF.out]; rfl, Below.refl _ _⟩
  · have i1 : ¬ (n : Int) < 3 := by omega
    obtain ⟨b, off, rfl, hp⟩ := hs (by omega)
    obtain ⟨z, hz⟩ : ∃ z, z = corF n X Y := ⟨_, rfl⟩
    have HV := Lib.hid (vcor_any b off n cap X Y z w hp (by omega) hN (Lib.hid hz.symm))
    cases z with
    | false =>
      have HF : Hid (r = 0) := Lib.hid (by rw [← hr.out]; exact areaF_no hz.symm)
      clear hp hz
      go_enter Try.func45, Try.ntmps45
      go_wp2_with (go_at_call 87; (with_reducible refine HV.out.mono ?_); rintro e w1 ⟨rfl, hb1⟩)
      go_ret
      exact ⟨by rw [HF.out]; rfl, hb1⟩
    | true =>
      have HC : Hid (corF n X Y = true) := Lib.hid hz.symm
      have hn := (corF_at hz.symm).1
      have HF : Hid (r = arS X Y n n) := Lib.hid (by rw [← hr.out]; exact areaF_yes hz.symm (by omega))
      have HP := Lib.hid hp
      have hb := hp.lt (by omega)
      clear hp hz
      go_enter Try.func45, Try.ntmps45
      go_wp2_with (go_at_call 87; (with_reducible refine HV.out.mono ?_); rintro e w1 ⟨rfl, hb1⟩; have HB1 := Lib.hid hb1; clear hb1)
      go_loopw [3, 17] (fun t i wr => ∃ (k : Nat) (T : Int), k ≤ n ∧ i = .int .i64 k ∧ t = .int .i64 T ∧ Hid (arS X Y n k = T) ∧ Hid (Below w.heap.size w wr)) (fun _ i _ => n - (intOf i).toNat)
      case atStart => exact ⟨0, 0, Nat.zero_le _, rfl, rfl, Lib.hid rfl, HB1⟩
      case round =>
        clear HB1 HV
        obtain ⟨k, T, hk, rfl, rfl, HT, HB⟩ := hrel
        have i2 : (0 : Int) ≤ (k : Int) := Int.natCast_nonneg _
        by_cases hlt : k < n
        · have i3 : (k : Int) < (n : Int) := by omega
          have hp := HP.out.below HB.out hb
          have HP2 := Lib.hid hp
          obtain ⟨hx, hy⟩ := hp k hlt
          have l1 : b < wr.heap.size := Nat.lt_of_lt_of_le hb HB.out.size
          clear hp
          obtain ⟨o1, o2⟩ := (corF_at HC.out).2 k hlt
          obtain ⟨o3, o4⟩ := (corF_at HC.out).2 _ (nx_lt hlt)
          have t1 := arS_bd HC.out k hk
          have HT2 : Hid (arS X Y n (k + 1) = T + (X k * Y (nx n k) - Y k * X (nx n k))) := Lib.hid (by show arS X Y n k + crK X Y n k = _; rw [HT.out]; rfl)
          rw [HT.out] at t1
          have HN := Lib.hid (fun (W : World) (h : Pts W b off n X Y) => next_any b off n cap k X Y hlt hn W h)
          obtain ⟨x0, hx0⟩ : ∃ x, x = X k := ⟨_, rfl⟩
          obtain ⟨y0, hy0⟩ : ∃ x, x = Y k := ⟨_, rfl⟩
          obtain ⟨x1, hx1⟩ : ∃ x, x = X (nx n k) := ⟨_, rfl⟩
          obtain ⟨y1, hy1⟩ : ∃ x, x = Y (nx n k) := ⟨_, rfl⟩
          rw [← hx0, ← hy0, ← hx1, ← hy1] at HT2
          rw [← hx0] at hx o1
          rw [← hy0] at hy o2
          rw [← hx1] at HN o3
          rw [← hy1] at HN o4
          have m1 := okd_mul (okc_d o1) (okc_d o4)
          have m2 := okd_mul (okc_d o2) (okc_d o3)
          have tl : -9000000000000000000 ≤ T ∧ T ≤ 9000000000000000000 := by omega
          obtain ⟨tl1, tl2⟩ := tl
          have u1 : -2251799813685248 ≤ x0 * y1 - y0 * x1 ∧ x0 * y1 - y0 * x1 ≤ 2251799813685248 := by omega
          obtain ⟨u1, u2⟩ := u1
          have u3 : -9223372036854775808 ≤ T + (x0 * y1 - y0 * x1) ∧ T + (x0 * y1 - y0 * x1) < 9223372036854775808 := by omega
          obtain ⟨u3, u4⟩ := u3
          obtain ⟨m11, m12⟩ := m1
          obtain ⟨m21, m22⟩ := m2
          have B5 := BoxAt.new wr 24 #[.int .i64 x0, .int .i64 y0]
          have hB5 : Below wr.heap.size wr (wr.alloc (.cells #[.int .i64 x0, .int .i64 y0] 24)) := (Below.refl _ wr).alloc (Nat.le_refl _) _
          have HP3 := Lib.hid (HP2.out.below hB5 l1)
          clear HC HT HP2 hx0 hy0 hx1 hy1 o1 o2 o3 o4 t1
          go_wp2_with (go_at_call 88; (with_reducible refine (HN.out _ HP3.out).mono ?_); rintro e w2 ⟨rfl, hb2⟩; have HB2 := Lib.hid hb2; obtain ⟨q5, k0, k1, k2, k3⟩ := box2 B5 hb2; have l2 : wr.heap.size < w2.heap.size := q5.out.lt; clear hb2)
          go_roundw
          case rel => exact ⟨k + 1, _, by omega, by go_num, rfl, HT2, Lib.hid ((below_step HB.out (below_step hB5 HB2.out)).alloc (Nat.le_trans HB.out.size (by omega)) _)⟩
          case measure => simp [intOf]; omega
        · obtain rfl : k = n := by omega
          have i3 : ¬ (k : Int) < (k : Int) := by omega
          have HE : Hid (r = T) := Lib.hid (by rw [HF.out, HT.out])
          go_wp2
          go_ret
          exact ⟨by rw [HE.out]; rfl, HB.out⟩
end Go.Proofs.Ytaehfildhmljeaa

namespace Go.Proofs.Ytaehfildhmljeaa
open Go.RowKit Go.Shelf

set_option maxRecDepth 100000 in
set_option maxHeartbeats 8000000 in
theorem rarea_any (A : Option Addr) (n cap : Nat) (X Y : Nat → Int) (r : Int) (w : World) (hs : Spots w A n X Y) (hN : n ≤ 1000000) (hr : Hid (areaF n X Y = r)) :
    Calls Try.prog 46 #[.slice A n cap] w fun e w' => e = .returned (.int .i64 r) ∧ Below w.heap.size w w' := by
  obtain ⟨z, hz⟩ : ∃ z, z = corF n X Y := ⟨_, rfl⟩
  have HV := Lib.hid (rcor_any A n cap X Y z w hs hN (Lib.hid hz.symm))
  have HS := Lib.hid hs
  cases z with
  | false =>
    have HF : Hid (r = 0) := Lib.hid (by rw [← hr.out]; exact areaF_no hz.symm)
    clear hs hz
    go_enter Try.func46, Try.ntmps46
    go_wp2_with (go_at_call 89; (with_reducible refine HV.out.mono ?_); rintro e w1 ⟨rfl, hb1⟩)
    go_ret
    exact ⟨by rw [HF.out]; rfl, hb1⟩
  | true =>
    by_cases h3 : n < 3
    · have i1 : (n : Int) < 3 := by omega
      have HF : Hid (r = 0) := Lib.hid (by rw [← hr.out]; exact areaF_few h3)
      clear hs hz
      go_enter Try.func46, Try.ntmps46
      go_wp2_with (go_at_call 89; (with_reducible refine HV.out.mono ?_); rintro e w1 ⟨rfl, hb1⟩)
      go_ret
      exact ⟨by rw [HF.out]; rfl, hb1⟩
    · have i1 : ¬ (n : Int) < 3 := by omega
      obtain ⟨b, off, rfl, hp⟩ := HS.out (by omega)
      have HC : Hid (corF n X Y = true) := Lib.hid hz.symm
      have hn := (corF_at hz.symm).1
      have HF : Hid (r = arS X Y n n) := Lib.hid (by rw [← hr.out]; exact areaF_yes hz.symm (by omega))
      have HP := Lib.hid hp
      have hb := hp.lt (by omega)
      clear hp hz hs HS
      go_enter Try.func46, Try.ntmps46
      go_wp2_with (go_at_call 89; (with_reducible refine HV.out.mono ?_); rintro e w1 ⟨rfl, hb1⟩; have HB1 := Lib.hid hb1; clear hb1)
      go_loopw [3, 4] (fun t i wr => ∃ (k : Nat) (T : Int), k ≤ n ∧ i = .int .i64 k ∧ t = .int .i64 T ∧ Hid (arS X Y n k = T) ∧ Hid (Below w.heap.size w wr)) (fun _ i _ => n - (intOf i).toNat)
      case atStart => exact ⟨0, 0, Nat.zero_le _, rfl, rfl, Lib.hid rfl, HB1⟩
      case round =>
        clear HB1 HV
        obtain ⟨k, T, hk, rfl, rfl, HT, HB⟩ := hrel
        have i2 : (0 : Int) ≤ (k : Int) := Int.natCast_nonneg _
        by_cases hlt : k < n
        · have i3 : (k : Int) < (n : Int) := by omega
          have hp := HP.out.below HB.out hb
          obtain ⟨hx, hy⟩ := hp k hlt
          obtain ⟨hx1', hy1'⟩ := hp _ (nx_lt hlt)
          have l1 : b < wr.heap.size := Nat.lt_of_lt_of_le hb HB.out.size
          clear hp
          obtain ⟨o1, o2⟩ := (corF_at HC.out).2 k hlt
          obtain ⟨o3, o4⟩ := (corF_at HC.out).2 _ (nx_lt hlt)
          have t1 := arS_bd HC.out k hk
          have HT2 : Hid (arS X Y n (k + 1) = T + (X k * Y (nx n k) - Y k * X (nx n k))) := Lib.hid (by show arS X Y n k + crK X Y n k = _; rw [HT.out]; rfl)
          rw [HT.out] at t1
          have hr2 := nx_tmod n k
          have hJ := nx_lt hlt
          obtain ⟨x0, hx0⟩ : ∃ x, x = X k := ⟨_, rfl⟩
          obtain ⟨y0, hy0⟩ : ∃ x, x = Y k := ⟨_, rfl⟩
          obtain ⟨x1, hx1⟩ : ∃ x, x = X (nx n k) := ⟨_, rfl⟩
          obtain ⟨y1, hy1⟩ : ∃ x, x = Y (nx n k) := ⟨_, rfl⟩
          rw [← hx0, ← hy0, ← hx1, ← hy1] at HT2
          rw [← hx0] at hx o1
          rw [← hy0] at hy o2
          rw [← hx1] at hx1' o3
          rw [← hy1] at hy1' o4
          obtain ⟨J, hJe⟩ : ∃ J, J = nx n k := ⟨_, rfl⟩
          rw [← hJe] at hr2 hJ hx1' hy1'
          have m1 := okd_mul (okc_d o1) (okc_d o4)
          have m2 := okd_mul (okc_d o2) (okc_d o3)
          have tl : -9000000000000000000 ≤ T ∧ T ≤ 9000000000000000000 := by omega
          have HX := Lib.hid (fun W => rcross_n x0 y0 x1 y1 (x0 * y1 - y0 * x1) W (okc_d o1) (okc_d o2) (okc_d o3) (okc_d o4) rfl)
          obtain ⟨c, hc⟩ : ∃ c, c = x0 * y1 - y0 * x1 := ⟨_, rfl⟩
          rw [← hc] at HX HT2
          have u3 : -9223372036854775808 ≤ T + c ∧ T + c < 9223372036854775808 := by omega
          obtain ⟨u3, u4⟩ := u3
          have j0 : (0 : Int) ≤ (J : Int) := Int.natCast_nonneg _
          have j1 : (J : Int) < (n : Int) := by omega
          have n0 : ((n : Int) == 0) = false := by simp; omega
          have n1 : (n : Int) ≠ 0 := by omega
          have wk : IntKind.i64.wrap ((k : Int) + 1) = (k : Int) + 1 := IntWalk.i64_in _ (by omega)
          have wj2 : IntKind.i64.wrap (J : Int) = (J : Int) := IntWalk.i64_in _ (by omega)
          have wj : IntKind.i64.wrap (((k : Int) + 1).tmod (n : Int)) = (J : Int) := by rw [hr2]; exact wj2
          have HSix : Hid (∀ W, Below wr.heap.size wr W → W.cell? ⟨b, off + k * 2, none⟩ = some (.int .i64 x0) ∧ W.cell? ⟨b, off + k * 2 + 1, none⟩ = some (.int .i64 y0) ∧ W.cell? ⟨b, off + J * 2, none⟩ = some (.int .i64 x1) ∧ W.cell? ⟨b, off + J * 2 + 1, none⟩ = some (.int .i64 y1)) :=
            Lib.hid (fun W h => ⟨(h.cell (p := ⟨b, off + k * 2, none⟩) l1).trans hx, (h.cell (p := ⟨b, off + k * 2 + 1, none⟩) l1).trans hy, (h.cell (p := ⟨b, off + J * 2, none⟩) l1).trans hx1', (h.cell (p := ⟨b, off + J * 2 + 1, none⟩) l1).trans hy1'⟩)
          have HM : Hid (T + c = T + c) := Lib.hid rfl
          have Hr2 := Lib.hid hr2
          have Hwj := Lib.hid wj
          have Hwj2 := Lib.hid wj2
          have Hwk := Lib.hid wk
          clear HC HT hx0 hy0 hx1 hy1 o1 o2 o3 o4 t1 hJe hc m1 m2 tl HP HF hr2 wj wj2 wk n0 n1
          go_upto_block 1 with fail
          go_cut [3] from 13 to 33 (fun v w' => v = .int .i64 (T + c) ∧ Below wr.heap.size wr w')
          case first =>
            go_wp2_with fail
            have hr2 := Hr2.out
            have wk := Hwk.out
            have wj2 := Hwj2.out
            have wj := Hwj.out
            have hp0 := HSix.out wr (Below.refl _ _)
            obtain ⟨g0, g1, g2, g3⟩ := hp0
            have n0 : ((n : Int) == 0) = false := by simp; omega
            have n1 : ¬ (n : Int) = 0 := by omega
            have f0 : ∀ n os, (grd wr n os).cell? ⟨b, off + k * 2, none⟩ = some (.int .i64 x0) := cell_grd g0
            have f1 : ∀ n os, (grd wr n os).cell? ⟨b, off + k * 2 + 1, none⟩ = some (.int .i64 y0) := cell_grd g1
            have f2 : ∀ n os, (grd wr n os).cell? ⟨b, off + J * 2, none⟩ = some (.int .i64 x1) := cell_grd g2
            have f3 : ∀ n os, (grd wr n os).cell? ⟨b, off + J * 2 + 1, none⟩ = some (.int .i64 y1) := cell_grd g3
            refine wp_region_quiet_grd (by kernel_rfl) (by kernel_rfl) ?_
            repeat (go_big_quiet_step (first
              | (go_at_call 90; with_reducible exact Calls.grd_of (HX.out _))))
            refine wpQuiet_nil ?_
            intro _ hw'
            obtain ⟨⟨nq, osq⟩, rfl⟩ := hw'
            have hq := below_grd wr nq osq
            generalize grd wr nq osq = wq at *
            go_wp2
            go_meet
            exact ⟨by first | rfl | rw [IntWalk.i64_in _ (by omega)], hq⟩
          case rest =>
            obtain ⟨wz, rfl⟩ : ∃ x : World, x = wc := ⟨_, rfl⟩
            obtain ⟨rfl, hbz⟩ := hcut
            go_wp2
            go_roundw
            case rel => exact ⟨k + 1, _, by omega, by go_num, rfl, HT2, Lib.hid (below_step HB.out hbz)⟩
            case measure => simp [intOf]; omega
        · obtain rfl : k = n := by omega
          have i3 : ¬ (k : Int) < (k : Int) := by omega
          have HE : Hid (r = T) := Lib.hid (by rw [HF.out, HT.out])
          go_wp2
          go_ret
          exact ⟨by rw [HE.out]; rfl, HB.out⟩
end Go.Proofs.Ytaehfildhmljeaa

namespace Go.Proofs.Ytaehfildhmljeaa
open Go.RowKit Go.Shelf

def sdB (X Y : Nat → Int) (n : Nat) (px py : Int) (i : Nat) : Bool := decide (0 ≤ sideF (X i, Y i) (X (nx n i), Y (nx n i)) (px, py))
def insF (n : Nat) (X Y : Nat → Int) (px py : Int) : Bool :=
  if n = 0 ∨ corF n X Y = false ∨ vp (px, py) = false then false
  else if n ≤ 2 then blkF (X 0, Y 0) (X (nx n 0), Y (nx n 0)) (px, py) (px, py)
  else allB (sdB X Y n px py) n
theorem insF_no {n : Nat} {X Y : Nat → Int} {px py : Int} (h : n = 0 ∨ corF n X Y = false ∨ vp (px, py) = false) : insF n X Y px py = false := by
  unfold insF; rw [if_pos h]
theorem insF_two {n : Nat} {X Y : Nat → Int} {px py : Int} (h0 : 0 < n) (h1 : corF n X Y = true) (h2 : vp (px, py) = true) (h3 : n ≤ 2) : insF n X Y px py = blkF (X 0, Y 0) (X (nx n 0), Y (nx n 0)) (px, py) (px, py) := by
  unfold insF; rw [if_neg (by simp [h1, h2]; omega), if_pos h3]
theorem insF_many {n : Nat} {X Y : Nat → Int} {px py : Int} (h1 : corF n X Y = true) (h2 : vp (px, py) = true) (h3 : ¬ n ≤ 2) : insF n X Y px py = allB (sdB X Y n px py) n := by
  unfold insF; rw [if_neg (by simp [h1, h2]; omega), if_neg h3]
theorem corF_le {n : Nat} {X Y : Nat → Int} (h : corF n X Y = true) : n ≤ 1000 := by
  unfold corF at h
  rw [Bool.and_eq_true, decide_eq_true_eq] at h
  exact h.1
theorem blocks_raw (a1 a2 b1 b2 c1 c2 d1 d2 : Int) (r : Bool) (w : World) (hr : Hid (blkF (a1, a2) (b1, b2) (c1, c2) (d1, d2) = r)) :
    Calls Try.prog 91 #[sp a1 a2, sp b1 b2, sp c1 c2, sp d1 d2] w fun e w' => e = .returned (.bool r) ∧ Below w.heap.size w w' := blocks_any (a1, a2) (b1, b2) (c1, c2) (d1, d2) r w hr

set_option maxRecDepth 100000 in
set_option maxHeartbeats 8000000 in
theorem inside_any (A : Option Addr) (n cap : Nat) (X Y : Nat → Int) (px py : Int) (r : Bool) (w : World) (hs : Spots w A n X Y) (hN : n ≤ 1000000) (hr : Hid (insF n X Y px py = r)) :
    Calls Try.prog 47 #[.slice A n cap, sp px py] w fun e w' => e = .returned (.bool r) ∧ Below w.heap.size w w' := by
  have B0 := BoxAt.new w 24 #[.int .i64 px, .int .i64 py]
  have hB0 : Below w.heap.size w (w.alloc (.cells #[.int .i64 px, .int .i64 py] 24)) := (Below.refl _ w).alloc (Nat.le_refl _) _
  by_cases h0 : n = 0
  · have HF : Hid (r = false) := Lib.hid (by rw [← hr.out]; exact insF_no (.inl h0))
    clear hs
    subst h0
    go_enter Try.func47, Try.ntmps47
    go_wp2
    go_ret
    exact ⟨by rw [HF.out]; rfl, hB0⟩
  have i0 : ¬ (n : Int) = 0 := by omega
  have i00 : ((n : Int) == 0) = false := by simp; omega
  have hn0 : 0 < n := by omega
  obtain ⟨b, off, rfl, hp⟩ := hs hn0
  have hb := hp.lt hn0
  have HV0 := Lib.hid (fun (z : Bool) (hz : z = corF n X Y) => vcor_any b off n cap X Y z _ (hp.below hB0 hb) hn0 hN (Lib.hid hz.symm))
  obtain ⟨z, hz⟩ : ∃ z, z = corF n X Y := ⟨_, rfl⟩
  have HV := Lib.hid (HV0.out z hz)
  clear HV0
  cases z with
  | false =>
    have HF : Hid (r = false) := Lib.hid (by rw [← hr.out]; exact insF_no (.inr (.inl hz.symm)))
    clear hp hz hs
    go_enter Try.func47, Try.ntmps47
    go_wp2_with (go_at_call 87; (with_reducible refine HV.out.mono ?_); rintro e w1 ⟨rfl, hb1⟩)
    go_ret
    exact ⟨by rw [HF.out]; rfl, below_step hB0 hb1⟩
  | true =>
    have hn : n ≤ 1000 := corF_le hz.symm
    have HC : Hid (corF n X Y = true) := Lib.hid hz.symm
    obtain ⟨v, hv⟩ : ∃ v, v = vp (px, py) := ⟨_, rfl⟩
    have HW : Hid (vldB px py = v) := Lib.hid hv.symm
    have HP := Lib.hid hp
    cases v with
    | false =>
      have HF : Hid (r = false) := Lib.hid (by rw [← hr.out]; exact insF_no (.inr (.inr hv.symm)))
      clear hp hz hs hv
      go_enter Try.func47, Try.ntmps47
      go_wp2_with (first
        | (go_at_call 87; (with_reducible refine HV.out.mono ?_); rintro e w1 ⟨rfl, hb1⟩; obtain ⟨q1, k0, k1, k2, k3⟩ := box2 B0 hb1; have HB1 := Lib.hid (below_step hB0 hb1); clear hb1)
        | (go_at_call 60; (refine (one_vspot _ _ px py false _ (BoxAt.new _ 24 #[.int .i64 px, .int .i64 py]) HW).mono ?_); rintro e w2 ⟨rfl, hb2⟩; have HB2 := Lib.hid (below_step2 HB1.out hb2); clear hb2))
      go_ret
      exact ⟨by rw [HF.out]; rfl, HB2.out⟩
    | true =>
      have HVp : Hid (vp (px, py) = true) := Lib.hid hv.symm
      by_cases h2 : n ≤ 2
      · have i2 : (n : Int) ≤ 2 := by omega
        have HF : Hid (blkF (X 0, Y 0) (X (nx n 0), Y (nx n 0)) (px, py) (px, py) = r) := Lib.hid (by rw [← hr.out]; exact (insF_two hn0 hz.symm hv.symm h2).symm)
        clear hp hz hs hv
        go_enter Try.func47, Try.ntmps47
        go_wp2_with (first
          | (go_at_call 87; (with_reducible refine HV.out.mono ?_); rintro e w1 ⟨rfl, hb1⟩; obtain ⟨q1, k0, k1, k2, k3⟩ := box2 B0 hb1; have HB1 := Lib.hid (below_step hB0 hb1); clear hb1)
          | (go_at_call 60; (refine (one_vspot _ _ px py true _ (BoxAt.new _ 24 #[.int .i64 px, .int .i64 py]) HW).mono ?_); rintro e w2 ⟨rfl, hb2⟩; have HB2 := Lib.hid (below_step2 HB1.out hb2); have HQ2 := Lib.hid (q1.out.below ((Below.refl _ _).alloc (Nat.le_refl _) _) q1.out.lt |>.below hb2 (by simp; exact Nat.lt_succ_of_lt q1.out.lt)); clear hb2))
        have hb2w : b < w2.heap.size := Nat.lt_of_lt_of_le hb HB2.out.size
        obtain ⟨hx, hy⟩ := (HP.out.below HB2.out hb) 0 hn0
        rw [Nat.zero_mul, Nat.add_zero] at hx hy
        have hq0 := HQ2.out.cell 0
        have hq1 := HQ2.out.cell 1
        have hl2 := HQ2.out.lt
        have i3 : (0 : Int) < (n : Int) := by omega
        have HN := Lib.hid (fun W (h : Below w2.heap.size w2 W) => (show Calls Try.prog 88 #[.slice (some ⟨b, off, none⟩) n cap, .int .i64 0] W fun e w' => e = .returned (sp (X (nx n 0)) (Y (nx n 0))) ∧ Below W.heap.size W w' from next_any b off n cap 0 X Y hn0 hn W ((HP.out.below HB2.out hb).below h hb2w)))
        obtain ⟨x0, hx0⟩ : ∃ x, x = X 0 := ⟨_, rfl⟩
        obtain ⟨y0, hy0⟩ : ∃ x, x = Y 0 := ⟨_, rfl⟩
        obtain ⟨x1, hx1⟩ : ∃ x, x = X (nx n 0) := ⟨_, rfl⟩
        obtain ⟨y1, hy1⟩ : ∃ x, x = Y (nx n 0) := ⟨_, rfl⟩
        rw [← hx0] at hx
        rw [← hy0] at hy
        rw [← hx0, ← hy0, ← hx1, ← hy1] at HF
        rw [← hx1, ← hy1] at HN
        have HBl := Lib.hid (fun W => blocks_raw x0 y0 x1 y1 px py px py r W HF)
        have HSix : Hid (∀ W, Below w2.heap.size w2 W → W.cell? ⟨b, off, none⟩ = some (.int .i64 x0) ∧ W.cell? ⟨b, off + 1, none⟩ = some (.int .i64 y0) ∧ W.cell? ⟨w.heap.size, 0, none⟩ = some (.int .i64 px) ∧ W.cell? ⟨w.heap.size, 1, none⟩ = some (.int .i64 py)) :=
          Lib.hid (fun W h => ⟨(h.cell (p := ⟨b, off, none⟩) hb2w).trans hx, (h.cell (p := ⟨b, off + 1, none⟩) hb2w).trans hy, (h.cell (p := ⟨w.heap.size, 0, none⟩) hl2).trans hq0, (h.cell (p := ⟨w.heap.size, 1, none⟩) hl2).trans hq1⟩)
        clear hx0 hy0 hx1 hy1 HP HC HF HW HVp HV hr B0 q1 k0 k1 k2 k3 HB1 HQ2
        go_region_held3 (fun W => W.cell? ⟨b, off, none⟩ = some (.int .i64 x0) ∧ W.cell? ⟨b, off + 1, none⟩ = some (.int .i64 y0) ∧ W.cell? ⟨w.heap.size, 0, none⟩ = some (.int .i64 px) ∧ W.cell? ⟨w.heap.size, 1, none⟩ = some (.int .i64 py))
          (first | exact HSix.out _ hB4 | exact HSix.out _ hB3 | go_keep)
          (first
            | (go_at_call 88; (with_reducible refine (HN.out _ ((Below.refl _ w2).drew)).mono ?_); rintro e w3 ⟨rfl, hb3⟩; have hB3 : Below w2.heap.size w2 w3 := below_step ((Below.refl _ w2).drew) hb3)
            | (go_at_call 91; (with_reducible refine (HBl.out _).mono ?_); rintro e w4 ⟨rfl, hb4⟩; have hB4 : Below w2.heap.size w2 w4 := below_step hB3 hb4))
        all_goals go_wp2
        all_goals go_ret
        all_goals exact ⟨rfl, below_step HB2.out hB4⟩
      · have i2 : ¬ (n : Int) ≤ 2 := by omega
        have HF : Hid (allB (sdB X Y n px py) n = r) := Lib.hid (by rw [← hr.out]; exact (insF_many hz.symm hv.symm h2).symm)
        clear hp hz hs hv
        go_enter Try.func47, Try.ntmps47
        go_wp2_with (first
          | (go_at_call 87; (with_reducible refine HV.out.mono ?_); rintro e w1 ⟨rfl, hb1⟩; obtain ⟨q1, k0, k1, k2, k3⟩ := box2 B0 hb1; have HB1 := Lib.hid (below_step hB0 hb1); clear hb1)
          | (go_at_call 60; (refine (one_vspot _ _ px py true _ (BoxAt.new _ 24 #[.int .i64 px, .int .i64 py]) HW).mono ?_); rintro e w2 ⟨rfl, hb2⟩; have HB2 := Lib.hid (below_step2 HB1.out hb2); have HQ2 := Lib.hid (q1.out.below ((Below.refl _ _).alloc (Nat.le_refl _) _) q1.out.lt |>.below hb2 (by simp; exact Nat.lt_succ_of_lt q1.out.lt)); clear hb2))
        go_loopw [34] (fun i wr => ∃ k : Nat, k ≤ n ∧ i = .int .i64 k ∧ Hid (allB (sdB X Y n px py) k = true) ∧ Hid (Below w.heap.size w wr) ∧ Hid (BoxAt wr w.heap.size 24 #[.int .i64 px, .int .i64 py])) (fun i _ => n - (intOf i).toNat)
        case atStart => exact ⟨0, Nat.zero_le _, rfl, Lib.hid rfl, HB2, HQ2⟩
        case round =>
          clear HB2 HQ2 HV HB1 q1 k0 k1 k2 k3
          obtain ⟨k, hk, rfl, HT, HB, HQ⟩ := hrel
          have i3 : (0 : Int) ≤ (k : Int) := Int.natCast_nonneg _
          by_cases hlt : k < n
          · have i4 : (k : Int) < (n : Int) := by omega
            have HPr := Lib.hid (HP.out.below HB.out hb)
            obtain ⟨hx, hy⟩ := HPr.out k hlt
            have lr : b < wr.heap.size := Nat.lt_of_lt_of_le hb HB.out.size
            have ql := HQ.out.lt
            obtain ⟨x0, hx0⟩ : ∃ x, x = X k := ⟨_, rfl⟩
            obtain ⟨y0, hy0⟩ : ∃ x, x = Y k := ⟨_, rfl⟩
            obtain ⟨x1, hx1⟩ : ∃ x, x = X (nx n k) := ⟨_, rfl⟩
            obtain ⟨y1, hy1⟩ : ∃ x, x = Y (nx n k) := ⟨_, rfl⟩
            obtain ⟨s, hs⟩ : ∃ s, s = sideF (x0, y0) (x1, y1) (px, py) := ⟨_, rfl⟩
            have HS1 := Lib.hid (fun W => side_raw x0 y0 x1 y1 px py s W (Lib.hid hs.symm))
            have HSd : Hid (sdB X Y n px py k = decide (0 ≤ s)) := Lib.hid (by unfold sdB; rw [hs, hx0, hy0, hx1, hy1])
            rw [← hx0] at hx
            rw [← hy0] at hy
            obtain ⟨bb, hbb⟩ : ∃ bb, bb = decide (s < 0) := ⟨_, rfl⟩
            have HBB := Lib.hid hbb
            have hdec := hbb.symm
            obtain ⟨WA, hWA⟩ : ∃ x : World, x = wr.alloc (.cells #[.int .i64 x0, .int .i64 y0] 24) := ⟨_, rfl⟩
            have hBA : Below wr.heap.size wr WA := by rw [hWA]; exact (Below.refl _ wr).alloc (Nat.le_refl _) _
            have lA : b < WA.heap.size := Nat.lt_of_lt_of_le lr hBA.size
            have HN := Lib.hid (fun W (h : Below WA.heap.size WA W) => next_any b off n cap k X Y hlt hn W ((HPr.out.below hBA lr).below h lA))
            rw [← hx1, ← hy1] at HN
            have B6 : BoxAt WA wr.heap.size 24 #[.int .i64 x0, .int .i64 y0] := by rw [hWA]; exact BoxAt.new wr 24 _
            have QA : BoxAt WA w.heap.size 24 #[.int .i64 px, .int .i64 py] := HQ.out.below hBA ql
            have HSix : Hid (∀ W, Below WA.heap.size WA W → W.cell? ⟨wr.heap.size, 0, none⟩ = some (.int .i64 x0) ∧ W.cell? ⟨wr.heap.size, 1, none⟩ = some (.int .i64 y0) ∧ W.cell? ⟨w.heap.size, 0, none⟩ = some (.int .i64 px) ∧ W.cell? ⟨w.heap.size, 1, none⟩ = some (.int .i64 py)) :=
              Lib.hid (fun W h => ⟨(h.cell (p := ⟨wr.heap.size, 0, none⟩) B6.lt).trans (B6.cell 0), (h.cell (p := ⟨wr.heap.size, 1, none⟩) B6.lt).trans (B6.cell 1), (h.cell (p := ⟨w.heap.size, 0, none⟩) QA.lt).trans (QA.cell 0), (h.cell (p := ⟨w.heap.size, 1, none⟩) QA.lt).trans (QA.cell 1)⟩)
            obtain ⟨d0, d1, d2, d3⟩ := HSix.out WA (Below.refl _ _)
            have HBA := Lib.hid (below_step HB.out hBA)
            have HQA := Lib.hid QA
            have lw := QA.lt
            have l6 := B6.lt
            clear hx0 hy0 hx1 hy1 HP HC HW HVp hr B0 hs hBA B6 QA hbb lA
            go_upto_region 8 with fail
            rw [← hWA]
            clear hWA
            go_cut [45] from 39 to 46 (fun v w' => v = .bool bb ∧ Below WA.heap.size WA w')
            case first =>
              go_region_held3 (fun W => W.cell? ⟨wr.heap.size, 0, none⟩ = some (.int .i64 x0) ∧ W.cell? ⟨wr.heap.size, 1, none⟩ = some (.int .i64 y0) ∧ W.cell? ⟨w.heap.size, 0, none⟩ = some (.int .i64 px) ∧ W.cell? ⟨w.heap.size, 1, none⟩ = some (.int .i64 py))
                (first | exact HSix.out _ hB4 | exact HSix.out _ hB3 | go_keep)
                (first
                  | (go_at_call 88; (with_reducible refine (HN.out _ ((Below.refl _ WA).drew)).mono ?_); rintro e w3 ⟨rfl, hb3⟩; have hB3 : Below WA.heap.size WA w3 := below_step ((Below.refl _ WA).drew) hb3)
                  | (go_at_call 92; (with_reducible refine (HS1.out _).mono ?_); rintro e w4 ⟨rfl, hb4⟩; have hB4 : Below WA.heap.size WA w4 := below_step hB3 hb4))
              all_goals go_wp2
              all_goals go_meet
              all_goals exact ⟨by first | rfl | rw [hdec], hB4⟩
            case rest =>
              obtain ⟨wz, rfl⟩ : ∃ x : World, x = wc := ⟨_, rfl⟩
              obtain ⟨rfl, hbz⟩ := hcut
              have HBz := Lib.hid (below_step HBA.out hbz)
              have HQz := Lib.hid (HQA.out.below hbz lw)
              clear hbz HSix d0 d1 d2 d3 hdec
              cases bb with
              | false =>
                have HT2 : Hid (allB (sdB X Y n px py) (k + 1) = true) := Lib.hid (by
                  have h := HBB.out.symm
                  rw [decide_eq_false_iff_not] at h
                  unfold allB
                  rw [HT.out, HSd.out, decide_eq_true (by omega)]
                  rfl)
                go_wp2
                go_roundw
                case rel => exact ⟨k + 1, by omega, by go_num, HT2, HBz, HQz⟩
                case measure => simp [intOf]; omega
              | true =>
                have HR : Hid (r = false) := Lib.hid (by
                  have h := HBB.out.symm
                  rw [decide_eq_true_eq] at h
                  rw [← HF.out]
                  exact allB_false hlt (by rw [HSd.out, decide_eq_false (by omega)]))
                go_wp2
                go_ret
                exact ⟨by rw [HR.out]; rfl, HBz.out⟩
          · obtain rfl : k = n := by omega
            have i4 : ¬ (k : Int) < (k : Int) := by omega
            have HR : Hid (r = true) := Lib.hid (HF.out.symm.trans HT.out)
            go_wp2
            go_ret
            exact ⟨by rw [HR.out]; rfl, HB.out⟩
end Go.Proofs.Ytaehfildhmljeaa

namespace Go.Proofs.Ytaehfildhmljeaa
open Go.RowKit Go.Shelf

set_option maxRecDepth 100000 in
set_option maxHeartbeats 8000000 in
theorem rinside_any (A : Option Addr) (n cap : Nat) (X Y : Nat → Int) (px py : Int) (r : Bool) (w : World) (hs : Spots w A n X Y) (hN : n ≤ 1000000) (hr : Hid (insF n X Y px py = r)) :
    Calls Try.prog 48 #[.slice A n cap, sp px py] w fun e w' => e = .returned (.bool r) ∧ Below w.heap.size w w' := by
  have B0 := BoxAt.new w 24 #[.int .i64 px, .int .i64 py]
  have hB0 : Below w.heap.size w (w.alloc (.cells #[.int .i64 px, .int .i64 py] 24)) := (Below.refl _ w).alloc (Nat.le_refl _) _
  obtain ⟨z, hz⟩ : ∃ z, z = corF n X Y := ⟨_, rfl⟩
  have HV := Lib.hid (rcor_any A n cap X Y z _ (hs.below hB0) hN (Lib.hid hz.symm))
  cases z with
  | false =>
    have HF : Hid (r = false) := Lib.hid (by rw [← hr.out]; exact insF_no (.inr (.inl hz.symm)))
    clear hz hs
    go_enter Try.func48, Try.ntmps48
    go_wp2_with (go_at_call 89; (with_reducible refine HV.out.mono ?_); rintro e w1 ⟨rfl, hb1⟩)
    go_ret
    exact ⟨by rw [HF.out]; rfl, below_step hB0 hb1⟩
  | true =>
    have hn : n ≤ 1000 := corF_le hz.symm
    have HC : Hid (corF n X Y = true) := Lib.hid hz.symm
    obtain ⟨v, hv⟩ : ∃ v, v = vp (px, py) := ⟨_, rfl⟩
    have HW : Hid (vp (px, py) = v) := Lib.hid hv.symm
    cases v with
    | false =>
      have HF : Hid (r = false) := Lib.hid (by rw [← hr.out]; exact insF_no (.inr (.inr hv.symm)))
      clear hz hs hv
      go_enter Try.func48, Try.ntmps48
      go_wp2_with (first
        | (go_at_call 89; (with_reducible refine HV.out.mono ?_); rintro e w1 ⟨rfl, hb1⟩; obtain ⟨q1, k0, k1, k2, k3⟩ := box2 B0 hb1; have HB1 := Lib.hid (below_step hB0 hb1); clear hb1)
        | (go_at_call 62; (with_reducible refine (rvalid_any px py false _ HW).mono ?_); rintro e w2 ⟨rfl, hb2⟩; have HB2 := Lib.hid (below_step HB1.out hb2); clear hb2))
      go_ret
      exact ⟨by rw [HF.out]; rfl, HB2.out⟩
    | true =>
      by_cases h0 : n = 0
      · have HF : Hid (r = false) := Lib.hid (by rw [← hr.out]; exact insF_no (.inl h0))
        clear hz hs hv
        subst h0
        go_enter Try.func48, Try.ntmps48
        go_wp2_with (first
          | (go_at_call 89; (with_reducible refine HV.out.mono ?_); rintro e w1 ⟨rfl, hb1⟩; obtain ⟨q1, k0, k1, k2, k3⟩ := box2 B0 hb1; have HB1 := Lib.hid (below_step hB0 hb1); clear hb1)
          | (go_at_call 62; (with_reducible refine (rvalid_any px py true _ HW).mono ?_); rintro e w2 ⟨rfl, hb2⟩; have HB2 := Lib.hid (below_step HB1.out hb2); clear hb2))
        go_ret
        exact ⟨by rw [HF.out]; rfl, HB2.out⟩
      have i0 : ¬ (n : Int) = 0 := by omega
      have i00 : ((n : Int) == 0) = false := by simp; omega
      have hn0 : 0 < n := by omega
      obtain ⟨b, off, rfl, hp⟩ := hs hn0
      have hb := hp.lt hn0
      have HP := Lib.hid hp
      by_cases h2 : n ≤ 2
      · have i2 : (n : Int) ≤ 2 := by omega
        have HF : Hid (blkF (X 0, Y 0) (X (nx n 0), Y (nx n 0)) (px, py) (px, py) = r) := Lib.hid (by rw [← hr.out]; exact (insF_two hn0 hz.symm hv.symm h2).symm)
        clear hp hz hs hv
        go_enter Try.func48, Try.ntmps48
        go_wp2_with (first
          | (go_at_call 89; (with_reducible refine HV.out.mono ?_); rintro e w1 ⟨rfl, hb1⟩; obtain ⟨q1, k0, k1, k2, k3⟩ := box2 B0 hb1; have HB1 := Lib.hid (below_step hB0 hb1); clear hb1)
          | (go_at_call 62; (with_reducible refine (rvalid_any px py true _ HW).mono ?_); rintro e w2 ⟨rfl, hb2⟩; have HB2 := Lib.hid (below_step HB1.out hb2); have HQ2 := Lib.hid (q1.out.below hb2 q1.out.lt); clear hb2))
        have hb2w : b < w2.heap.size := Nat.lt_of_lt_of_le hb HB2.out.size
        obtain ⟨hx, hy⟩ := (HP.out.below HB2.out hb) 0 hn0
        rw [Nat.zero_mul, Nat.add_zero] at hx hy
        obtain ⟨hx', hy'⟩ := (HP.out.below HB2.out hb) _ (nx_lt hn0)
        have hq0 := HQ2.out.cell 0
        have hq1 := HQ2.out.cell 1
        have hl2 := HQ2.out.lt
        have i3 : (0 : Int) < (n : Int) := by omega
        have hJe : nx n 0 = n - 1 := by
          have : n = 1 ∨ n = 2 := by omega
          rcases this with rfl | rfl <;> rfl
        obtain ⟨J, hJ⟩ : ∃ J, J = nx n 0 := ⟨_, rfl⟩
        obtain ⟨x0, hx0⟩ : ∃ x, x = X 0 := ⟨_, rfl⟩
        obtain ⟨y0, hy0⟩ : ∃ x, x = Y 0 := ⟨_, rfl⟩
        obtain ⟨x1, hx1⟩ : ∃ x, x = X (nx n 0) := ⟨_, rfl⟩
        obtain ⟨y1, hy1⟩ : ∃ x, x = Y (nx n 0) := ⟨_, rfl⟩
        rw [← hx0] at hx
        rw [← hy0] at hy
        rw [← hx1] at hx'
        rw [← hy1] at hy'
        rw [← hJ] at hx' hy' hJe
        rw [← hx0, ← hy0, ← hx1, ← hy1] at HF
        have j0 : (0 : Int) ≤ (J : Int) := Int.natCast_nonneg _
        have j1 : (J : Int) < (n : Int) := by omega
        have wj : IntKind.i64.wrap ((n : Int) - 1) = (J : Int) := by rw [IntWalk.i64_in _ (by omega)]; omega
        have wj2 : IntKind.i64.wrap (J : Int) = (J : Int) := IntWalk.i64_in _ (by omega)
        have HBl := Lib.hid (fun W => rblocks_any x0 y0 x1 y1 px py px py r W HF)
        have HSix : Hid (∀ W, Below w2.heap.size w2 W → W.cell? ⟨b, off, none⟩ = some (.int .i64 x0) ∧ W.cell? ⟨b, off + 1, none⟩ = some (.int .i64 y0) ∧ W.cell? ⟨b, off + J * 2, none⟩ = some (.int .i64 x1) ∧ W.cell? ⟨b, off + J * 2 + 1, none⟩ = some (.int .i64 y1) ∧ W.cell? ⟨w.heap.size, 0, none⟩ = some (.int .i64 px) ∧ W.cell? ⟨w.heap.size, 1, none⟩ = some (.int .i64 py)) :=
          Lib.hid (fun W h => ⟨(h.cell (p := ⟨b, off, none⟩) hb2w).trans hx, (h.cell (p := ⟨b, off + 1, none⟩) hb2w).trans hy, (h.cell (p := ⟨b, off + J * 2, none⟩) hb2w).trans hx', (h.cell (p := ⟨b, off + J * 2 + 1, none⟩) hb2w).trans hy', (h.cell (p := ⟨w.heap.size, 0, none⟩) hl2).trans hq0, (h.cell (p := ⟨w.heap.size, 1, none⟩) hl2).trans hq1⟩)
        clear hx0 hy0 hx1 hy1 HP HC HF HW HV hr B0 q1 k0 k1 k2 k3 HB1 HQ2 hJ hJe
        go_region_held3 (fun W => W.cell? ⟨b, off, none⟩ = some (.int .i64 x0) ∧ W.cell? ⟨b, off + 1, none⟩ = some (.int .i64 y0) ∧ W.cell? ⟨b, off + J * 2, none⟩ = some (.int .i64 x1) ∧ W.cell? ⟨b, off + J * 2 + 1, none⟩ = some (.int .i64 y1) ∧ W.cell? ⟨w.heap.size, 0, none⟩ = some (.int .i64 px) ∧ W.cell? ⟨w.heap.size, 1, none⟩ = some (.int .i64 py))
          (first | exact HSix.out _ hB4 | go_keep)
          (first
            | (go_at_call 93; (with_reducible refine (HBl.out _).mono ?_); rintro e w4 ⟨rfl, hb4⟩; have hB4 : Below w2.heap.size w2 w4 := below_step ((Below.refl _ w2).drew) hb4))
        all_goals go_wp2
        all_goals go_ret
        all_goals exact ⟨rfl, below_step HB2.out hB4⟩
      · have i2 : ¬ (n : Int) ≤ 2 := by omega
        have HF : Hid (allB (sdB X Y n px py) n = r) := Lib.hid (by rw [← hr.out]; exact (insF_many hz.symm hv.symm h2).symm)
        clear hp hz hs hv
        go_enter Try.func48, Try.ntmps48
        go_wp2_with (first
          | (go_at_call 89; (with_reducible refine HV.out.mono ?_); rintro e w1 ⟨rfl, hb1⟩; obtain ⟨q1, k0, k1, k2, k3⟩ := box2 B0 hb1; have HB1 := Lib.hid (below_step hB0 hb1); clear hb1)
          | (go_at_call 62; (with_reducible refine (rvalid_any px py true _ HW).mono ?_); rintro e w2 ⟨rfl, hb2⟩; have HB2 := Lib.hid (below_step HB1.out hb2); have HQ2 := Lib.hid (q1.out.below hb2 q1.out.lt); clear hb2))
        go_loopw [5] (fun i wr => ∃ k : Nat, k ≤ n ∧ i = .int .i64 k ∧ Hid (allB (sdB X Y n px py) k = true) ∧ Hid (Below w.heap.size w wr) ∧ Hid (BoxAt wr w.heap.size 24 #[.int .i64 px, .int .i64 py])) (fun i _ => n - (intOf i).toNat)
        case atStart => exact ⟨0, Nat.zero_le _, rfl, Lib.hid rfl, HB2, HQ2⟩
        case round =>
          clear HB2 HQ2 HV HB1 q1 k0 k1 k2 k3
          obtain ⟨k, hk, rfl, HT, HB, HQ⟩ := hrel
          have i3 : (0 : Int) ≤ (k : Int) := Int.natCast_nonneg _
          by_cases hlt : k < n
          · have i4 : (k : Int) < (n : Int) := by omega
            have HPr := Lib.hid (HP.out.below HB.out hb)
            obtain ⟨hx, hy⟩ := HPr.out k hlt
            obtain ⟨hx', hy'⟩ := HPr.out _ (nx_lt hlt)
            have lr : b < wr.heap.size := Nat.lt_of_lt_of_le hb HB.out.size
            have ql := HQ.out.lt
            have hr2 := nx_tmod n k
            have hJ := nx_lt hlt
            obtain ⟨x0, hx0⟩ : ∃ x, x = X k := ⟨_, rfl⟩
            obtain ⟨y0, hy0⟩ : ∃ x, x = Y k := ⟨_, rfl⟩
            obtain ⟨x1, hx1⟩ : ∃ x, x = X (nx n k) := ⟨_, rfl⟩
            obtain ⟨y1, hy1⟩ : ∃ x, x = Y (nx n k) := ⟨_, rfl⟩
            obtain ⟨s, hs⟩ : ∃ s, s = sideF (x0, y0) (x1, y1) (px, py) := ⟨_, rfl⟩
            have HS1 := Lib.hid (fun W => rside_any x0 y0 x1 y1 px py s W (Lib.hid hs.symm))
            have HSd : Hid (sdB X Y n px py k = decide (0 ≤ s)) := Lib.hid (by unfold sdB; rw [hs, hx0, hy0, hx1, hy1])
            rw [← hx0] at hx
            rw [← hy0] at hy
            rw [← hx1] at hx'
            rw [← hy1] at hy'
            obtain ⟨J, hJe⟩ : ∃ J, J = nx n k := ⟨_, rfl⟩
            rw [← hJe] at hr2 hJ hx' hy'
            obtain ⟨bb, hbb⟩ : ∃ bb, bb = decide (s < 0) := ⟨_, rfl⟩
            have HBB := Lib.hid hbb
            have hdec := hbb.symm
            have j0 : (0 : Int) ≤ (J : Int) := Int.natCast_nonneg _
            have j1 : (J : Int) < (n : Int) := by omega
            have n1 : (n : Int) ≠ 0 := by omega
            have wk : IntKind.i64.wrap ((k : Int) + 1) = (k : Int) + 1 := IntWalk.i64_in _ (by omega)
            have wj2 : IntKind.i64.wrap (J : Int) = (J : Int) := IntWalk.i64_in _ (by omega)
            have wj : IntKind.i64.wrap (((k : Int) + 1).tmod (n : Int)) = (J : Int) := by rw [hr2]; exact wj2
            have d4 := HQ.out.cell 0
            have d5 := HQ.out.cell 1
            have HSix : Hid (∀ W, Below wr.heap.size wr W → W.cell? ⟨b, off + k * 2, none⟩ = some (.int .i64 x0) ∧ W.cell? ⟨b, off + k * 2 + 1, none⟩ = some (.int .i64 y0) ∧ W.cell? ⟨b, off + J * 2, none⟩ = some (.int .i64 x1) ∧ W.cell? ⟨b, off + J * 2 + 1, none⟩ = some (.int .i64 y1) ∧ W.cell? ⟨w.heap.size, 0, none⟩ = some (.int .i64 px) ∧ W.cell? ⟨w.heap.size, 1, none⟩ = some (.int .i64 py)) :=
              Lib.hid (fun W h => ⟨(h.cell (p := ⟨b, off + k * 2, none⟩) lr).trans hx, (h.cell (p := ⟨b, off + k * 2 + 1, none⟩) lr).trans hy, (h.cell (p := ⟨b, off + J * 2, none⟩) lr).trans hx', (h.cell (p := ⟨b, off + J * 2 + 1, none⟩) lr).trans hy', (h.cell (p := ⟨w.heap.size, 0, none⟩) ql).trans d4, (h.cell (p := ⟨w.heap.size, 1, none⟩) ql).trans d5⟩)
            clear hx0 hy0 hx1 hy1 HP HC HW hr B0 hs hbb hJe HPr
            go_upto_region 8 with fail
            go_cut [54] from 40 to 54 (fun v w' => v = .bool bb ∧ Below wr.heap.size wr w')
            case first =>
              go_region_held3 (fun W => W.cell? ⟨b, off + k * 2, none⟩ = some (.int .i64 x0) ∧ W.cell? ⟨b, off + k * 2 + 1, none⟩ = some (.int .i64 y0) ∧ W.cell? ⟨b, off + J * 2, none⟩ = some (.int .i64 x1) ∧ W.cell? ⟨b, off + J * 2 + 1, none⟩ = some (.int .i64 y1) ∧ W.cell? ⟨w.heap.size, 0, none⟩ = some (.int .i64 px) ∧ W.cell? ⟨w.heap.size, 1, none⟩ = some (.int .i64 py))
                (first | exact HSix.out _ hB4 | go_keep)
                (first
                  | (go_at_call 86; (with_reducible refine (HS1.out _).mono ?_); rintro e w4 ⟨rfl, hb4⟩; have hB4 : Below wr.heap.size wr w4 := below_step ((Below.refl _ wr).drew) hb4))
              all_goals go_wp2
              all_goals go_meet
              all_goals exact ⟨by first | rfl | rw [hdec], hB4⟩
            case rest =>
              obtain ⟨wz, rfl⟩ : ∃ x : World, x = wc := ⟨_, rfl⟩
              obtain ⟨rfl, hbz⟩ := hcut
              have HBz := Lib.hid (below_step HB.out hbz)
              have HQz := Lib.hid (HQ.out.below hbz ql)
              clear hbz HSix d4 d5 hdec
              cases bb with
              | false =>
                have HT2 : Hid (allB (sdB X Y n px py) (k + 1) = true) := Lib.hid (by
                  have h := HBB.out.symm
                  rw [decide_eq_false_iff_not] at h
                  unfold allB
                  rw [HT.out, HSd.out, decide_eq_true (by omega)]
                  rfl)
                go_wp2
                go_roundw
                case rel => exact ⟨k + 1, by omega, by go_num, HT2, HBz, HQz⟩
                case measure => simp [intOf]; omega
              | true =>
                have HR : Hid (r = false) := Lib.hid (by
                  have h := HBB.out.symm
                  rw [decide_eq_true_eq] at h
                  rw [← HF.out]
                  exact allB_false hlt (by rw [HSd.out, decide_eq_false (by omega)]))
                go_wp2
                go_ret
                exact ⟨by rw [HR.out]; rfl, HBz.out⟩
          · obtain rfl : k = n := by omega
            have i4 : ¬ (k : Int) < (k : Int) := by omega
            have HR : Hid (r = true) := Lib.hid (HF.out.symm.trans HT.out)
            go_wp2
            go_ret
            exact ⟨by rw [HR.out]; rfl, HB.out⟩
end Go.Proofs.Ytaehfildhmljeaa
