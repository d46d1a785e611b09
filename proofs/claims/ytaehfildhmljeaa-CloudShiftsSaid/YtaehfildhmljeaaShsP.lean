/- Lists of spots: copied, compared. next 88, validCorners 87, the reference's corners 89: of lists of spots. Area2 of any list of corners: the program's 45 and the reference's 46. The reference's Area2 of any list of corners. Inside of any list of corners: the program's 47. The reference's Inside 48 of any list of corners. A range over a function whose body never leaves the loop, over an iterator that writes cells of its own: what is asked of the iterator is asked at the one relation of the caller's. The program's Hull of any cloud. Hulls and areas go with a shift: mathematics. What CloudShifts wants of mathematics: a shifted cloud is a cloud, its corners lie in the world, all its points match. The law CloudShifts: its walk. PROVED HERE: for every slice of numbers (nil or not, of any length), every spot, gap and slack, CloudShifts returns true, and its arguments read behind the call as before.
   Conditions: none beyond the given row's own. -/
import Derived.Test.YtaehfildhmljeaaPtsL
import Derived.Test.YtaehfildhmljeaaChkC
import Derived.Test.YtaehfildhmljeaaIdxP
import Derived.BigQuiet
import Derived.Test.YtaehfildhmljeaaQBel
import Derived.Test.YtaehfildhmljeaaRef4
import Derived.Deep.CutBlock
import Derived.Test.YtaehfildhmljeaaCor
import Derived.Test.YtaehfildhmljeaaRHl
import Derived.Maps.AppendAt
import Derived.Maps.OwnIn
import Derived.Test.YtaehfildhmljeaaHulF
import Derived.Test.YtaehfildhmljeaaShfW
import Derived.Test.YtaehfildhmljeaaBstM
import Derived.Test.YtaehfildhmljeaaSegA
import Derived.Test.YtaehfildhmljeaaAwk
import Derived.Test.YtaehfildhmljeaaOpn
namespace Go.Proofs.Ytaehfildhmljeaa
open Go.RowKit Go.Shelf

def Spots (w : World) (A : Option Addr) (n : Nat) (X Y : Nat → Int) : Prop := 0 < n → ∃ b off, A = some ⟨b, off, none⟩ ∧ Pts w b off n X Y
theorem Spots.below {w w' : World} {A : Option Addr} {n : Nat} {X Y : Nat → Int} (h : Spots w A n X Y) (hb : Below w.heap.size w w') : Spots w' A n X Y := fun hn => by
  obtain ⟨b, off, e, hp⟩ := h hn
  exact ⟨b, off, e, hp.below hb (hp.lt hn)⟩
def cellsL (X Y : Nat → Int) : Nat → List Value
  | 0 => []
  | k + 1 => cellsL X Y k ++ [.int .i64 (X k), .int .i64 (Y k)]
theorem cellsL_length (X Y : Nat → Int) (k : Nat) : (cellsL X Y k).length = k * 2 := by induction k with | zero => rfl | succ k ih => simp [cellsL, ih]; omega
theorem cellsL_get (X Y : Nat → Int) {k i : Nat} (h : i < k) : (cellsL X Y k)[i * 2]? = some (.int .i64 (X i)) ∧ (cellsL X Y k)[i * 2 + 1]? = some (.int .i64 (Y i)) := by
  induction k with
  | zero => omega
  | succ k ih =>
    have hl := cellsL_length X Y k
    unfold cellsL
    rcases Nat.lt_or_ge i k with h' | h'
    · obtain ⟨a, b⟩ := ih h'
      exact ⟨by rw [List.getElem?_append_left (by omega)]; exact a, by rw [List.getElem?_append_left (by omega)]; exact b⟩
    · obtain rfl : i = k := by omega
      exact ⟨by rw [List.getElem?_append_right (by omega), hl]; simp, by rw [List.getElem?_append_right (by omega), hl]; simp⟩
/-- A row that a call owns, as spots. -/
theorem Pts.of_own {w : World} {base g k cap : Nat} {X Y : Nat → Int} (h : w.ownsRow base 24 2 (.slice (some ⟨g, 0, none⟩) k cap) k (cellsL X Y k)) : Pts w g 0 k X Y := by
  intro i hi
  obtain ⟨a, b⟩ := cellsL_get X Y hi
  have add : ∀ j, (⟨g, 0, none⟩ : Addr).add j = ⟨g, 0 + j, none⟩ := fun j => by unfold Addr.add; split <;> simp_all
  have h1 := h.cells (g := g) rfl _ _ a
  have h2 := h.cells (g := g) rfl _ _ b
  rw [add] at h1 h2
  exact ⟨h1, by rw [show 0 + i * 2 + 1 = 0 + (i * 2 + 1) by omega]; exact h2⟩
theorem cellsL_inv {X Y : Nat → Int} {n j : Nat} {u : Value} (h : (cellsL X Y n)[j]? = some u) : ∃ i, i < n ∧ ((j = i * 2 ∧ u = .int .i64 (X i)) ∨ (j = i * 2 + 1 ∧ u = .int .i64 (Y i))) := by
  have hj : j < (cellsL X Y n).length := (List.getElem?_eq_some_iff.1 h).1
  rw [cellsL_length] at hj
  have hi : j / 2 < n := by omega
  obtain ⟨a, b⟩ := cellsL_get X Y hi
  refine ⟨j / 2, hi, ?_⟩
  rcases Nat.mod_two_eq_zero_or_one j with e | e
  · have e2 : j / 2 * 2 = j := by omega
    rw [e2] at a; rw [a] at h; cases h
    exact .inl ⟨e2.symm, rfl⟩
  · have e2 : j / 2 * 2 + 1 = j := by omega
    rw [e2] at b; rw [b] at h; cases h
    exact .inr ⟨e2.symm, rfl⟩

theorem empty_rowS (w : World) : (w.alloc (.cells #[] 24)).ownsRow w.heap.size 24 2 (.slice (some ⟨w.heap.size, 0, none⟩) 0 0) 0 [] :=
  ⟨rfl, .inr ⟨w.heap.size, 0, #[], rfl, Nat.le_refl _, World.alloc_heap_new w _, Nat.le_refl _, by decide, rfl, rfl⟩⟩


set_option maxHeartbeats 2000000 in
theorem ownspots_some (b off n cap : Nat) (X Y : Nat → Int) (hn : 0 < n) (hn' : n ≤ 1100) (w : World) (hp : Pts w b off n X Y) :
    Calls Try.prog 41 #[.slice (some ⟨b, off, none⟩) n cap] w fun e w' => ∃ g cap', e = .returned (.slice (some ⟨g, 0, none⟩) n cap') ∧ Pts w' g 0 n X Y ∧ Below w.heap.size w w' := by
  obtain ⟨i0, hi0, hz0, hz1, hz2⟩ := info_parts Try.info24
  have hI0 := Lib.hid hi0
  have hZ0 := Lib.hid hz0
  have hZ1 := Lib.hid hz1
  have hZ2 := Lib.hid hz2
  clear hi0 hz0 hz1 hz2
  have hb := hp.lt hn
  have hE := Lib.hid (empty_rowS w)
  have hB : Below w.heap.size w (w.alloc (.cells #[] 24)) := (Below.refl _ _).alloc (Nat.le_refl _) _
  have hP := Lib.hid (hp.below hB hb)
  have hnews : Hid (∀ j u, (cellsL X Y n)[j]? = some u → (w.alloc (.cells #[] 24)).cell? ((⟨b, off, none⟩ : Addr).add j) = some u) := by
    intro j u h
    obtain ⟨i, hi, ⟨rfl, rfl⟩ | ⟨rfl, rfl⟩⟩ := cellsL_inv h
    · rw [add_plain]; exact (hP.out i hi).1
    · rw [add_plain, ← Nat.add_assoc]; exact (hP.out i hi).2
  have hone : Hid (∀ u ∈ cellsL X Y n, u.oneCell' = true) := by
    intro u hu
    obtain ⟨j, hj⟩ := List.getElem?_of_mem hu
    obtain ⟨i, hi, ⟨_, rfl⟩ | ⟨_, rfl⟩⟩ := cellsL_inv hj <;> simp [Value.oneCell']
  clear hp
  go_enter Try.func41, Try.ntmps41
  go_wp2_with (at_builtin; refine wpList_append_lies _ rfl _ _ 56 rfl w.heap.size 24 i0 _ 2 16 Try.underlying56 hI0.out hZ0.out hZ1.out hZ2.out rfl (by decide) (.slice (some ⟨w.heap.size, 0, none⟩) 0 0) 0 [] rfl hE.out ⟨b, off, none⟩ n cap (cellsL X Y n) rfl (cellsL_length X Y n) hnews.out hone.out hn (by unfold maxLen; omega) (by omega) (by simp) _ rfl ?_; intro gg cap1 w7 hown7 hgrow hat hlt7)
  rw [Nat.zero_add, List.nil_append] at hown7
  have hP7 := Lib.hid (Pts.of_own hown7)
  have hB7 : Below w.heap.size w w7 := hB.grown hgrow (by simp) (fun g e => by simp [Value.ownBlock] at e; omega)
  have e0 : 0 + n = n := Nat.zero_add n
  clear hown7 hat
  go_wp2
  go_ret
  exact ⟨gg, cap1, by simp, hP7.out, hB7⟩
set_option maxHeartbeats 2000000 in
theorem ownspots_nil (A : Option Addr) (cap : Nat) (w : World) :
    Calls Try.prog 41 #[.slice A 0 cap] w fun e w' => ∃ B cap', e = .returned (.slice B 0 cap') ∧ Below w.heap.size w w' := by
  obtain _ | ⟨b, off, row⟩ := A
  · go_enter Try.func41, Try.ntmps41
    go_wp2
    go_ret
    exact ⟨_, _, rfl, (Below.refl _ _).alloc (Nat.le_refl _) _⟩
  · go_enter Try.func41, Try.ntmps41
    go_wp2
    go_ret
    exact ⟨_, _, rfl, (Below.refl _ _).alloc (Nat.le_refl _) _⟩

theorem ownspots_any (A : Option Addr) (n cap : Nat) (X Y : Nat → Int) (hn' : n ≤ 1100) (w : World) (h : Spots w A n X Y) :
    Calls Try.prog 41 #[.slice A n cap] w fun e w' => ∃ B cap', e = .returned (.slice B n cap') ∧ Spots w' B n X Y ∧ Below w.heap.size w w' := by
  rcases Nat.eq_zero_or_pos n with rfl | hn
  · refine (ownspots_nil A cap w).mono ?_
    rintro e w' ⟨B, cap', rfl, hb⟩
    exact ⟨B, cap', rfl, fun h => absurd h (by omega), hb⟩
  · obtain ⟨b, off, rfl, hp⟩ := h hn
    refine (ownspots_some b off n cap X Y hn hn' w hp).mono ?_
    rintro e w' ⟨g, cap', rfl, hp', hb⟩
    exact ⟨_, cap', rfl, fun _ => ⟨g, 0, rfl, hp'⟩, hb⟩


set_option maxHeartbeats 4000000 in
theorem same_spots (A1 A2 : Option Addr) (n c1 c2 : Nat) (X Y : Nat → Int) (w : World) (hn : n ≤ 1000000) (h1 : Spots w A1 n X Y) (h2 : Spots w A2 n X Y) :
    Calls Try.prog 44 #[.slice A1 n c1, .slice A2 n c2] w fun e w' => e = .returned (.bool true) ∧ Below w.heap.size w w' := by
  have H1 := Lib.hid h1
  have H2 := Lib.hid h2
  clear h1 h2
  go_enter Try.func44, Try.ntmps44
  go_wp2
  go_loopw [5] (fun i wr => ∃ k : Nat, k ≤ n ∧ i = .int .i64 k ∧ Hid (Below w.heap.size w wr)) (fun i _ => n - (intOf i).toNat)
  case atStart => exact ⟨0, Nat.zero_le _, rfl, Lib.hid (Below.refl _ _)⟩
  case round =>
    obtain ⟨k, hk, rfl, hB⟩ := hrel
    by_cases hlt : k < n
    · obtain ⟨b1, o1, e1, p1⟩ := H1.out (by omega)
      obtain ⟨b2, o2, e2, p2⟩ := H2.out (by omega)
      subst e1
      subst e2
      obtain ⟨a0, a1⟩ := (p1.below hB.out (p1.lt (by omega))) k hlt
      obtain ⟨a3, a4⟩ := (p2.below hB.out (p2.lt (by omega))) k hlt
      have l1 := World.block_lt_of_cell? wr _ a0
      have l2 := World.block_lt_of_cell? wr _ a3
      clear p1 p2
      have i1 : (0 : Int) ≤ (k : Int) := Int.natCast_nonneg _
      have i2 : (k : Int) < (n : Int) := by omega
      go_wp2_with fail
      go_quiet (fail)
      go_wp2
      go_roundw
      case rel => exact ⟨k + 1, by omega, by go_num, Lib.hid (below_drewN hB.out _)⟩
      case measure => simp [intOf]; omega
    · obtain rfl : k = n := by omega
      go_wp2
      go_ret
      exact ⟨rfl, hB.out⟩

/-- The coordinates of a list of points. -/
def lX (L : List Pt) (i : Nat) : Int := (L.getD i (0, 0)).1
def lY (L : List Pt) (i : Nat) : Int := (L.getD i (0, 0)).2
end Go.Proofs.Ytaehfildhmljeaa

namespace Go.Proofs.Ytaehfildhmljeaa
open Go.RowKit Go.Shelf

def nx (n k : Nat) : Nat := (k + 1) % n
theorem nx_lt {n k : Nat} (h : k < n) : nx n k < n := Nat.mod_lt _ (by omega)
theorem nx_tmod (n k : Nat) : (((k : Int) + 1).tmod (n : Int)) = ((nx n k : Nat) : Int) := by
  unfold nx
  rw [Int.tmod_eq_emod_of_nonneg (by omega), Int.natCast_emod]
  rfl

set_option maxHeartbeats 2000000 in
theorem next_any (b off n cap k : Nat) (X Y : Nat → Int) (hk : k < n) (hn : n ≤ 1000) (w : World) (hp : Pts w b off n X Y) :
    Calls Try.prog 88 #[.slice (some ⟨b, off, none⟩) n cap, .int .i64 (k : Int)] w fun e w' => e = .returned (sp (X (nx n k)) (Y (nx n k))) ∧ Below w.heap.size w w' := by
  have HR := Lib.hid (nx_tmod n k)
  have hJ := nx_lt hk
  obtain ⟨x0, y0⟩ := hp _ hJ
  have hb := hp.lt (by omega)
  have hB : Below w.heap.size w (w.alloc (.cells #[.int .i64 0, .int .i64 0] 24)) := (Below.refl _ w).alloc (Nat.le_refl _) _
  have C := BoxAt.new w 24 #[.int .i64 0, .int .i64 0]
  have c0 := hB.cell (p := ⟨b, off + nx n k * 2, none⟩) hb
  have c1 := hB.cell (p := ⟨b, off + nx n k * 2 + 1, none⟩) hb
  rw [x0] at c0
  rw [y0] at c1
  obtain ⟨J, hJe⟩ : ∃ J, J = nx n k := ⟨_, rfl⟩
  rw [← hJe] at HR hJ c0 c1 ⊢
  have hr : ((k : Int) + 1).tmod (n : Int) = (J : Int) := HR.out
  have i0 : (0 : Int) ≤ (J : Int) := Int.natCast_nonneg _
  have i1 : (J : Int) < (n : Int) := by omega
  have n0 : ((n : Int) == 0) = false := by simp; omega
  have n1 : (n : Int) ≠ 0 := by omega
  clear HR hJe x0 y0 hp
  go_enter Try.func88, Try.ntmps88
  go_wp2
  exact bodyPost_ret (v := sp (X J) (Y J)) (by simp [results, Try.results88, go_sem, BoxAt.cell (BoxAt.new w 24 #[.int .i64 (X J), .int .i64 (Y J)])]) rfl ⟨rfl, (Below.refl _ w).alloc (Nat.le_refl _) _⟩

/-- Do the corners lie in the world, and not too many? -/
def corF (n : Nat) (X Y : Nat → Int) : Bool := decide (n ≤ 1000) && allB (fun i => vldB (X i) (Y i)) n

set_option maxHeartbeats 2000000 in
theorem vcor_any (b off n cap : Nat) (X Y : Nat → Int) (r : Bool) (w : World) (hp : Pts w b off n X Y) (h0 : 0 < n) (hN : n ≤ 1000000) (hr : Hid (corF n X Y = r)) :
    Calls Try.prog 87 #[.slice (some ⟨b, off, none⟩) n cap] w fun e w' => e = .returned (.bool r) ∧ Below w.heap.size w w' := by
  by_cases h : n ≤ 1000
  · have i1 : (n : Int) ≤ 1000 := by omega
    have HV := Lib.hid (vspots_any b off n cap X Y r w hp (hp.lt h0) (by omega) (Lib.hid (by rw [← hr.out]; unfold corF; rw [decide_eq_true h]; rfl)))
    clear hp
    cases r <;>
    · go_enter Try.func87, Try.ntmps87
      go_wp2_with (go_at_call 60; (with_reducible refine HV.out.mono ?_); rintro e w1 ⟨rfl, hb1⟩)
      go_ret
      exact ⟨rfl, hb1⟩
  · have i1 : ¬ (n : Int) ≤ 1000 := by omega
    have hz : Hid (false = r) := Lib.hid (by rw [← hr.out]; unfold corF; rw [decide_eq_false h]; rfl)
    clear hp
    go_enter Try.func87, Try.ntmps87
    go_wp2
    go_ret
    exact ⟨congrArg (fun z => Ending.returned (.bool z)) hz.out, Below.refl _ _⟩

set_option maxHeartbeats 4000000 in
theorem rcor_any (A : Option Addr) (n cap : Nat) (X Y : Nat → Int) (r : Bool) (w : World) (hs : Spots w A n X Y) (hN : n ≤ 1000000) (hr : Hid (corF n X Y = r)) :
    Calls Try.prog 89 #[.slice A n cap] w fun e w' => e = .returned (.bool r) ∧ Below w.heap.size w w' := by
  by_cases h : n ≤ 1000
  · have i1 : ¬ (n : Int) > 1000 := by omega
    have HA : Hid (allB (fun i => vldB (X i) (Y i)) n = r) := Lib.hid (by rw [← hr.out]; unfold corF; rw [decide_eq_true h]; rfl)
    have HS := Lib.hid hs
    clear hs hr
    go_enter Try.func89, Try.ntmps89
    go_wp2
    go_loopw [3] (fun i wr => ∃ k : Nat, k ≤ n ∧ i = .int .i64 k ∧ Hid (allB (fun i => vldB (X i) (Y i)) k = true) ∧ Hid (Below w.heap.size w wr)) (fun i _ => n - (intOf i).toNat)
    case atStart => exact ⟨0, Nat.zero_le _, rfl, Lib.hid rfl, Lib.hid (Below.refl _ _)⟩
    case round =>
      obtain ⟨k, hk, rfl, HT, HB⟩ := hrel
      by_cases hlt : k < n
      · have i0 : (0 : Int) ≤ (k : Int) := Int.natCast_nonneg _
        have i2 : (k : Int) < (n : Int) := by omega
        obtain ⟨b, off, e1, hp⟩ := HS.out (by omega)
        subst e1
        have hb := hp.lt (by omega)
        obtain ⟨hx, hy⟩ := (hp.below HB.out hb) k hlt
        have l1 : b < wr.heap.size := Nat.lt_of_lt_of_le hb HB.out.size
        clear hp
        obtain ⟨z, hz⟩ : ∃ z, z = vldB (X k) (Y k) := ⟨_, rfl⟩
        have HV : Hid (vp (X k, Y k) = z) := Lib.hid hz.symm
        have HZ := Lib.hid hz
        clear hz
        cases z with
        | true =>
          have HT2 : Hid (allB (fun i => vldB (X i) (Y i)) (k + 1) = true) := Lib.hid (by unfold allB; rw [HT.out, ← HZ.out]; rfl)
          go_wp2_with (go_at_call 62; (with_reducible refine (rvalid_any _ _ true _ HV).mono ?_); rintro e wb ⟨rfl, hbb⟩)
          go_roundw
          case rel => exact ⟨k + 1, by omega, by go_num, HT2, Lib.hid (below_step HB.out hbb)⟩
          case measure => simp [intOf]; omega
        | false =>
          have HF : Hid (r = false) := Lib.hid (by rw [← HA.out]; exact allB_false hlt HZ.out.symm)
          go_wp2_with (go_at_call 62; (with_reducible refine (rvalid_any _ _ false _ HV).mono ?_); rintro e wb ⟨rfl, hbb⟩)
          go_ret
          exact ⟨by rw [HF.out]; rfl, below_step HB.out hbb⟩
      · obtain rfl : k = n := by omega
        have i2 : ¬ (k : Int) < (k : Int) := by omega
        have HF : Hid (r = true) := Lib.hid (HA.out.symm.trans HT.out)
        go_wp2
        go_ret
        exact ⟨by rw [HF.out]; rfl, HB.out⟩
  · have i1 : (n : Int) > 1000 := by omega
    have hz : Hid (false = r) := Lib.hid (by rw [← hr.out]; unfold corF; rw [decide_eq_false h]; rfl)
    clear hs
    go_enter Try.func89, Try.ntmps89
    go_wp2
    go_ret
    exact ⟨congrArg (fun z => Ending.returned (.bool z)) hz.out, Below.refl _ _⟩
end Go.Proofs.Ytaehfildhmljeaa

namespace Go.Proofs.Ytaehfildhmljeaa
open Go.RowKit Go.Shelf

def crK (X Y : Nat → Int) (n i : Nat) : Int := X i * Y (nx n i) - Y i * X (nx n i)
def arS (X Y : Nat → Int) (n : Nat) : Nat → Int
  | 0 => 0
  | k + 1 => arS X Y n k + crK X Y n k
def areaF (n : Nat) (X Y : Nat → Int) : Int := if corF n X Y = true ∧ 3 ≤ n then arS X Y n n else 0
theorem corF_at {n : Nat} {X Y : Nat → Int} (h : corF n X Y = true) : n ≤ 1000 ∧ ∀ i, i < n → okc (X i) ∧ okc (Y i) := by
  unfold corF at h
  rw [Bool.and_eq_true, decide_eq_true_eq] at h
  exact ⟨h.1, fun i hi => (vldB_iff _ _).1 (allB_true h.2 i hi)⟩
theorem okc_d {x : Int} (h : okc x) : okd x := by unfold okc at h; unfold okd; omega
theorem crK_bd {n i : Nat} {X Y : Nat → Int} (h : corF n X Y = true) (hi : i < n) : -2251799813685248 ≤ crK X Y n i ∧ crK X Y n i ≤ 2251799813685248 := by
  obtain ⟨_, ha⟩ := corF_at h
  obtain ⟨a1, a2⟩ := ha i hi
  obtain ⟨b1, b2⟩ := ha _ (nx_lt hi)
  have m1 := okd_mul (okc_d a1) (okc_d b2)
  have m2 := okd_mul (okc_d a2) (okc_d b1)
  unfold crK
  omega
theorem arS_bd {n : Nat} {X Y : Nat → Int} (h : corF n X Y = true) : ∀ k, k ≤ n → -(2251799813685248 * (k : Int)) ≤ arS X Y n k ∧ arS X Y n k ≤ 2251799813685248 * (k : Int) := by
  intro k
  induction k with
  | zero => intro _; simp [arS]
  | succ k ih =>
    intro hk
    have h1 := ih (by omega)
    have h2 := crK_bd h (i := k) (by omega)
    unfold arS
    push_cast
    omega
theorem areaF_no {n : Nat} {X Y : Nat → Int} (h : corF n X Y = false) : areaF n X Y = 0 := by
  unfold areaF; rw [if_neg (by simp [h])]
theorem areaF_few {n : Nat} {X Y : Nat → Int} (h : n < 3) : areaF n X Y = 0 := by
  unfold areaF; rw [if_neg (by omega)]
theorem areaF_yes {n : Nat} {X Y : Nat → Int} (h : corF n X Y = true) (h3 : 3 ≤ n) : areaF n X Y = arS X Y n n := by
  unfold areaF; rw [if_pos ⟨h, h3⟩]

set_option maxRecDepth 100000 in
set_option maxHeartbeats 4000000 in
theorem area_any (A : Option Addr) (n cap : Nat) (X Y : Nat → Int) (r : Int) (w : World) (hs : Spots w A n X Y) (hN : n ≤ 1000000) (hr : Hid (areaF n X Y = r)) :
    Calls Try.prog 45 #[.slice A n cap] w fun e w' => e = .returned (.int .i64 r) ∧ Below w.heap.size w w' := by
  by_cases h3 : n < 3
  · have i1 : (n : Int) < 3 := by omega
    have HF : Hid (r = 0) := Lib.hid (by rw [← hr.out]; exact areaF_few h3)
    clear hs
    go_enter Try.func45, Try.ntmps45
    go_wp2
    go_ret
    exact ⟨by rw [HF.out]; rfl, Below.refl _ _⟩
  · have i1 : ¬ (n : Int) < 3 := by omega
    obtain ⟨b, off, rfl, hp⟩ := hs (by omega)
    obtain ⟨z, hz⟩ : ∃ z, z = corF n X Y := ⟨_, rfl⟩
    have HV := Lib.hid (vcor_any b off n cap X Y z w hp (by omega) hN (Lib.hid hz.symm))
    cases z with
    | false =>
      have HF : Hid (r = 0) := Lib.hid (by rw [← hr.out]; exact areaF_no hz.symm)
      clear hp hz
      go_enter Try.func45, Try.ntmps45
      go_wp2_with (go_at_call 87; (with_reducible refine HV.out.mono ?_); rintro e w1 ⟨rfl, hb1⟩)
      go_ret
      exact ⟨by rw [HF.out]; rfl, hb1⟩
    | true =>
      have HC : Hid (corF n X Y = true) := Lib.hid hz.symm
      have hn := (corF_at hz.symm).1
      have HF : Hid (r = arS X Y n n) := Lib.hid (by rw [← hr.out]; exact areaF_yes hz.symm (by omega))
      have HP := Lib.hid hp
      have hb := hp.lt (by omega)
      clear hp hz
      go_enter Try.func45, Try.ntmps45
      go_wp2_with (go_at_call 87; (with_reducible refine HV.out.mono ?_); rintro e w1 ⟨rfl, hb1⟩; have HB1 := Lib.hid hb1; clear hb1)
      go_loopw [3, 17] (fun t i wr => ∃ (k : Nat) (T : Int), k ≤ n ∧ i = .int .i64 k ∧ t = .int .i64 T ∧ Hid (arS X Y n k = T) ∧ Hid (Below w.heap.size w wr)) (fun _ i _ => n - (intOf i).toNat)
      case atStart => exact ⟨0, 0, Nat.zero_le _, rfl, rfl, Lib.hid rfl, HB1⟩
      case round =>
        clear HB1 HV
        obtain ⟨k, T, hk, rfl, rfl, HT, HB⟩ := hrel
        have i2 : (0 : Int) ≤ (k : Int) := Int.natCast_nonneg _
        by_cases hlt : k < n
        · have i3 : (k : Int) < (n : Int) := by omega
          have hp := HP.out.below HB.out hb
          have HP2 := Lib.hid hp
          obtain ⟨hx, hy⟩ := hp k hlt
          have l1 : b < wr.heap.size := Nat.lt_of_lt_of_le hb HB.out.size
          clear hp
          obtain ⟨o1, o2⟩ := (corF_at HC.out).2 k hlt
          obtain ⟨o3, o4⟩ := (corF_at HC.out).2 _ (nx_lt hlt)
          have t1 := arS_bd HC.out k hk
          have HT2 : Hid (arS X Y n (k + 1) = T + (X k * Y (nx n k) - Y k * X (nx n k))) := Lib.hid (by show arS X Y n k + crK X Y n k = _; rw [HT.out]; rfl)
          rw [HT.out] at t1
          have HN := Lib.hid (fun (W : World) (h : Pts W b off n X Y) => next_any b off n cap k X Y hlt hn W h)
          obtain ⟨x0, hx0⟩ : ∃ x, x = X k := ⟨_, rfl⟩
          obtain ⟨y0, hy0⟩ : ∃ x, x = Y k := ⟨_, rfl⟩
          obtain ⟨x1, hx1⟩ : ∃ x, x = X (nx n k) := ⟨_, rfl⟩
          obtain ⟨y1, hy1⟩ : ∃ x, x = Y (nx n k) := ⟨_, rfl⟩
          rw [← hx0, ← hy0, ← hx1, ← hy1] at HT2
          rw [← hx0] at hx o1
          rw [← hy0] at hy o2
          rw [← hx1] at HN o3
          rw [← hy1] at HN o4
          have m1 := okd_mul (okc_d o1) (okc_d o4)
          have m2 := okd_mul (okc_d o2) (okc_d o3)
          have tl : -9000000000000000000 ≤ T ∧ T ≤ 9000000000000000000 := by omega
          obtain ⟨tl1, tl2⟩ := tl
          have u1 : -2251799813685248 ≤ x0 * y1 - y0 * x1 ∧ x0 * y1 - y0 * x1 ≤ 2251799813685248 := by omega
          obtain ⟨u1, u2⟩ := u1
          have u3 : -9223372036854775808 ≤ T + (x0 * y1 - y0 * x1) ∧ T + (x0 * y1 - y0 * x1) < 9223372036854775808 := by omega
          obtain ⟨u3, u4⟩ := u3
          obtain ⟨m11, m12⟩ := m1
          obtain ⟨m21, m22⟩ := m2
          have B5 := BoxAt.new wr 24 #[.int .i64 x0, .int .i64 y0]
          have hB5 : Below wr.heap.size wr (wr.alloc (.cells #[.int .i64 x0, .int .i64 y0] 24)) := (Below.refl _ wr).alloc (Nat.le_refl _) _
          have HP3 := Lib.hid (HP2.out.below hB5 l1)
          clear HC HT HP2 hx0 hy0 hx1 hy1 o1 o2 o3 o4 t1
          go_wp2_with (go_at_call 88; (with_reducible refine (HN.out _ HP3.out).mono ?_); rintro e w2 ⟨rfl, hb2⟩; have HB2 := Lib.hid hb2; obtain ⟨q5, k0, k1, k2, k3⟩ := box2 B5 hb2; have l2 : wr.heap.size < w2.heap.size := q5.out.lt; clear hb2)
          go_roundw
          case rel => exact ⟨k + 1, _, by omega, by go_num, rfl, HT2, Lib.hid ((below_step HB.out (below_step hB5 HB2.out)).alloc (Nat.le_trans HB.out.size (by omega)) _)⟩
          case measure => simp [intOf]; omega
        · obtain rfl : k = n := by omega
          have i3 : ¬ (k : Int) < (k : Int) := by omega
          have HE : Hid (r = T) := Lib.hid (by rw [HF.out, HT.out])
          go_wp2
          go_ret
          exact ⟨by rw [HE.out]; rfl, HB.out⟩
end Go.Proofs.Ytaehfildhmljeaa

namespace Go.Proofs.Ytaehfildhmljeaa
open Go.RowKit Go.Shelf

set_option maxRecDepth 100000 in
set_option maxHeartbeats 8000000 in
theorem rarea_any (A : Option Addr) (n cap : Nat) (X Y : Nat → Int) (r : Int) (w : World) (hs : Spots w A n X Y) (hN : n ≤ 1000000) (hr : Hid (areaF n X Y = r)) :
    Calls Try.prog 46 #[.slice A n cap] w fun e w' => e = .returned (.int .i64 r) ∧ Below w.heap.size w w' := by
  obtain ⟨z, hz⟩ : ∃ z, z = corF n X Y := ⟨_, rfl⟩
  have HV := Lib.hid (rcor_any A n cap X Y z w hs hN (Lib.hid hz.symm))
  have HS := Lib.hid hs
  cases z with
  | false =>
    have HF : Hid (r = 0) := Lib.hid (by rw [← hr.out]; exact areaF_no hz.symm)
    clear hs hz
    go_enter Try.func46, Try.ntmps46
    go_wp2_with (go_at_call 89; (with_reducible refine HV.out.mono ?_); rintro e w1 ⟨rfl, hb1⟩)
    go_ret
    exact ⟨by rw [HF.out]; rfl, hb1⟩
  | true =>
    by_cases h3 : n < 3
    · have i1 : (n : Int) < 3 := by omega
      have HF : Hid (r = 0) := Lib.hid (by rw [← hr.out]; exact areaF_few h3)
      clear hs hz
      go_enter Try.func46, Try.ntmps46
      go_wp2_with (go_at_call 89; (with_reducible refine HV.out.mono ?_); rintro e w1 ⟨rfl, hb1⟩)
      go_ret
      exact ⟨by rw [HF.out]; rfl, hb1⟩
    · have i1 : ¬ (n : Int) < 3 := by omega
      obtain ⟨b, off, rfl, hp⟩ := HS.out (by omega)
      have HC : Hid (corF n X Y = true) := Lib.hid hz.symm
      have hn := (corF_at hz.symm).1
      have HF : Hid (r = arS X Y n n) := Lib.hid (by rw [← hr.out]; exact areaF_yes hz.symm (by omega))
      have HP := Lib.hid hp
      have hb := hp.lt (by omega)
      clear hp hz hs HS
      go_enter Try.func46, Try.ntmps46
      go_wp2_with (go_at_call 89; (with_reducible refine HV.out.mono ?_); rintro e w1 ⟨rfl, hb1⟩; have HB1 := Lib.hid hb1; clear hb1)
      go_loopw [3, 4] (fun t i wr => ∃ (k : Nat) (T : Int), k ≤ n ∧ i = .int .i64 k ∧ t = .int .i64 T ∧ Hid (arS X Y n k = T) ∧ Hid (Below w.heap.size w wr)) (fun _ i _ => n - (intOf i).toNat)
      case atStart => exact ⟨0, 0, Nat.zero_le _, rfl, rfl, Lib.hid rfl, HB1⟩
      case round =>
        clear HB1 HV
        obtain ⟨k, T, hk, rfl, rfl, HT, HB⟩ := hrel
        have i2 : (0 : Int) ≤ (k : Int) := Int.natCast_nonneg _
        by_cases hlt : k < n
        · have i3 : (k : Int) < (n : Int) := by omega
          have hp := HP.out.below HB.out hb
          obtain ⟨hx, hy⟩ := hp k hlt
          obtain ⟨hx1', hy1'⟩ := hp _ (nx_lt hlt)
          have l1 : b < wr.heap.size := Nat.lt_of_lt_of_le hb HB.out.size
          clear hp
          obtain ⟨o1, o2⟩ := (corF_at HC.out).2 k hlt
          obtain ⟨o3, o4⟩ := (corF_at HC.out).2 _ (nx_lt hlt)
          have t1 := arS_bd HC.out k hk
          have HT2 : Hid (arS X Y n (k + 1) = T + (X k * Y (nx n k) - Y k * X (nx n k))) := Lib.hid (by show arS X Y n k + crK X Y n k = _; rw [HT.out]; rfl)
          rw [HT.out] at t1
          have hr2 := nx_tmod n k
          have hJ := nx_lt hlt
          obtain ⟨x0, hx0⟩ : ∃ x, x = X k := ⟨_, rfl⟩
          obtain ⟨y0, hy0⟩ : ∃ x, x = Y k := ⟨_, rfl⟩
          obtain ⟨x1, hx1⟩ : ∃ x, x = X (nx n k) := ⟨_, rfl⟩
          obtain ⟨y1, hy1⟩ : ∃ x, x = Y (nx n k) := ⟨_, rfl⟩
          rw [← hx0, ← hy0, ← hx1, ← hy1] at HT2
          rw [← hx0] at hx o1
          rw [← hy0] at hy o2
          rw [← hx1] at hx1' o3
          rw [← hy1] at hy1' o4
          obtain ⟨J, hJe⟩ : ∃ J, J = nx n k := ⟨_, rfl⟩
          rw [← hJe] at hr2 hJ hx1' hy1'
          have m1 := okd_mul (okc_d o1) (okc_d o4)
          have m2 := okd_mul (okc_d o2) (okc_d o3)
          have tl : -9000000000000000000 ≤ T ∧ T ≤ 9000000000000000000 := by omega
          have HX := Lib.hid (fun W => rcross_n x0 y0 x1 y1 (x0 * y1 - y0 * x1) W (okc_d o1) (okc_d o2) (okc_d o3) (okc_d o4) rfl)
          obtain ⟨c, hc⟩ : ∃ c, c = x0 * y1 - y0 * x1 := ⟨_, rfl⟩
          rw [← hc] at HX HT2
          have u3 : -9223372036854775808 ≤ T + c ∧ T + c < 9223372036854775808 := by omega
          obtain ⟨u3, u4⟩ := u3
          have j0 : (0 : Int) ≤ (J : Int) := Int.natCast_nonneg _
          have j1 : (J : Int) < (n : Int) := by omega
          have n0 : ((n : Int) == 0) = false := by simp; omega
          have n1 : (n : Int) ≠ 0 := by omega
          have wk : IntKind.i64.wrap ((k : Int) + 1) = (k : Int) + 1 := IntWalk.i64_in _ (by omega)
          have wj2 : IntKind.i64.wrap (J : Int) = (J : Int) := IntWalk.i64_in _ (by omega)
          have wj : IntKind.i64.wrap (((k : Int) + 1).tmod (n : Int)) = (J : Int) := by rw [hr2]; exact wj2
          have HSix : Hid (∀ W, Below wr.heap.size wr W → W.cell? ⟨b, off + k * 2, none⟩ = some (.int .i64 x0) ∧ W.cell? ⟨b, off + k * 2 + 1, none⟩ = some (.int .i64 y0) ∧ W.cell? ⟨b, off + J * 2, none⟩ = some (.int .i64 x1) ∧ W.cell? ⟨b, off + J * 2 + 1, none⟩ = some (.int .i64 y1)) :=
            Lib.hid (fun W h => ⟨(h.cell (p := ⟨b, off + k * 2, none⟩) l1).trans hx, (h.cell (p := ⟨b, off + k * 2 + 1, none⟩) l1).trans hy, (h.cell (p := ⟨b, off + J * 2, none⟩) l1).trans hx1', (h.cell (p := ⟨b, off + J * 2 + 1, none⟩) l1).trans hy1'⟩)
          have HM : Hid (T + c = T + c) := Lib.hid rfl
          have Hr2 := Lib.hid hr2
          have Hwj := Lib.hid wj
          have Hwj2 := Lib.hid wj2
          have Hwk := Lib.hid wk
          clear HC HT hx0 hy0 hx1 hy1 o1 o2 o3 o4 t1 hJe hc m1 m2 tl HP HF hr2 wj wj2 wk n0 n1
          go_upto_block 1 with fail
          go_cut [3] from 13 to 33 (fun v w' => v = .int .i64 (T + c) ∧ Below wr.heap.size wr w')
          case first =>
            go_wp2_with fail
            have hr2 := Hr2.out
            have wk := Hwk.out
            have wj2 := Hwj2.out
            have wj := Hwj.out
            have hp0 := HSix.out wr (Below.refl _ _)
            obtain ⟨g0, g1, g2, g3⟩ := hp0
            have n0 : ((n : Int) == 0) = false := by simp; omega
            have n1 : ¬ (n : Int) = 0 := by omega
            have f0 : ∀ n os, (grd wr n os).cell? ⟨b, off + k * 2, none⟩ = some (.int .i64 x0) := cell_grd g0
            have f1 : ∀ n os, (grd wr n os).cell? ⟨b, off + k * 2 + 1, none⟩ = some (.int .i64 y0) := cell_grd g1
            have f2 : ∀ n os, (grd wr n os).cell? ⟨b, off + J * 2, none⟩ = some (.int .i64 x1) := cell_grd g2
            have f3 : ∀ n os, (grd wr n os).cell? ⟨b, off + J * 2 + 1, none⟩ = some (.int .i64 y1) := cell_grd g3
            refine wp_region_quiet_grd (by kernel_rfl) (by kernel_rfl) ?_
            repeat (go_big_quiet_step (first
              | (go_at_call 90; with_reducible exact Calls.grd_of (HX.out _))))
            refine wpQuiet_nil ?_
            intro _ hw'
            obtain ⟨⟨nq, osq⟩, rfl⟩ := hw'
            have hq := below_grd wr nq osq
            generalize grd wr nq osq = wq at *
            go_wp2
            go_meet
            exact ⟨by first | rfl | rw [IntWalk.i64_in _ (by omega)], hq⟩
          case rest =>
            obtain ⟨wz, rfl⟩ : ∃ x : World, x = wc := ⟨_, rfl⟩
            obtain ⟨rfl, hbz⟩ := hcut
            go_wp2
            go_roundw
            case rel => exact ⟨k + 1, _, by omega, by go_num, rfl, HT2, Lib.hid (below_step HB.out hbz)⟩
            case measure => simp [intOf]; omega
        · obtain rfl : k = n := by omega
          have i3 : ¬ (k : Int) < (k : Int) := by omega
          have HE : Hid (r = T) := Lib.hid (by rw [HF.out, HT.out])
          go_wp2
          go_ret
          exact ⟨by rw [HE.out]; rfl, HB.out⟩
end Go.Proofs.Ytaehfildhmljeaa

namespace Go.Proofs.Ytaehfildhmljeaa
open Go.RowKit Go.Shelf

def sdB (X Y : Nat → Int) (n : Nat) (px py : Int) (i : Nat) : Bool := decide (0 ≤ sideF (X i, Y i) (X (nx n i), Y (nx n i)) (px, py))
def insF (n : Nat) (X Y : Nat → Int) (px py : Int) : Bool :=
  if n = 0 ∨ corF n X Y = false ∨ vp (px, py) = false then false
  else if n ≤ 2 then blkF (X 0, Y 0) (X (nx n 0), Y (nx n 0)) (px, py) (px, py)
  else allB (sdB X Y n px py) n
theorem insF_no {n : Nat} {X Y : Nat → Int} {px py : Int} (h : n = 0 ∨ corF n X Y = false ∨ vp (px, py) = false) : insF n X Y px py = false := by
  unfold insF; rw [if_pos h]
theorem insF_two {n : Nat} {X Y : Nat → Int} {px py : Int} (h0 : 0 < n) (h1 : corF n X Y = true) (h2 : vp (px, py) = true) (h3 : n ≤ 2) : insF n X Y px py = blkF (X 0, Y 0) (X (nx n 0), Y (nx n 0)) (px, py) (px, py) := by
  unfold insF; rw [if_neg (by simp [h1, h2]; omega), if_pos h3]
theorem insF_many {n : Nat} {X Y : Nat → Int} {px py : Int} (h1 : corF n X Y = true) (h2 : vp (px, py) = true) (h3 : ¬ n ≤ 2) : insF n X Y px py = allB (sdB X Y n px py) n := by
  unfold insF; rw [if_neg (by simp [h1, h2]; omega), if_neg h3]
theorem corF_le {n : Nat} {X Y : Nat → Int} (h : corF n X Y = true) : n ≤ 1000 := by
  unfold corF at h
  rw [Bool.and_eq_true, decide_eq_true_eq] at h
  exact h.1
theorem blocks_raw (a1 a2 b1 b2 c1 c2 d1 d2 : Int) (r : Bool) (w : World) (hr : Hid (blkF (a1, a2) (b1, b2) (c1, c2) (d1, d2) = r)) :
    Calls Try.prog 91 #[sp a1 a2, sp b1 b2, sp c1 c2, sp d1 d2] w fun e w' => e = .returned (.bool r) ∧ Below w.heap.size w w' := blocks_any (a1, a2) (b1, b2) (c1, c2) (d1, d2) r w hr

set_option maxRecDepth 100000 in
set_option maxHeartbeats 8000000 in
theorem inside_any (A : Option Addr) (n cap : Nat) (X Y : Nat → Int) (px py : Int) (r : Bool) (w : World) (hs : Spots w A n X Y) (hN : n ≤ 1000000) (hr : Hid (insF n X Y px py = r)) :
    Calls Try.prog 47 #[.slice A n cap, sp px py] w fun e w' => e = .returned (.bool r) ∧ Below w.heap.size w w' := by
  have B0 := BoxAt.new w 24 #[.int .i64 px, .int .i64 py]
  have hB0 : Below w.heap.size w (w.alloc (.cells #[.int .i64 px, .int .i64 py] 24)) := (Below.refl _ w).alloc (Nat.le_refl _) _
  by_cases h0 : n = 0
  · have HF : Hid (r = false) := Lib.hid (by rw [← hr.out]; exact insF_no (.inl h0))
    clear hs
    subst h0
    go_enter Try.func47, Try.ntmps47
    go_wp2
    go_ret
    exact ⟨by rw [HF.out]; rfl, hB0⟩
  have i0 : ¬ (n : Int) = 0 := by omega
  have i00 : ((n : Int) == 0) = false := by simp; omega
  have hn0 : 0 < n := by omega
  obtain ⟨b, off, rfl, hp⟩ := hs hn0
  have hb := hp.lt hn0
  have HV0 := Lib.hid (fun (z : Bool) (hz : z = corF n X Y) => vcor_any b off n cap X Y z _ (hp.below hB0 hb) hn0 hN (Lib.hid hz.symm))
  obtain ⟨z, hz⟩ : ∃ z, z = corF n X Y := ⟨_, rfl⟩
  have HV := Lib.hid (HV0.out z hz)
  clear HV0
  cases z with
  | false =>
    have HF : Hid (r = false) := Lib.hid (by rw [← hr.out]; exact insF_no (.inr (.inl hz.symm)))
    clear hp hz hs
    go_enter Try.func47, Try.ntmps47
    go_wp2_with (go_at_call 87; (with_reducible refine HV.out.mono ?_); rintro e w1 ⟨rfl, hb1⟩)
    go_ret
    exact ⟨by rw [HF.out]; rfl, below_step hB0 hb1⟩
  | true =>
    have hn : n ≤ 1000 := corF_le hz.symm
    have HC : Hid (corF n X Y = true) := Lib.hid hz.symm
    obtain ⟨v, hv⟩ : ∃ v, v = vp (px, py) := ⟨_, rfl⟩
    have HW : Hid (vldB px py = v) := Lib.hid hv.symm
    have HP := Lib.hid hp
    cases v with
    | false =>
      have HF : Hid (r = false) := Lib.hid (by rw [← hr.out]; exact insF_no (.inr (.inr hv.symm)))
      clear hp hz hs hv
      go_enter Try.func47, Try.ntmps47
      go_wp2_with (first
        | (go_at_call 87; (with_reducible refine HV.out.mono ?_); rintro e w1 ⟨rfl, hb1⟩; obtain ⟨q1, k0, k1, k2, k3⟩ := box2 B0 hb1; have HB1 := Lib.hid (below_step hB0 hb1); clear hb1)
        | (go_at_call 60; (refine (one_vspot _ _ px py false _ (BoxAt.new _ 24 #[.int .i64 px, .int .i64 py]) HW).mono ?_); rintro e w2 ⟨rfl, hb2⟩; have HB2 := Lib.hid (below_step2 HB1.out hb2); clear hb2))
      go_ret
      exact ⟨by rw [HF.out]; rfl, HB2.out⟩
    | true =>
      have HVp : Hid (vp (px, py) = true) := Lib.hid hv.symm
      by_cases h2 : n ≤ 2
      · have i2 : (n : Int) ≤ 2 := by omega
        have HF : Hid (blkF (X 0, Y 0) (X (nx n 0), Y (nx n 0)) (px, py) (px, py) = r) := Lib.hid (by rw [← hr.out]; exact (insF_two hn0 hz.symm hv.symm h2).symm)
        clear hp hz hs hv
        go_enter Try.func47, Try.ntmps47
        go_wp2_with (first
          | (go_at_call 87; (with_reducible refine HV.out.mono ?_); rintro e w1 ⟨rfl, hb1⟩; obtain ⟨q1, k0, k1, k2, k3⟩ := box2 B0 hb1; have HB1 := Lib.hid (below_step hB0 hb1); clear hb1)
          | (go_at_call 60; (refine (one_vspot _ _ px py true _ (BoxAt.new _ 24 #[.int .i64 px, .int .i64 py]) HW).mono ?_); rintro e w2 ⟨rfl, hb2⟩; have HB2 := Lib.hid (below_step2 HB1.out hb2); have HQ2 := Lib.hid (q1.out.below ((Below.refl _ _).alloc (Nat.le_refl _) _) q1.out.lt |>.below hb2 (by simp; exact Nat.lt_succ_of_lt q1.out.lt)); clear hb2))
        have hb2w : b < w2.heap.size := Nat.lt_of_lt_of_le hb HB2.out.size
        obtain ⟨hx, hy⟩ := (HP.out.below HB2.out hb) 0 hn0
        rw [Nat.zero_mul, Nat.add_zero] at hx hy
        have hq0 := HQ2.out.cell 0
        have hq1 := HQ2.out.cell 1
        have hl2 := HQ2.out.lt
        have i3 : (0 : Int) < (n : Int) := by omega
        have HN := Lib.hid (fun W (h : Below w2.heap.size w2 W) => (show Calls Try.prog 88 #[.slice (some ⟨b, off, none⟩) n cap, .int .i64 0] W fun e w' => e = .returned (sp (X (nx n 0)) (Y (nx n 0))) ∧ Below W.heap.size W w' from next_any b off n cap 0 X Y hn0 hn W ((HP.out.below HB2.out hb).below h hb2w)))
        obtain ⟨x0, hx0⟩ : ∃ x, x = X 0 := ⟨_, rfl⟩
        obtain ⟨y0, hy0⟩ : ∃ x, x = Y 0 := ⟨_, rfl⟩
        obtain ⟨x1, hx1⟩ : ∃ x, x = X (nx n 0) := ⟨_, rfl⟩
        obtain ⟨y1, hy1⟩ : ∃ x, x = Y (nx n 0) := ⟨_, rfl⟩
        rw [← hx0] at hx
        rw [← hy0] at hy
        rw [← hx0, ← hy0, ← hx1, ← hy1] at HF
        rw [← hx1, ← hy1] at HN
        have HBl := Lib.hid (fun W => blocks_raw x0 y0 x1 y1 px py px py r W HF)
        have HSix : Hid (∀ W, Below w2.heap.size w2 W → W.cell? ⟨b, off, none⟩ = some (.int .i64 x0) ∧ W.cell? ⟨b, off + 1, none⟩ = some (.int .i64 y0) ∧ W.cell? ⟨w.heap.size, 0, none⟩ = some (.int .i64 px) ∧ W.cell? ⟨w.heap.size, 1, none⟩ = some (.int .i64 py)) :=
          Lib.hid (fun W h => ⟨(h.cell (p := ⟨b, off, none⟩) hb2w).trans hx, (h.cell (p := ⟨b, off + 1, none⟩) hb2w).trans hy, (h.cell (p := ⟨w.heap.size, 0, none⟩) hl2).trans hq0, (h.cell (p := ⟨w.heap.size, 1, none⟩) hl2).trans hq1⟩)
        clear hx0 hy0 hx1 hy1 HP HC HF HW HVp HV hr B0 q1 k0 k1 k2 k3 HB1 HQ2
        go_region_held3 (fun W => W.cell? ⟨b, off, none⟩ = some (.int .i64 x0) ∧ W.cell? ⟨b, off + 1, none⟩ = some (.int .i64 y0) ∧ W.cell? ⟨w.heap.size, 0, none⟩ = some (.int .i64 px) ∧ W.cell? ⟨w.heap.size, 1, none⟩ = some (.int .i64 py))
          (first | exact HSix.out _ hB4 | exact HSix.out _ hB3 | go_keep)
          (first
            | (go_at_call 88; (with_reducible refine (HN.out _ ((Below.refl _ w2).drew)).mono ?_); rintro e w3 ⟨rfl, hb3⟩; have hB3 : Below w2.heap.size w2 w3 := below_step ((Below.refl _ w2).drew) hb3)
            | (go_at_call 91; (with_reducible refine (HBl.out _).mono ?_); rintro e w4 ⟨rfl, hb4⟩; have hB4 : Below w2.heap.size w2 w4 := below_step hB3 hb4))
        all_goals go_wp2
        all_goals go_ret
        all_goals exact ⟨rfl, below_step HB2.out hB4⟩
      · have i2 : ¬ (n : Int) ≤ 2 := by omega
        have HF : Hid (allB (sdB X Y n px py) n = r) := Lib.hid (by rw [← hr.out]; exact (insF_many hz.symm hv.symm h2).symm)
        clear hp hz hs hv
        go_enter Try.func47, Try.ntmps47
        go_wp2_with (first
          | (go_at_call 87; (with_reducible refine HV.out.mono ?_); rintro e w1 ⟨rfl, hb1⟩; obtain ⟨q1, k0, k1, k2, k3⟩ := box2 B0 hb1; have HB1 := Lib.hid (below_step hB0 hb1); clear hb1)
          | (go_at_call 60; (refine (one_vspot _ _ px py true _ (BoxAt.new _ 24 #[.int .i64 px, .int .i64 py]) HW).mono ?_); rintro e w2 ⟨rfl, hb2⟩; have HB2 := Lib.hid (below_step2 HB1.out hb2); have HQ2 := Lib.hid (q1.out.below ((Below.refl _ _).alloc (Nat.le_refl _) _) q1.out.lt |>.below hb2 (by simp; exact Nat.lt_succ_of_lt q1.out.lt)); clear hb2))
        go_loopw [34] (fun i wr => ∃ k : Nat, k ≤ n ∧ i = .int .i64 k ∧ Hid (allB (sdB X Y n px py) k = true) ∧ Hid (Below w.heap.size w wr) ∧ Hid (BoxAt wr w.heap.size 24 #[.int .i64 px, .int .i64 py])) (fun i _ => n - (intOf i).toNat)
        case atStart => exact ⟨0, Nat.zero_le _, rfl, Lib.hid rfl, HB2, HQ2⟩
        case round =>
          clear HB2 HQ2 HV HB1 q1 k0 k1 k2 k3
          obtain ⟨k, hk, rfl, HT, HB, HQ⟩ := hrel
          have i3 : (0 : Int) ≤ (k : Int) := Int.natCast_nonneg _
          by_cases hlt : k < n
          · have i4 : (k : Int) < (n : Int) := by omega
            have HPr := Lib.hid (HP.out.below HB.out hb)
            obtain ⟨hx, hy⟩ := HPr.out k hlt
            have lr : b < wr.heap.size := Nat.lt_of_lt_of_le hb HB.out.size
            have ql := HQ.out.lt
            obtain ⟨x0, hx0⟩ : ∃ x, x = X k := ⟨_, rfl⟩
            obtain ⟨y0, hy0⟩ : ∃ x, x = Y k := ⟨_, rfl⟩
            obtain ⟨x1, hx1⟩ : ∃ x, x = X (nx n k) := ⟨_, rfl⟩
            obtain ⟨y1, hy1⟩ : ∃ x, x = Y (nx n k) := ⟨_, rfl⟩
            obtain ⟨s, hs⟩ : ∃ s, s = sideF (x0, y0) (x1, y1) (px, py) := ⟨_, rfl⟩
            have HS1 := Lib.hid (fun W => side_raw x0 y0 x1 y1 px py s W (Lib.hid hs.symm))
            have HSd : Hid (sdB X Y n px py k = decide (0 ≤ s)) := Lib.hid (by unfold sdB; rw [hs, hx0, hy0, hx1, hy1])
            rw [← hx0] at hx
            rw [← hy0] at hy
            obtain ⟨bb, hbb⟩ : ∃ bb, bb = decide (s < 0) := ⟨_, rfl⟩
            have HBB := Lib.hid hbb
            have hdec := hbb.symm
            obtain ⟨WA, hWA⟩ : ∃ x : World, x = wr.alloc (.cells #[.int .i64 x0, .int .i64 y0] 24) := ⟨_, rfl⟩
            have hBA : Below wr.heap.size wr WA := by rw [hWA]; exact (Below.refl _ wr).alloc (Nat.le_refl _) _
            have lA : b < WA.heap.size := Nat.lt_of_lt_of_le lr hBA.size
            have HN := Lib.hid (fun W (h : Below WA.heap.size WA W) => next_any b off n cap k X Y hlt hn W ((HPr.out.below hBA lr).below h lA))
            rw [← hx1, ← hy1] at HN
            have B6 : BoxAt WA wr.heap.size 24 #[.int .i64 x0, .int .i64 y0] := by rw [hWA]; exact BoxAt.new wr 24 _
            have QA : BoxAt WA w.heap.size 24 #[.int .i64 px, .int .i64 py] := HQ.out.below hBA ql
            have HSix : Hid (∀ W, Below WA.heap.size WA W → W.cell? ⟨wr.heap.size, 0, none⟩ = some (.int .i64 x0) ∧ W.cell? ⟨wr.heap.size, 1, none⟩ = some (.int .i64 y0) ∧ W.cell? ⟨w.heap.size, 0, none⟩ = some (.int .i64 px) ∧ W.cell? ⟨w.heap.size, 1, none⟩ = some (.int .i64 py)) :=
              Lib.hid (fun W h => ⟨(h.cell (p := ⟨wr.heap.size, 0, none⟩) B6.lt).trans (B6.cell 0), (h.cell (p := ⟨wr.heap.size, 1, none⟩) B6.lt).trans (B6.cell 1), (h.cell (p := ⟨w.heap.size, 0, none⟩) QA.lt).trans (QA.cell 0), (h.cell (p := ⟨w.heap.size, 1, none⟩) QA.lt).trans (QA.cell 1)⟩)
            obtain ⟨d0, d1, d2, d3⟩ := HSix.out WA (Below.refl _ _)
            have HBA := Lib.hid (below_step HB.out hBA)
            have HQA := Lib.hid QA
            have lw := QA.lt
            have l6 := B6.lt
            clear hx0 hy0 hx1 hy1 HP HC HW HVp hr B0 hs hBA B6 QA hbb lA
            go_upto_region 8 with fail
            rw [← hWA]
            clear hWA
            go_cut [45] from 39 to 46 (fun v w' => v = .bool bb ∧ Below WA.heap.size WA w')
            case first =>
              go_region_held3 (fun W => W.cell? ⟨wr.heap.size, 0, none⟩ = some (.int .i64 x0) ∧ W.cell? ⟨wr.heap.size, 1, none⟩ = some (.int .i64 y0) ∧ W.cell? ⟨w.heap.size, 0, none⟩ = some (.int .i64 px) ∧ W.cell? ⟨w.heap.size, 1, none⟩ = some (.int .i64 py))
                (first | exact HSix.out _ hB4 | exact HSix.out _ hB3 | go_keep)
                (first
                  | (go_at_call 88; (with_reducible refine (HN.out _ ((Below.refl _ WA).drew)).mono ?_); rintro e w3 ⟨rfl, hb3⟩; have hB3 : Below WA.heap.size WA w3 := below_step ((Below.refl _ WA).drew) hb3)
                  | (go_at_call 92; (with_reducible refine (HS1.out _).mono ?_); rintro e w4 ⟨rfl, hb4⟩; have hB4 : Below WA.heap.size WA w4 := below_step hB3 hb4))
              all_goals go_wp2
              all_goals go_meet
              all_goals exact ⟨by first | rfl | rw [hdec], hB4⟩
            case rest =>
              obtain ⟨wz, rfl⟩ : ∃ x : World, x = wc := ⟨_, rfl⟩
              obtain ⟨rfl, hbz⟩ := hcut
              have HBz := Lib.hid (below_step HBA.out hbz)
              have HQz := Lib.hid (HQA.out.below hbz lw)
              clear hbz HSix d0 d1 d2 d3 hdec
              cases bb with
              | false =>
                have HT2 : Hid (allB (sdB X Y n px py) (k + 1) = true) := Lib.hid (by
                  have h := HBB.out.symm
                  rw [decide_eq_false_iff_not] at h
                  unfold allB
                  rw [HT.out, HSd.out, decide_eq_true (by omega)]
                  rfl)
                go_wp2
                go_roundw
                case rel => exact ⟨k + 1, by omega, by go_num, HT2, HBz, HQz⟩
                case measure => simp [intOf]; omega
              | true =>
                have HR : Hid (r = false) := Lib.hid (by
                  have h := HBB.out.symm
                  rw [decide_eq_true_eq] at h
                  rw [← HF.out]
                  exact allB_false hlt (by rw [HSd.out, decide_eq_false (by omega)]))
                go_wp2
                go_ret
                exact ⟨by rw [HR.out]; rfl, HBz.out⟩
          · obtain rfl : k = n := by omega
            have i4 : ¬ (k : Int) < (k : Int) := by omega
            have HR : Hid (r = true) := Lib.hid (HF.out.symm.trans HT.out)
            go_wp2
            go_ret
            exact ⟨by rw [HR.out]; rfl, HB.out⟩
end Go.Proofs.Ytaehfildhmljeaa

namespace Go.Proofs.Ytaehfildhmljeaa
open Go.RowKit Go.Shelf

set_option maxRecDepth 100000 in
set_option maxHeartbeats 8000000 in
theorem rinside_any (A : Option Addr) (n cap : Nat) (X Y : Nat → Int) (px py : Int) (r : Bool) (w : World) (hs : Spots w A n X Y) (hN : n ≤ 1000000) (hr : Hid (insF n X Y px py = r)) :
    Calls Try.prog 48 #[.slice A n cap, sp px py] w fun e w' => e = .returned (.bool r) ∧ Below w.heap.size w w' := by
  have B0 := BoxAt.new w 24 #[.int .i64 px, .int .i64 py]
  have hB0 : Below w.heap.size w (w.alloc (.cells #[.int .i64 px, .int .i64 py] 24)) := (Below.refl _ w).alloc (Nat.le_refl _) _
  obtain ⟨z, hz⟩ : ∃ z, z = corF n X Y := ⟨_, rfl⟩
  have HV := Lib.hid (rcor_any A n cap X Y z _ (hs.below hB0) hN (Lib.hid hz.symm))
  cases z with
  | false =>
    have HF : Hid (r = false) := Lib.hid (by rw [← hr.out]; exact insF_no (.inr (.inl hz.symm)))
    clear hz hs
    go_enter Try.func48, Try.ntmps48
    go_wp2_with (go_at_call 89; (with_reducible refine HV.out.mono ?_); rintro e w1 ⟨rfl, hb1⟩)
    go_ret
    exact ⟨by rw [HF.out]; rfl, below_step hB0 hb1⟩
  | true =>
    have hn : n ≤ 1000 := corF_le hz.symm
    have HC : Hid (corF n X Y = true) := Lib.hid hz.symm
    obtain ⟨v, hv⟩ : ∃ v, v = vp (px, py) := ⟨_, rfl⟩
    have HW : Hid (vp (px, py) = v) := Lib.hid hv.symm
    cases v with
    | false =>
      have HF : Hid (r = false) := Lib.hid (by rw [← hr.out]; exact insF_no (.inr (.inr hv.symm)))
      clear hz hs hv
      go_enter Try.func48, Try.ntmps48
      go_wp2_with (first
        | (go_at_call 89; (with_reducible refine HV.out.mono ?_); rintro e w1 ⟨rfl, hb1⟩; obtain ⟨q1, k0, k1, k2, k3⟩ := box2 B0 hb1; have HB1 := Lib.hid (below_step hB0 hb1); clear hb1)
        | (go_at_call 62; (with_reducible refine (rvalid_any px py false _ HW).mono ?_); rintro e w2 ⟨rfl, hb2⟩; have HB2 := Lib.hid (below_step HB1.out hb2); clear hb2))
      go_ret
      exact ⟨by rw [HF.out]; rfl, HB2.out⟩
    | true =>
      by_cases h0 : n = 0
      · have HF : Hid (r = false) := Lib.hid (by rw [← hr.out]; exact insF_no (.inl h0))
        clear hz hs hv
        subst h0
        go_enter Try.func48, Try.ntmps48
        go_wp2_with (first
          | (go_at_call 89; (with_reducible refine HV.out.mono ?_); rintro e w1 ⟨rfl, hb1⟩; obtain ⟨q1, k0, k1, k2, k3⟩ := box2 B0 hb1; have HB1 := Lib.hid (below_step hB0 hb1); clear hb1)
          | (go_at_call 62; (with_reducible refine (rvalid_any px py true _ HW).mono ?_); rintro e w2 ⟨rfl, hb2⟩; have HB2 := Lib.hid (below_step HB1.out hb2); clear hb2))
        go_ret
        exact ⟨by rw [HF.out]; rfl, HB2.out⟩
      have i0 : ¬ (n : Int) = 0 := by omega
      have i00 : ((n : Int) == 0) = false := by simp; omega
      have hn0 : 0 < n := by omega
      obtain ⟨b, off, rfl, hp⟩ := hs hn0
      have hb := hp.lt hn0
      have HP := Lib.hid hp
      by_cases h2 : n ≤ 2
      · have i2 : (n : Int) ≤ 2 := by omega
        have HF : Hid (blkF (X 0, Y 0) (X (nx n 0), Y (nx n 0)) (px, py) (px, py) = r) := Lib.hid (by rw [← hr.out]; exact (insF_two hn0 hz.symm hv.symm h2).symm)
        clear hp hz hs hv
        go_enter Try.func48, Try.ntmps48
        go_wp2_with (first
          | (go_at_call 89; (with_reducible refine HV.out.mono ?_); rintro e w1 ⟨rfl, hb1⟩; obtain ⟨q1, k0, k1, k2, k3⟩ := box2 B0 hb1; have HB1 := Lib.hid (below_step hB0 hb1); clear hb1)
          | (go_at_call 62; (with_reducible refine (rvalid_any px py true _ HW).mono ?_); rintro e w2 ⟨rfl, hb2⟩; have HB2 := Lib.hid (below_step HB1.out hb2); have HQ2 := Lib.hid (q1.out.below hb2 q1.out.lt); clear hb2))
        have hb2w : b < w2.heap.size := Nat.lt_of_lt_of_le hb HB2.out.size
        obtain ⟨hx, hy⟩ := (HP.out.below HB2.out hb) 0 hn0
        rw [Nat.zero_mul, Nat.add_zero] at hx hy
        obtain ⟨hx', hy'⟩ := (HP.out.below HB2.out hb) _ (nx_lt hn0)
        have hq0 := HQ2.out.cell 0
        have hq1 := HQ2.out.cell 1
        have hl2 := HQ2.out.lt
        have i3 : (0 : Int) < (n : Int) := by omega
        have hJe : nx n 0 = n - 1 := by
          have : n = 1 ∨ n = 2 := by omega
          rcases this with rfl | rfl <;> rfl
        obtain ⟨J, hJ⟩ : ∃ J, J = nx n 0 := ⟨_, rfl⟩
        obtain ⟨x0, hx0⟩ : ∃ x, x = X 0 := ⟨_, rfl⟩
        obtain ⟨y0, hy0⟩ : ∃ x, x = Y 0 := ⟨_, rfl⟩
        obtain ⟨x1, hx1⟩ : ∃ x, x = X (nx n 0) := ⟨_, rfl⟩
        obtain ⟨y1, hy1⟩ : ∃ x, x = Y (nx n 0) := ⟨_, rfl⟩
        rw [← hx0] at hx
        rw [← hy0] at hy
        rw [← hx1] at hx'
        rw [← hy1] at hy'
        rw [← hJ] at hx' hy' hJe
        rw [← hx0, ← hy0, ← hx1, ← hy1] at HF
        have j0 : (0 : Int) ≤ (J : Int) := Int.natCast_nonneg _
        have j1 : (J : Int) < (n : Int) := by omega
        have wj : IntKind.i64.wrap ((n : Int) - 1) = (J : Int) := by rw [IntWalk.i64_in _ (by omega)]; omega
        have wj2 : IntKind.i64.wrap (J : Int) = (J : Int) := IntWalk.i64_in _ (by omega)
        have HBl := Lib.hid (fun W => rblocks_any x0 y0 x1 y1 px py px py r W HF)
        have HSix : Hid (∀ W, Below w2.heap.size w2 W → W.cell? ⟨b, off, none⟩ = some (.int .i64 x0) ∧ W.cell? ⟨b, off + 1, none⟩ = some (.int .i64 y0) ∧ W.cell? ⟨b, off + J * 2, none⟩ = some (.int .i64 x1) ∧ W.cell? ⟨b, off + J * 2 + 1, none⟩ = some (.int .i64 y1) ∧ W.cell? ⟨w.heap.size, 0, none⟩ = some (.int .i64 px) ∧ W.cell? ⟨w.heap.size, 1, none⟩ = some (.int .i64 py)) :=
          Lib.hid (fun W h => ⟨(h.cell (p := ⟨b, off, none⟩) hb2w).trans hx, (h.cell (p := ⟨b, off + 1, none⟩) hb2w).trans hy, (h.cell (p := ⟨b, off + J * 2, none⟩) hb2w).trans hx', (h.cell (p := ⟨b, off + J * 2 + 1, none⟩) hb2w).trans hy', (h.cell (p := ⟨w.heap.size, 0, none⟩) hl2).trans hq0, (h.cell (p := ⟨w.heap.size, 1, none⟩) hl2).trans hq1⟩)
        clear hx0 hy0 hx1 hy1 HP HC HF HW HV hr B0 q1 k0 k1 k2 k3 HB1 HQ2 hJ hJe
        go_region_held3 (fun W => W.cell? ⟨b, off, none⟩ = some (.int .i64 x0) ∧ W.cell? ⟨b, off + 1, none⟩ = some (.int .i64 y0) ∧ W.cell? ⟨b, off + J * 2, none⟩ = some (.int .i64 x1) ∧ W.cell? ⟨b, off + J * 2 + 1, none⟩ = some (.int .i64 y1) ∧ W.cell? ⟨w.heap.size, 0, none⟩ = some (.int .i64 px) ∧ W.cell? ⟨w.heap.size, 1, none⟩ = some (.int .i64 py))
          (first | exact HSix.out _ hB4 | go_keep)
          (first
            | (go_at_call 93; (with_reducible refine (HBl.out _).mono ?_); rintro e w4 ⟨rfl, hb4⟩; have hB4 : Below w2.heap.size w2 w4 := below_step ((Below.refl _ w2).drew) hb4))
        all_goals go_wp2
        all_goals go_ret
        all_goals exact ⟨rfl, below_step HB2.out hB4⟩
      · have i2 : ¬ (n : Int) ≤ 2 := by omega
        have HF : Hid (allB (sdB X Y n px py) n = r) := Lib.hid (by rw [← hr.out]; exact (insF_many hz.symm hv.symm h2).symm)
        clear hp hz hs hv
        go_enter Try.func48, Try.ntmps48
        go_wp2_with (first
          | (go_at_call 89; (with_reducible refine HV.out.mono ?_); rintro e w1 ⟨rfl, hb1⟩; obtain ⟨q1, k0, k1, k2, k3⟩ := box2 B0 hb1; have HB1 := Lib.hid (below_step hB0 hb1); clear hb1)
          | (go_at_call 62; (with_reducible refine (rvalid_any px py true _ HW).mono ?_); rintro e w2 ⟨rfl, hb2⟩; have HB2 := Lib.hid (below_step HB1.out hb2); have HQ2 := Lib.hid (q1.out.below hb2 q1.out.lt); clear hb2))
        go_loopw [5] (fun i wr => ∃ k : Nat, k ≤ n ∧ i = .int .i64 k ∧ Hid (allB (sdB X Y n px py) k = true) ∧ Hid (Below w.heap.size w wr) ∧ Hid (BoxAt wr w.heap.size 24 #[.int .i64 px, .int .i64 py])) (fun i _ => n - (intOf i).toNat)
        case atStart => exact ⟨0, Nat.zero_le _, rfl, Lib.hid rfl, HB2, HQ2⟩
        case round =>
          clear HB2 HQ2 HV HB1 q1 k0 k1 k2 k3
          obtain ⟨k, hk, rfl, HT, HB, HQ⟩ := hrel
          have i3 : (0 : Int) ≤ (k : Int) := Int.natCast_nonneg _
          by_cases hlt : k < n
          · have i4 : (k : Int) < (n : Int) := by omega
            have HPr := Lib.hid (HP.out.below HB.out hb)
            obtain ⟨hx, hy⟩ := HPr.out k hlt
            obtain ⟨hx', hy'⟩ := HPr.out _ (nx_lt hlt)
            have lr : b < wr.heap.size := Nat.lt_of_lt_of_le hb HB.out.size
            have ql := HQ.out.lt
            have hr2 := nx_tmod n k
            have hJ := nx_lt hlt
            obtain ⟨x0, hx0⟩ : ∃ x, x = X k := ⟨_, rfl⟩
            obtain ⟨y0, hy0⟩ : ∃ x, x = Y k := ⟨_, rfl⟩
            obtain ⟨x1, hx1⟩ : ∃ x, x = X (nx n k) := ⟨_, rfl⟩
            obtain ⟨y1, hy1⟩ : ∃ x, x = Y (nx n k) := ⟨_, rfl⟩
            obtain ⟨s, hs⟩ : ∃ s, s = sideF (x0, y0) (x1, y1) (px, py) := ⟨_, rfl⟩
            have HS1 := Lib.hid (fun W => rside_any x0 y0 x1 y1 px py s W (Lib.hid hs.symm))
            have HSd : Hid (sdB X Y n px py k = decide (0 ≤ s)) := Lib.hid (by unfold sdB; rw [hs, hx0, hy0, hx1, hy1])
            rw [← hx0] at hx
            rw [← hy0] at hy
            rw [← hx1] at hx'
            rw [← hy1] at hy'
            obtain ⟨J, hJe⟩ : ∃ J, J = nx n k := ⟨_, rfl⟩
            rw [← hJe] at hr2 hJ hx' hy'
            obtain ⟨bb, hbb⟩ : ∃ bb, bb = decide (s < 0) := ⟨_, rfl⟩
            have HBB := Lib.hid hbb
            have hdec := hbb.symm
            have j0 : (0 : Int) ≤ (J : Int) := Int.natCast_nonneg _
            have j1 : (J : Int) < (n : Int) := by omega
            have n1 : (n : Int) ≠ 0 := by omega
            have wk : IntKind.i64.wrap ((k : Int) + 1) = (k : Int) + 1 := IntWalk.i64_in _ (by omega)
            have wj2 : IntKind.i64.wrap (J : Int) = (J : Int) := IntWalk.i64_in _ (by omega)
            have wj : IntKind.i64.wrap (((k : Int) + 1).tmod (n : Int)) = (J : Int) := by rw [hr2]; exact wj2
            have d4 := HQ.out.cell 0
            have d5 := HQ.out.cell 1
            have HSix : Hid (∀ W, Below wr.heap.size wr W → W.cell? ⟨b, off + k * 2, none⟩ = some (.int .i64 x0) ∧ W.cell? ⟨b, off + k * 2 + 1, none⟩ = some (.int .i64 y0) ∧ W.cell? ⟨b, off + J * 2, none⟩ = some (.int .i64 x1) ∧ W.cell? ⟨b, off + J * 2 + 1, none⟩ = some (.int .i64 y1) ∧ W.cell? ⟨w.heap.size, 0, none⟩ = some (.int .i64 px) ∧ W.cell? ⟨w.heap.size, 1, none⟩ = some (.int .i64 py)) :=
              Lib.hid (fun W h => ⟨(h.cell (p := ⟨b, off + k * 2, none⟩) lr).trans hx, (h.cell (p := ⟨b, off + k * 2 + 1, none⟩) lr).trans hy, (h.cell (p := ⟨b, off + J * 2, none⟩) lr).trans hx', (h.cell (p := ⟨b, off + J * 2 + 1, none⟩) lr).trans hy', (h.cell (p := ⟨w.heap.size, 0, none⟩) ql).trans d4, (h.cell (p := ⟨w.heap.size, 1, none⟩) ql).trans d5⟩)
            clear hx0 hy0 hx1 hy1 HP HC HW hr B0 hs hbb hJe HPr
            go_upto_region 8 with fail
            go_cut [54] from 40 to 54 (fun v w' => v = .bool bb ∧ Below wr.heap.size wr w')
            case first =>
              go_region_held3 (fun W => W.cell? ⟨b, off + k * 2, none⟩ = some (.int .i64 x0) ∧ W.cell? ⟨b, off + k * 2 + 1, none⟩ = some (.int .i64 y0) ∧ W.cell? ⟨b, off + J * 2, none⟩ = some (.int .i64 x1) ∧ W.cell? ⟨b, off + J * 2 + 1, none⟩ = some (.int .i64 y1) ∧ W.cell? ⟨w.heap.size, 0, none⟩ = some (.int .i64 px) ∧ W.cell? ⟨w.heap.size, 1, none⟩ = some (.int .i64 py))
                (first | exact HSix.out _ hB4 | go_keep)
                (first
                  | (go_at_call 86; (with_reducible refine (HS1.out _).mono ?_); rintro e w4 ⟨rfl, hb4⟩; have hB4 : Below wr.heap.size wr w4 := below_step ((Below.refl _ wr).drew) hb4))
              all_goals go_wp2
              all_goals go_meet
              all_goals exact ⟨by first | rfl | rw [hdec], hB4⟩
            case rest =>
              obtain ⟨wz, rfl⟩ : ∃ x : World, x = wc := ⟨_, rfl⟩
              obtain ⟨rfl, hbz⟩ := hcut
              have HBz := Lib.hid (below_step HB.out hbz)
              have HQz := Lib.hid (HQ.out.below hbz ql)
              clear hbz HSix d4 d5 hdec
              cases bb with
              | false =>
                have HT2 : Hid (allB (sdB X Y n px py) (k + 1) = true) := Lib.hid (by
                  have h := HBB.out.symm
                  rw [decide_eq_false_iff_not] at h
                  unfold allB
                  rw [HT.out, HSd.out, decide_eq_true (by omega)]
                  rfl)
                go_wp2
                go_roundw
                case rel => exact ⟨k + 1, by omega, by go_num, HT2, HBz, HQz⟩
                case measure => simp [intOf]; omega
              | true =>
                have HR : Hid (r = false) := Lib.hid (by
                  have h := HBB.out.symm
                  rw [decide_eq_true_eq] at h
                  rw [← HF.out]
                  exact allB_false hlt (by rw [HSd.out, decide_eq_false (by omega)]))
                go_wp2
                go_ret
                exact ⟨by rw [HR.out]; rfl, HBz.out⟩
          · obtain rfl : k = n := by omega
            have i4 : ¬ (k : Int) < (k : Int) := by omega
            have HR : Hid (r = true) := Lib.hid (HF.out.symm.trans HT.out)
            go_wp2
            go_ret
            exact ⟨by rw [HR.out]; rfl, HB.out⟩
end Go.Proofs.Ytaehfildhmljeaa

namespace Go.Proofs.Ytaehfildhmljeaa
open Go.RowKit Go.Shelf

section
variable {F : Fence} {n : Nat} {P : Program} {w : World} {α : Type}
/-- The caller's relation, and both blocks of the loop as they lie between two rounds. -/
def Btw (I : List α → World → Prop) (D : Nat) (o1 o2 : Obj) (pre : List α) (W : World) : Prop := I pre W ∧ W.heap[D + 1]? = some o1 ∧ W.heap[D]? = some o2
/-- What the body of a round ends with. -/
def Bdy (D : Nat) (Kp : World → World → Prop) (I : List α → World → Prop) (pre : List α) (W : World) : Exit → Act → World → Prop
  | .normal, _, W' => KeepsFrom D W W' ∧ Kp W W' ∧ I pre W'
  | _, _, _ => False

theorem range_all {g : Operand} {ps : Array Tmp} {assign body : Code} {Q : Exit → Act → World → Prop} {a : Act} (hro : F.round = none) (h1 : 1 ≤ n) {gf : Nat} {lb : Array Value}
    (hg : a.eval g = .func (.func gf) #[] lb) (hFg : F.fn gf) (eg : ∀ args w, (callFunc gf args).run P w = .ok (.enter gf args) w) {encs : α → Array Value} (hps : ∀ x, (encs x).size = ps.size) {N : Nat} {xs : List α}
    (Kp : World → World → Prop) (hKt : ∀ {A B C : World}, Kp A B → Kp B C → Kp A C) (I : List α → World → Prop)
    (hKb : ∀ (s : List α) (W : World) (l : Nat) (o o' : Obj), I s W → w.heap.size ≤ l → W.heap[l]? = some o → o.isCells = false → o.isWalk = false → Kp W (W.putObj l o'))
    (hIa : ∀ s W o, I s W → I s (W.alloc o)) (hIp : ∀ s W l o o', I s W → w.heap.size ≤ l → W.heap[l]? = some o → o.isCells = false → I s (W.putObj l o')) (h0 : I [] w)
    (Ax : α → Act → World → Prop) (hAp : ∀ x a' W l o o', Ax x a' W → w.heap.size ≤ l → W.heap[l]? = some o → o.isCells = false → Ax x a' (W.putObj l o'))
    (hseq : ∀ (o1 o2 : Obj) (W : World), o1.isCells = false → o2.isCells = false → Below w.heap.size w W → W.heap.size = w.heap.size + 2 →
      (∀ pre x W1, Btw I w.heap.size o1 o2 pre W1 → pre.length < N → YieldAt F (n - 1 - 1) P (w.heap.size + 1) (encs x) W1 fun e W' => e = .returned (.bool true) ∧ Btw I w.heap.size o1 o2 (pre ++ [x]) W' ∧ Kp W1 W') →
      Btw I w.heap.size o1 o2 [] W → CallsIn F (n - 1) P gf (#[.func (.yield (w.heap.size + 1)) #[] #[]] ++ lb) W fun e W' => (∃ v, e = .returned v) ∧ Btw I w.heap.size o1 o2 xs W')
    (hassign : ∀ (l : Nat) (pre : List α) (x : α) (W : World) (K : Act → World → Prop), I pre W → (∀ a' W', KeepsFrom w.heap.size W W' → Kp W W' → I pre W' → Ax x a' W' → K a' W') →
      assign.wpIn (F.inRound l) (n - 1 - 1) P (Exit.then K (fun _ _ _ => False)) { tmps := (ps.zip (encs x)).foldl (fun t (p, v) => t.setIfInBounds p v) a.tmps, defers := [] } W)
    (hbody : ∀ (l : Nat) (pre : List α) (x : α) (a' : Act) (W : World), I pre W → Ax x a' W → pre.length < N → body.wpIn (F.inRound l) (n - 1 - 1) P (Bdy w.heap.size Kp I (pre ++ [x]) W) a' W)
    (hdone : ∀ (W : World), I xs W → W.heap[w.heap.size]? = some (.deferred (some [])) → Q .normal { a with defers := { target := .collected w.heap.size, args := #[] } :: a.defers } W) :
    (Code.rangeFunc g ps assign body).wpIn F n P Q a w := by
  refine wpIn_rangeFunc fun fn hfn => ?_
  rw [hro]
  obtain ⟨D, hD⟩ : ∃ D, D = w.heap.size := ⟨_, rfl⟩
  rw [← hD] at hKb hIp hAp hseq hassign hbody hdone
  obtain ⟨rc, hrc⟩ : ∃ rc : LoopState → Loop, rc = fun st => { state := st, pending := none, fn, tmps := a.tmps, params := ps, assign, body, defers := D } := ⟨_, rfl⟩
  obtain ⟨W1, hW1⟩ : ∃ W1, W1 = (w.alloc (.deferred (some []))).alloc (.loop (rc .ready)) := ⟨_, rfl⟩
  have hs1 : W1.heap.size = D + 2 := by rw [hW1, hD]; simp
  have hL : W1.heap[D + 1]? = some (.loop (rc .ready)) := by
    have h := World.alloc_heap_new (w.alloc (.deferred (some []))) (.loop (rc .ready))
    rw [World.size_alloc] at h
    rw [hW1, hD]
    exact h
  have hK : W1.heap[D]? = some (.deferred (some [])) := by
    rw [hW1, hD]
    exact (Below.heap_alloc _ _ _ (by simp)).trans (World.alloc_heap_new w _)
  have hI1 : I [] W1 := by rw [hW1]; exact hIa _ _ _ (hIa _ _ _ h0)
  have hb1 : Below D w W1 := by rw [hW1, hD]; exact ((Below.refl _ w).alloc (Nat.le_refl _) _).alloc (by simp) _
  refine ⟨D + 1, [{ target := .collected D, args := #[] }], W1, { target := .fn (.func gf) lb, args := #[.func (.yield (D + 1)) #[] #[]] }, W1, gf, #[.func (.yield (D + 1)) #[] #[]] ++ lb, W1, ?_, ?_, ?_, ?_, fun _ => h1, ?_⟩
  · rw [hW1, hrc, hD]
    exact run_enterLoop_outer _ _ _ _ _
  · simp only [resolve, hg]
    simp [go_sem]
  · intro f' hf'
    simp [Target.leads] at hf'
    subst hf'
    exact hFg
  · simp [invoke, go_sem, eg]
  · refine (hseq (.loop (rc .ready)) (.deferred (some [])) W1 rfl rfl hb1 hs1 ?_ ⟨hI1, hL, hK⟩).mono ?_
    · rintro pre x W ⟨hi, hl, hk⟩ hlen
      have hy := run_yield (P := P) (args := encs x) hl (by rw [hrc]; exact hps x)
      rw [hrc] at hy
      refine ⟨fn, _, assign, body, hy, roundIn_of_wpIn hfn (hassign _ pre x W _ hi fun a' Wa hka hkp hia hax => ?_)⟩
      have hl2 := hka.same _ _ (Nat.le_succ D) hl rfl
      have hk2 := hka.same _ _ (Nat.le_refl D) hk rfl
      have hlt := (Array.getElem?_eq_some_iff.1 hl2).1
      obtain ⟨Wb, hWb⟩ : ∃ Wb, Wb = Wa.putObj (D + 1) (.loop { rc .ready with state := .busy }) := ⟨_, rfl⟩
      have hl3 : Wb.heap[D + 1]? = some (.loop { rc .ready with state := .busy }) := by rw [hWb]; exact World.putObj_heap_same hlt
      have hk3 : Wb.heap[D]? = some (.deferred (some [])) := by rw [hWb]; exact (World.putObj_heap_other (by omega)).trans hk2
      have hkb : Kp Wa Wb := by rw [hWb]; exact hKb _ _ _ _ _ hia (by omega) hl2 rfl rfl
      refine ⟨Wb, by rw [hWb]; exact run_beginRound hl2 (by rw [hrc]), ?_⟩
      have hib : I pre Wb := by rw [hWb]; exact hIp _ _ _ _ _ hia (by omega) hl2 rfl
      have haxb : Ax x a' Wb := by rw [hWb]; exact hAp _ _ _ _ _ _ hax (by omega) hl2 rfl
      refine wpIn_mono (hbody _ pre x a' Wb hib haxb hlen) ?_
      intro e a3 W3 hp
      cases e with
      | normal =>
        obtain ⟨hk4, hkp4, hi4⟩ := hp
        have hl4 := hk4.same _ _ (Nat.le_succ D) hl3 rfl
        have hk5 := hk4.same _ _ (Nat.le_refl D) hk3 rfl
        have hr := run_endRound (P := P) none hl4
        rw [hrc] at hr hl4
        refine ⟨_, _, hr, rfl, ⟨hIp _ _ _ _ _ hi4 (by omega) hl4 rfl, ?_, (World.putObj_heap_other (by omega)).trans hk5⟩, hKt hkp (hKt hkb (hKt hkp4 (hKb _ _ _ _ _ hi4 (by omega) hl4 rfl rfl)))⟩
        rw [World.putObj_heap_same (Array.getElem?_eq_some_iff.1 hl4).1, hrc]
        rfl
      | _ => exact hp.elim
    · rintro e W2 ⟨⟨v, rfl⟩, hi, hl, hk⟩
      have hr := run_endLoop (P := P) hl (by rw [hrc]; simp)
      rw [hrc] at hr hl
      exact ⟨none, _, hr, hdone _ (hIp _ _ _ _ _ hi (by omega) hl rfl) ((World.putObj_heap_other (by omega)).trans hk)⟩
end
end Go.Proofs.Ytaehfildhmljeaa

namespace Go.Proofs.Ytaehfildhmljeaa
open Go.RowKit Go.Shelf
attribute [local go_sem] Oper.semAt_some

theorem corners_fn (A : Option Addr) (n cap : Nat) (w : World) :
    Calls Try.prog 84 #[.slice A n cap] w fun e w' => e = .returned (.func (.func 115) #[] #[.pointer (some ⟨w.heap.size, 0, none⟩)]) ∧ w' = w.alloc (.cells #[.slice A n cap] 22) := by
  go_enter Try.func84, Try.ntmps84
  go_wp2
  go_ret
  exact ⟨rfl, rfl⟩
theorem HulAll.nil {n : Nat} {X Y V : Nat → Int} {w w' : World} (h : chkF n X Y V ≠ 0) (hb : Below w.heap.size w w') : HulAll n X Y V w (.returned (.slice none 0 0)) w' := by
  unfold HulAll
  rw [if_neg h]
  exact ⟨_, 0, rfl, World.ownsRow_nil _ _ _ _, hb⟩
theorem putObj_below {W : World} {B l : Nat} (h : B ≤ l) (o : Obj) : Below B W (W.putObj l o) := ⟨rfl, rfl, rfl, by simp, fun k hk => World.putObj_heap_other (by omega)⟩

set_option maxRecDepth 100000 in
set_option maxHeartbeats 8000000 in
theorem hull_in (m : Nat) (hm : 3 ≤ m) (A : Option Addr) (n cap : Nat) (X Y V : Nat → Int) (hok : chkF n X Y V = 0) (w : World) (hcl : Cloud w A n X Y V) :
    CallsIn Fence.wide m Try.prog 42 #[.slice A n cap] w (HulAll n X Y V w) := by
  have hn : n ≤ 1000 := chkF_le hok
  have hvp : ∀ i, i < n → vp (X i, Y i) = true := fun i hi => by
    obtain ⟨o1, o2, _⟩ := ok_at hok hi
    exact (vp_iff _).2 ⟨o1, o2⟩
  have HCh : Hid (∀ W, Below w.heap.size w W → Calls Try.prog 22 #[.slice A n cap] W fun e w' => e = .returned (.int .i64 0) ∧ Below W.heap.size W w') := Lib.hid (fun W hW => by
    have h := check_any A n cap X Y V W (hcl.below hW)
    rwa [hok] at h)
  have HCL := Lib.hid hcl
  have HOk := Lib.hid hok
  obtain ⟨i0_, hi0, hz0, hz1, hz2⟩ := info_parts Try.info24
  have hI0 := Lib.hid hi0
  have hZ0 := Lib.hid hz0
  have hZ1 := Lib.hid hz1
  have hZ2 := Lib.hid hz2
  clear hi0 hz0 hz1 hz2 hcl hok
  refine callsIn_of_wp_marks Try.func42 rfl trivial ?_ rfl
  simp only [Try.ntmps42, List.size_toArray, List.length_cons, List.length_nil, Nat.reduceAdd, Nat.reduceSub, Array.replicate_succ, Array.replicate_zero, List.push_toArray, List.append_toArray, List.nil_append, List.cons_append]
  gi_wp2_with (first
    | (refine ⟨trivial, fun _ => by omega, ?_⟩; gi_at_call 22; refine (callsIn_wide.2 (HCh.out _ (Below.refl _ _))).mono ?_; rintro e w1 ⟨rfl, hb1⟩)
    | (refine ⟨trivial, fun _ => by omega, ?_⟩; gi_at_call 84; refine (callsIn_wide.2 (corners_fn A n cap _)).mono ?_; rintro e w2 ⟨rfl, rfl⟩))
  obtain ⟨z, hz⟩ : ∃ z, z = w1.heap.size := ⟨_, rfl⟩
  obtain ⟨W0, hW0⟩ : ∃ W0, W0 = (w1.alloc (.cells #[.slice none 0 0] 56)).alloc (.cells #[.slice A n cap] 22) := ⟨_, rfl⟩
  have hs0 : W0.heap.size = z + 2 := by rw [hW0, hz]; simp
  have hB10 : Below w1.heap.size w1 W0 := by rw [hW0]; exact ((Below.refl _ w1).alloc (Nat.le_refl _) _).alloc (by simp) _
  have hB0 : Below w.heap.size w W0 := below_step hb1 hB10
  have sZ : BoxAt W0 z 56 #[.slice none 0 0] := by rw [hW0, hz]; exact (BoxAt.new w1 56 _).alloc _
  have sC : BoxAt W0 (z + 1) 22 #[.slice A n cap] := by
    rw [hW0, hz]
    have := BoxAt.new (w1.alloc (.cells #[.slice none 0 0] 56)) 22 #[.slice A n cap]
    rwa [World.size_alloc] at this
  have hzw : w.heap.size ≤ z := by rw [hz]; exact hb1.size
  rw [← hW0, ← hz]
  clear hW0 hz hb1 hB10
  have HI : Hid (∀ (s : List Pt) (W : World) (l : Nat) (o o' : Obj), ((∃ v, BoxAt W z 56 #[v] ∧ W.ownsRow (z + 2) 24 2 v s.length (ptV s)) ∧ Below w.heap.size W0 W) → W0.heap.size ≤ l → W.heap[l]? = some o → o.isCells = false →
      ((∃ v, BoxAt (W.putObj l o') z 56 #[v] ∧ (W.putObj l o').ownsRow (z + 2) 24 2 v s.length (ptV s)) ∧ Below w.heap.size W0 (W.putObj l o'))) := Lib.hid (fun s W l o o' ⟨⟨v, h1, h2⟩, h3⟩ hl ho hc => by
    refine ⟨⟨v, (World.putObj_heap_other (by omega)).trans h1, ?_⟩, h3.trans (putObj_below (by omega) o')⟩
    refine h2.kept (grownBy_putObj' W l o') ?_
    rcases h2.2 with ⟨rfl, _⟩ | ⟨g, cap', cur, rfl, _, hg, _⟩
    · exact Or.inl rfl
    · refine Or.inr (fun e => ?_)
      obtain rfl : g = l := by simpa [Value.ownBlock] using e
      rw [hg] at ho
      obtain rfl := Option.some.inj ho
      cases hc)
  refine range_all (F := Fence.wide) (P := Try.prog) (α := Pt) rfl (by omega) (gf := 115) (lb := #[.pointer (some ⟨z + 1, 0, none⟩)]) rfl trivial (enters_of Try.func115 (by kernel_rfl) rfl)
    (encs := fun x : Pt => #[sp x.1 x.2]) (fun _ => rfl) (N := 2001) (xs := hulL (celL (spF X Y) n)) (KpH w.heap.size (z + 2) z) KpH.trans
    (fun pre W => (∃ v, BoxAt W z 56 #[v] ∧ W.ownsRow (z + 2) 24 2 v pre.length (ptV pre)) ∧ Below w.heap.size W0 W)
    ?kb (fun s W o ⟨⟨v, h1, h2⟩, h3⟩ => ⟨⟨v, h1.alloc _, h2.alloc _⟩, h3.alloc (by have := h3.size; omega) _⟩) HI.out ⟨⟨_, sZ, World.ownsRow_nil _ _ _ _⟩, Below.refl _ _⟩
    (fun x a' W => ∃ Bx, BoxAt W Bx 24 #[.int .i64 x.1, .int .i64 x.2] ∧
      a' = { tmps := #[.slice A n cap, undef, .slice none 0 0, .pointer (some ⟨z, 0, none⟩), .pointer (some ⟨Bx, 0, none⟩), .slice A n cap, .int .i64 0, .bool false, .slice A n cap, .func (.func 115) #[] #[.pointer (some ⟨z + 1, 0, none⟩)], sp x.1 x.2, undef, undef, undef, undef, undef], defers := [] })
    ?ap ?seq ?assign ?body ?done
  case kb =>
    intro s W l o o' hI hl ho hc hw
    refine ⟨putObj_below (by omega) o', fun k cs t fr hk hcs _ => ?_, fun k hk hu hu' => hu (hu'.back (by obtain ⟨⟨v, h1, _⟩, _⟩ := hI; exact h1.lt) (grownBy_putObj' W l o') (by simp; omega))⟩
    have hne : k ≠ l := by rintro rfl; rw [hcs] at ho; obtain rfl := Option.some.inj ho; cases hc
    exact (World.putObj_heap_other hne).trans hcs
  case ap =>
    rintro x a' W l o o' ⟨Bx, h1, h2⟩ hl ho hc
    refine ⟨Bx, ?_, h2⟩
    have hne : Bx ≠ l := by
      rintro rfl
      rw [show W.heap[Bx]? = _ from h1] at ho
      obtain rfl := Option.some.inj ho
      cases hc
    exact (World.putObj_heap_other hne).trans h1
  case seq =>
    intro o1 o2 W ho1 ho2 hb hsz hY hJ0
    have hBW : Below w.heap.size w W := hB0.trans (hb.mono hB0.size)
    refine corners_in (m - 1) (by omega) (W0.heap.size + 1) (z + 1) w.heap.size (z + 2) z A n cap X Y V hn hvp (Btw _ W0.heap.size o1 o2) W (HCL.out.below hBW) ?_ ?_ (by omega) hY (sC.below hb (by omega)) (by omega) (by omega) hJ0
    · rintro s A' B' row ⟨⟨⟨v, h1, h2⟩, h3⟩, h4, h5⟩ hg hr
      have hnz : ∀ r, row = some r → r ≠ z := fun r e => by have := (hr r e).1; omega
      refine ⟨⟨⟨v, h1.grown hg (fun e => hnz z e.symm rfl), h2.kept hg ?_⟩, h3.grown hg (by have := h3.size; omega) (fun b e => by have := (hr b e).1; omega)⟩, ?_, ?_⟩
      · cases hb2 : v.ownBlock with
        | none => exact Or.inl rfl
        | some b => exact Or.inr (fun e => (hr b e.symm).2.2 ⟨v, h1, hb2⟩)
      · refine (hg.block _ (Array.getElem?_eq_some_iff.1 h4).1 (fun e => ?_)).trans h4
        obtain ⟨cs, t, fr, h6⟩ := (hr _ e.symm).2.1
        rw [h4] at h6
        obtain rfl := Option.some.inj h6
        cases ho1
      · refine (hg.block _ (Array.getElem?_eq_some_iff.1 h5).1 (fun e => ?_)).trans h5
        obtain ⟨cs, t, fr, h6⟩ := (hr _ e.symm).2.1
        rw [h5] at h6
        obtain rfl := Option.some.inj h6
        cases ho2
    · rintro s A' ⟨⟨⟨v, h1, h2⟩, h3⟩, h4, h5⟩
      refine ⟨h1.lt, fun r ⟨v', h6, h7⟩ => ?_⟩
      have : v = v' := by
        have h8 := Option.some.inj ((show A'.heap[z]? = _ from h1).symm.trans h6)
        simpa using h8
      subst this
      exact (h2.lt r h7).2
  case assign =>
    rintro l pre x W K ⟨⟨v, h1, h2⟩, h3⟩ hK
    gi_wp2
    refine hK _ _ ((KeepsOthers.alloc _ _).from _) ⟨(Below.refl _ W).alloc (by have := h3.size; omega) _, fun k cs t fr hk hcs _ => (Below.heap_alloc W _ k (Array.getElem?_eq_some_iff.1 hcs).1).trans hcs, fun k hk hu hu' => hu (hu'.back h1.lt (World.grownBy_alloc W _ none) (by simp))⟩ ⟨⟨v, h1.alloc _, h2.alloc _⟩, h3.alloc (by have := h3.size; omega) _⟩ ⟨W.heap.size, BoxAt.new _ _ _, rfl⟩
  case body =>
    rintro l pre x a' W ⟨⟨v, h1, h2⟩, h3⟩ ⟨Bx, hbx, rfl⟩ hlen
    have HO := Lib.hid h2
    have k0 : W.cell? ⟨Bx, 0, none⟩ = some (.int .i64 x.1) := hbx.cell 0
    have k1 : W.cell? ⟨Bx, 1, none⟩ = some (.int .i64 x.2) := hbx.cell 1
    have s0 : W.cell? ⟨z, 0, none⟩ = some v := h1.cell 0
    have s1 : W.frozen? ⟨z, 0, none⟩ = false := h1.frozen 0
    have hsl := h1.lt
    have hbl := hbx.lt
    have hzD : z + 2 ≤ W.heap.size := by have := h3.size; omega
    gi_wp2_with (gi_at_builtin; refine wpListIn_append_own_at _ rfl _ _ 56 rfl (z + 2) 24 i0_ (.agg #[.int .i64 0, .int .i64 0]) 2 16 Try.underlying56 hI0.out hZ0.out hZ1.out hZ2.out rfl (by decide) v pre.length (ptV pre) rfl (HO.out.alloc _) ⟨W.heap.size, 0, none⟩ 1 1 [.int .i64 x.1, .int .i64 x.2] rfl rfl (World.news_of_block (cs := #[.int .i64 x.1, .int .i64 x.2]) (t := 24) (fr := (0, 0)) (heap_alloc_new W _)) (by simp [Value.oneCell']) (by unfold maxLen; omega) (by omega) (by simp; omega) ?_; intro v' w7 hown7 hgrow _ hat; obtain ⟨g', cap', rfl, hg1, hg2⟩ := hown7.form (by omega); have hb7 : Hid (BoxAt w7 z 56 #[v]) := Lib.hid ((h1.alloc _).grown hgrow (fun e => by have := (HO.out.lt z e.symm).1; omega)); have c7 : w7.cell? ⟨z, 0, none⟩ = some v := BoxAt.cell hb7.out 0; have f7 : w7.frozen? ⟨z, 0, none⟩ = false := BoxAt.frozen hb7.out 0)
    have hba : Below W.heap.size W (W.alloc (.cells #[.int .i64 x.1, .int .i64 x.2] 24)) := (Below.refl _ W).alloc (Nat.le_refl _) _
    have hrc : ∀ b, v.ownBlock = some b → z + 2 ≤ b ∧ ∃ cur, (W.alloc (.cells #[.int .i64 x.1, .int .i64 x.2] 24)).heap[b]? = some (.cells cur 24 (0, 0)) := fun b e => by
      rcases (HO.out.alloc (.cells #[.int .i64 x.1, .int .i64 x.2] 24)).2 with ⟨h, _⟩ | ⟨g, cap', cur, h, hb, hg, _⟩
      · rw [h] at e; cases e
      · rw [h] at e
        obtain rfl : g = b := by simpa [Value.ownBlock] using e
        exact ⟨hb, cur, hg⟩
    have hfin : ∀ k, k < W.heap.size → k ≠ z → some k ≠ v.ownBlock → (w7.setCell ⟨z, 0, none⟩ (.slice (some ⟨g', 0, none⟩) (pre.length + 1) cap')).heap[k]? = W.heap[k]? := fun k hk hkz hkv => by
      rw [Below.heap_setCell w7 _ _ k hkz, hgrow.block k (by simp; omega) hkv, Below.heap_alloc W _ k hk]
    refine ⟨(((KeepsOthers.alloc W _).trans (KeepsOthers.of_grownBy hgrow (fun j o e ho => by obtain ⟨_, cur, hc⟩ := hrc j e; rw [hc] at ho; cases ho; rfl))).trans (KeepsOthers.setCell _ _ _)).from _, ⟨?_, fun k cs t fr hk hcs hu => ?_, fun k hk hu hu' => ?_⟩, ⟨⟨_, hb7.out.set 0 _, ?_⟩, ?_⟩⟩
    · exact ((((Below.refl w.heap.size W).alloc (by omega) _).grown hgrow (by simp; omega) (fun b e => by have := (hrc b e).1; omega))).setCell (p := ⟨z, 0, none⟩) (by show w.heap.size ≤ z; omega) _
    · have hkl := (Array.getElem?_eq_some_iff.1 hcs).1
      rw [hfin k hkl (by omega) (fun e => hu ⟨v, h1, e.symm⟩)]
      exact hcs
    · obtain ⟨v2, h6, h7⟩ := hu'
      have h8 : v2 = .slice (some ⟨g', 0, none⟩) (pre.length + 1) cap' := by
        have h9 := Option.some.inj ((show _ = _ from h6).symm.trans (hb7.out.set 0 (.slice (some ⟨g', 0, none⟩) (pre.length + 1) cap')))
        simpa using h9
      rw [h8] at h7
      rcases hat with h | h
      · exact hu ⟨v, h1, h.symm.trans h7⟩
      · rw [h] at h7
        have : (W.alloc (.cells #[.int .i64 x.1, .int .i64 x.2] 24)).heap.size = k := Option.some.inj h7
        simp at this
        omega
    · rw [List.length_append, ptV_append]
      exact hown7.kept (grownBy_setCell' _ _ _) (.inr (by simp [Value.ownBlock]; omega))
    · exact ((h3.alloc (by omega) _).grown hgrow (by simp; omega) (fun b e => by have := (hrc b e).1; omega)).setCell (p := ⟨z, 0, none⟩) (by show w.heap.size ≤ z; omega) _
  case done =>
    rintro W ⟨⟨v, h1, h2⟩, h3⟩ hK
    have s0 : W.cell? ⟨z, 0, none⟩ = some v := h1.cell 0
    have HRes : Hid (HulAll n X Y V w (.returned v) (W.putObj W0.heap.size (.deferred none))) := Lib.hid (by
      unfold HulAll
      rw [if_pos HOk.out]
      refine ⟨v, z + 2, rfl, ?_, (hB0.trans h3).trans (putObj_below (by omega) _)⟩
      refine h2.kept (grownBy_putObj' W _ _) ?_
      rcases h2.2 with ⟨rfl, _⟩ | ⟨g, cap', cur, rfl, _, hg, _⟩
      · exact Or.inl rfl
      · refine Or.inr (fun e => ?_)
        obtain rfl : g = W0.heap.size := by simpa [Value.ownBlock] using e
        rw [hg] at hK
        cases hK)
    clear h1 h2 h3
    gi_wp2
    refine ⟨by simp, .inl ⟨_, _, rfl, run_takeDeferred hK, ?_⟩⟩
    refine ⟨v, ?_, HRes.out⟩
    exact results_tmp (show Try.f42.results = #[.tmp 2] from rfl) _ _ _

theorem hull_any (A : Option Addr) (n cap : Nat) (X Y V : Nat → Int) (w : World) (hcl : Cloud w A n X Y V) :
    Calls Try.prog 42 #[.slice A n cap] w (HulAll n X Y V w) := by
  by_cases hok : chkF n X Y V = 0
  · exact callsIn_wide.1 (hull_in 3 (Nat.le_refl _) A n cap X Y V hok w hcl)
  · have HK := Lib.hid (check_any A n cap X Y V w hcl)
    have HZ := Lib.hid hok
    obtain ⟨z, hz⟩ : ∃ z, z = chkF n X Y V := ⟨_, rfl⟩
    rw [← hz] at HK hok
    clear hcl hz
    go_enter Try.func42, Try.ntmps42
    go_wp2_with (go_at_call 22; (with_reducible refine HK.out.mono ?_); rintro e w1 ⟨rfl, hb1⟩)
    go_ret
    exact HulAll.nil HZ.out hb1
theorem rhull_any (A : Option Addr) (n cap : Nat) (X Y V : Nat → Int) (w : World) (hcl : Cloud w A n X Y V) :
    Calls Try.prog 43 #[.slice A n cap] w (HulAll n X Y V w) := by
  by_cases hok : chkF n X Y V = 0
  · rcases Nat.eq_zero_or_pos n with h0 | h0
    · have HK := Lib.hid (rcheck_any A n cap X Y V w hcl)
      rw [hok] at HK
      have HE : Hid (∀ w', Below w.heap.size w w' → HulAll n X Y V w (.returned (.slice none 0 0)) w') := Lib.hid (fun w' hb => by
        unfold HulAll
        rw [if_pos hok, h0]
        exact ⟨_, 0, rfl, World.ownsRow_nil _ _ _ _, hb⟩)
      clear hok hcl
      subst h0
      go_enter Try.func43, Try.ntmps43
      go_wp2_with (go_at_call 23; (with_reducible refine HK.out.mono ?_); rintro e w1 ⟨rfl, hb1⟩)
      go_ret
      exact HE.out _ hb1
    · exact rhull_good A n cap X Y V hok h0 w hcl
  · have HK := Lib.hid (rcheck_any A n cap X Y V w hcl)
    have HZ := Lib.hid hok
    obtain ⟨z, hz⟩ : ∃ z, z = chkF n X Y V := ⟨_, rfl⟩
    rw [← hz] at HK hok
    clear hcl hz
    go_enter Try.func43, Try.ntmps43
    go_wp2_with (go_at_call 23; (with_reducible refine HK.out.mono ?_); rintro e w1 ⟨rfl, hb1⟩)
    go_ret
    exact HulAll.nil HZ.out hb1
end Go.Proofs.Ytaehfildhmljeaa

namespace Go.Proofs.Ytaehfildhmljeaa
open Go.RowKit Go.Shelf

def trP (d p : Pt) : Pt := (p.1 + d.1, p.2 + d.2)
theorem trP_inj {d p q : Pt} (h : trP d p = trP d q) : p = q := by
  unfold trP at h
  have h1 := congrArg Prod.fst h
  have h2 := congrArg Prod.snd h
  simp only at h1 h2
  exact Prod.ext (by omega) (by omega)
theorem crs_tr (d a b c : Pt) : crs (trP d a) (trP d b) (trP d c) = crs a b c := by unfold crs trP; grind
theorem bef_tr (d a b : Pt) : befB (trP d a) (trP d b) = befB a b := by
  unfold befB trP
  simp only
  rw [Bool.eq_iff_iff]
  simp
  try omega
theorem insU_tr (d c : Pt) : ∀ L : List Pt, insU (trP d c) (L.map (trP d)) = (insU c L).map (trP d) := by
  intro L
  induction L with
  | nil => rfl
  | cons p r ih =>
    simp only [List.map_cons, insU, bef_tr]
    by_cases h : befB p c = true
    · rw [if_pos h, if_pos h, ih]; rfl
    · rw [if_neg h, if_neg h]
      by_cases e : p = c
      · rw [if_pos e, if_pos (by rw [e])]; rfl
      · rw [if_neg e, if_neg (fun h => e (trP_inj h))]; rfl
theorem celL_tr (d : Pt) (C : Nat → Pt) : ∀ k, celL (fun i => trP d (C i)) k = (celL C k).map (trP d) := by
  intro k
  induction k with
  | zero => rfl
  | succ k ih =>
    show insU (trP d (C k)) (celL (fun i => trP d (C i)) k) = (insU (C k) (celL C k)).map (trP d)
    rw [ih, insU_tr]
theorem pop_tr (d p : Pt) : ∀ st : List Pt, popS (trP d p) (st.map (trP d)) = (popS p st).map (trP d) := by
  intro st
  induction st with
  | nil => rfl
  | cons b r ih =>
    cases r with
    | nil => rfl
    | cons a r =>
      simp only [List.map_cons, popS, crs_tr]
      by_cases h : 0 < crs a b p
      · rw [if_pos h, if_pos h]; rfl
      · rw [if_neg h, if_neg h]; exact ih
theorem chS_tr (d : Pt) : ∀ (l st : List Pt), chS (st.map (trP d)) (l.map (trP d)) = (chS st l).map (trP d) := by
  intro l
  induction l with
  | nil => intro st; rfl
  | cons p r ih =>
    intro st
    show chS (trP d p :: popS (trP d p) (st.map (trP d))) (r.map (trP d)) = (chS (p :: popS p st) r).map (trP d)
    rw [pop_tr, ← ih]; rfl
theorem hulL_tr (d : Pt) (S : List Pt) : hulL (S.map (trP d)) = (hulL S).map (trP d) := by
  unfold hulL
  rw [List.length_map]
  by_cases h : S.length = 1
  · rw [if_pos h, if_pos h]
  · rw [if_neg h, if_neg h]
    unfold hulP lowL uppL
    have e1 := chS_tr d S []
    have e2 := chS_tr d S.reverse []
    simp only [List.map_nil] at e1 e2
    rw [List.map_reverse] at e2
    rw [e1, e2]
    simp only [List.map_append, List.map_dropLast, List.map_reverse]
/-- The hull of a shifted cloud. -/
theorem hull_shift (d : Pt) (C : Nat → Pt) (n : Nat) : hulL (celL (fun i => trP d (C i)) n) = (hulL (celL C n)).map (trP d) := by
  rw [celL_tr, hulL_tr]

theorem nx_step {n k : Nat} (h : k + 1 < n) : nx n k = k + 1 := Nat.mod_eq_of_lt h
theorem nx_last {n : Nat} (h : 0 < n) : nx n (n - 1) = 0 := by
  unfold nx
  rw [show n - 1 + 1 = n by omega, Nat.mod_self]
theorem arS_part (X Y : Nat → Int) (n : Nat) (a b : Int) : ∀ k, k < n →
    arS (fun i => X i + a) (fun i => Y i + b) n k = arS X Y n k + a * (Y k - Y 0) + b * (X 0 - X k) := by
  intro k
  induction k with
  | zero => intro _; show (0 : Int) = 0 + a * (Y 0 - Y 0) + b * (X 0 - X 0); grind
  | succ k ih =>
    intro hk
    show arS (fun i => X i + a) (fun i => Y i + b) n k + crK (fun i => X i + a) (fun i => Y i + b) n k = arS X Y n k + crK X Y n k + a * (Y (k + 1) - Y 0) + b * (X 0 - X (k + 1))
    rw [ih (by omega)]
    unfold crK
    rw [nx_step hk]
    grind
/-- The area goes with a shift. -/
theorem arS_shift (X Y : Nat → Int) (n : Nat) (a b : Int) : arS (fun i => X i + a) (fun i => Y i + b) n n = arS X Y n n := by
  cases n with
  | zero => rfl
  | succ m =>
    show arS (fun i => X i + a) (fun i => Y i + b) (m + 1) m + crK (fun i => X i + a) (fun i => Y i + b) (m + 1) m = arS X Y (m + 1) m + crK X Y (m + 1) m
    rw [arS_part X Y (m + 1) a b m (by omega)]
    unfold crK
    have e : nx (m + 1) m = 0 := nx_last (n := m + 1) (by omega)
    rw [e]
    grind
theorem lX_map (d : Pt) (L : List Pt) {i : Nat} (h : i < L.length) : lX (L.map (trP d)) i = lX L i + d.1 ∧ lY (L.map (trP d)) i = lY L i + d.2 := by
  unfold lX lY
  simp [List.getD, List.getElem?_eq_getElem h, trP]
theorem arS_ext {X Y X' Y' : Nat → Int} {n : Nat} (h : ∀ i, i < n → X i = X' i ∧ Y i = Y' i) : ∀ k, k ≤ n → arS X Y n k = arS X' Y' n k := by
  intro k
  induction k with
  | zero => intro _; rfl
  | succ k ih =>
    intro hk
    show arS X Y n k + crK X Y n k = arS X' Y' n k + crK X' Y' n k
    rw [ih (by omega)]
    unfold crK
    rw [(h k (by omega)).1, (h k (by omega)).2, (h _ (nx_lt (by omega))).1, (h _ (nx_lt (by omega))).2]
/-- The area of a shifted list of corners. -/
theorem area_map (d : Pt) (L : List Pt) : arS (lX (L.map (trP d))) (lY (L.map (trP d))) L.length L.length = arS (lX L) (lY L) L.length L.length := by
  rw [arS_ext (X' := fun i => lX L i + d.1) (Y' := fun i => lY L i + d.2) (fun i hi => lX_map d L hi) _ (Nat.le_refl _), arS_shift]
end Go.Proofs.Ytaehfildhmljeaa

namespace Go.Proofs.Ytaehfildhmljeaa
open Go.RowKit Go.Shelf

theorem pop_sub {p x : Pt} : ∀ {st : List Pt}, x ∈ popS p st → x ∈ st := by
  intro st
  induction st with
  | nil => intro h; exact h
  | cons b r ih =>
    cases r with
    | nil => intro h; exact h
    | cons a r =>
      rw [popS]
      split
      · exact fun h => h
      · exact fun h => List.mem_cons_of_mem _ (ih h)
theorem chS_sub {x : Pt} : ∀ {l st : List Pt}, x ∈ chS st l → x ∈ st ∨ x ∈ l := by
  intro l
  induction l with
  | nil => intro st h; exact .inl h
  | cons p r ih =>
    intro st h
    rw [chS] at h
    rcases ih h with h | h
    · rcases List.mem_cons.1 h with rfl | h
      · exact .inr (List.mem_cons_self ..)
      · exact .inl (pop_sub h)
    · exact .inr (List.mem_cons_of_mem _ h)
theorem hulL_sub {S : List Pt} {x : Pt} (h : x ∈ hulL S) : x ∈ S := by
  unfold hulL at h
  split at h
  · exact h
  · unfold hulP at h
    rcases List.mem_append.1 h with h | h
    · have h1 := List.mem_reverse.1 ((List.dropLast_sublist _).subset h)
      rcases chS_sub h1 with h | h
      · cases h
      · exact h
    · have h1 := List.mem_reverse.1 ((List.dropLast_sublist _).subset h)
      rcases chS_sub h1 with h | h
      · cases h
      · exact List.mem_reverse.1 h
theorem lXY2 {L : List Pt} {i : Nat} (h : i < L.length) : L[i]? = some (lX L i, lY L i) := by
  unfold lX lY
  rw [List.getElem?_eq_getElem h]
  simp [List.getD, List.getElem?_eq_getElem h]
theorem hull_at {C : Nat → Pt} {n i : Nat} (h : i < (hulL (celL C n)).length) : ∃ k, k < n ∧ C k = (lX (hulL (celL C n)) i, lY (hulL (celL C n)) i) :=
  mem_celL.1 (hulL_sub (List.mem_of_getElem? (lXY2 h)))

section
variable {n : Nat} {X Y V : Nat → Int} {a b : Int}
theorem shifted_ok (hok : chkF n X Y V = 0) (hx : ∀ i, -3000 ≤ X i ∧ X i ≤ 3000) (hy : ∀ i, -3000 ≤ Y i ∧ Y i ≤ 3000) (ha : -1000 ≤ a ∧ a ≤ 1000) (hb : -1000 ≤ b ∧ b ≤ 1000) :
    chkF n (fun i => X i + a) (fun i => Y i + b) V = 0 := by
  have hn := chkF_le hok
  unfold chkF
  rw [if_neg (by omega), if_pos]
  refine allB_of fun i hi => ?_
  obtain ⟨_, _, h1, h2⟩ := ok_at hok hi
  have := hx i
  have := hy i
  show (vldB (X i + a) (Y i + b) && (decide (-4000 ≤ V i) && decide (V i ≤ 4000))) = true
  rw [(vldB_iff _ _).2 ⟨by unfold okc; omega, by unfold okc; omega⟩, decide_eq_true h1, decide_eq_true h2]
  rfl
theorem shifted_n (hok : chkF n X Y V = 0) (hx : ∀ i, -4000 ≤ X i ∧ X i ≤ 4000) (hy : ∀ i, -4000 ≤ Y i ∧ Y i ≤ 4000) (ha : -1000 ≤ a ∧ a ≤ 1000) (hb : -1000 ≤ b ∧ b ≤ 1000) :
    shN n X Y V a b = (n, 0) := by
  refine shN_ok hok (by unfold nearB; simp; omega) (allB_of fun i _ => ?_)
  have := hx i
  have := hy i
  exact (vldB_iff _ _).2 ⟨by unfold okc; omega, by unfold okc; omega⟩
theorem shifted_lnk (hx : ∀ i, -3000 ≤ X i ∧ X i ≤ 3000) (hy : ∀ i, -3000 ≤ Y i ∧ Y i ≤ 3000) (ha : -1000 ≤ a ∧ a ≤ 1000) (hb : -1000 ≤ b ∧ b ≤ 1000) (gap : Int) :
    lnkF (fun i => X i + a) (fun i => Y i + b) gap = lnkF X Y gap := by
  funext i k
  have x1 := hx i
  have x2 := hx k
  have y1 := hy i
  have y2 := hy k
  have v1 : vp (X i, Y i) = true := (vp_iff _).2 ⟨by unfold okc; simp only; omega, by unfold okc; simp only; omega⟩
  have v2 : vp (X k, Y k) = true := (vp_iff _).2 ⟨by unfold okc; simp only; omega, by unfold okc; simp only; omega⟩
  have v3 : vp (X i + a, Y i + b) = true := (vp_iff _).2 ⟨by unfold okc; simp only; omega, by unfold okc; simp only; omega⟩
  have v4 : vp (X k + a, Y k + b) = true := (vp_iff _).2 ⟨by unfold okc; simp only; omega, by unfold okc; simp only; omega⟩
  have e : dsq (X i + a, Y i + b) (X k + a, Y k + b) = dsq (X i, Y i) (X k, Y k) := by unfold dsq; grind
  show seesF (X i + a, Y i + b) (X k + a, Y k + b) gap = seesF (X i, Y i) (X k, Y k) gap
  unfold seesF
  rw [v1, v2, v3, v4, e]
theorem hull_cor (hn : n ≤ 30) (hx : ∀ i, -4000 ≤ X i ∧ X i ≤ 4000) (hy : ∀ i, -4000 ≤ Y i ∧ Y i ≤ 4000) :
    corF (hulL (celL (spF X Y) n)).length (lX (hulL (celL (spF X Y) n))) (lY (hulL (celL (spF X Y) n))) = true := by
  have h1 := hulL_len (celL (spF X Y) n)
  have h2 := celL_len (C := spF X Y) n
  unfold corF
  rw [decide_eq_true (by omega), Bool.true_and]
  refine allB_of fun i hi => ?_
  obtain ⟨k, _, hk⟩ := hull_at hi
  have e1 : X k = lX (hulL (celL (spF X Y) n)) i := congrArg Prod.fst hk
  have e2 : Y k = lY (hulL (celL (spF X Y) n)) i := congrArg Prod.snd hk
  have := hx k
  have := hy k
  exact (vldB_iff _ _).2 ⟨by unfold okc; omega, by unfold okc; omega⟩
theorem hull_sp (X Y : Nat → Int) (n : Nat) (a b : Int) : hulL (celL (spF (fun i => X i + a) (fun i => Y i + b)) n) = (hulL (celL (spF X Y) n)).map (trP (a, b)) := hull_shift (a, b) (spF X Y) n
/-- The areas of both hulls. -/
theorem hull_area (hn : n ≤ 30) (hx : ∀ i, -3000 ≤ X i ∧ X i ≤ 3000) (hy : ∀ i, -3000 ≤ Y i ∧ Y i ≤ 3000) (ha : -1000 ≤ a ∧ a ≤ 1000) (hb : -1000 ≤ b ∧ b ≤ 1000) (L : List Pt) (hL : L = hulL (celL (spF X Y) n)) :
    areaF (L.map (trP (a, b))).length (lX (L.map (trP (a, b)))) (lY (L.map (trP (a, b)))) = areaF L.length (lX L) (lY L) := by
  subst hL
  have c1 := hull_cor (n := n) (X := X) (Y := Y) hn (fun i => by have := hx i; omega) (fun i => by have := hy i; omega)
  have c2 := hull_cor (n := n) (X := fun i => X i + a) (Y := fun i => Y i + b) hn (fun i => by have := hx i; omega) (fun i => by have := hy i; omega)
  rw [hull_sp] at c2
  rw [List.length_map] at c2 ⊢
  by_cases h3 : 3 ≤ (hulL (celL (spF X Y) n)).length
  · rw [areaF_yes c1 h3, areaF_yes c2 h3, area_map]
  · rw [areaF_few (by omega), areaF_few (by omega)]
end

section
variable {n : Nat} {X Y : Nat → Int} {m : Nat} {X' Y' : Nat → Int} {win s : Int}
theorem regJ_in (hw : 0 ≤ win) {st : Pt × Nat} (h : inW st.1 win = true) (i : Nat) : ∀ j, inW (regJ n X Y m X' Y' win s st i j).1 win = true := by
  intro j
  induction j with
  | zero => exact h
  | succ j ih =>
    rw [regJ]
    unfold regStep
    split
    · rename_i h1
      split
      · exact h1
      · exact ih
    · exact ih
theorem regI_in (hw : 0 ≤ win) : ∀ i, inW (regI n X Y m X' Y' win s i).1 win = true := by
  intro i
  induction i with
  | zero => exact (inW_iff _ _).2 ⟨⟨by simp [regI]; omega, by simp [regI]; omega⟩, by simp [regI]; omega, by simp [regI]; omega⟩
  | succ i ih => exact regJ_in hw ih i m
end
theorem cntB_all {p : Nat → Bool} : ∀ k, (∀ j, j < k → p j = true) → cntB p k = k := by
  intro k
  induction k with
  | zero => intro _; rfl
  | succ k ih =>
    intro h
    rw [cntB, ih (fun j hj => h j (by omega)), if_pos (h k (by omega))]
theorem agr_self (p q s : Int) (hs : 0 ≤ s) : agrB (p, q) (p, q) s = true := by
  unfold agrB dsF
  simp
  omega
/-- All points match. -/
theorem mat_all {n : Nat} {X Y : Nat → Int} {a b s : Int} (hs : 0 ≤ s) : matF n X Y n (fun i => X i + a) (fun i => Y i + b) (-a) (-b) s = n := by
  refine cntB_all n fun j hj => ?_
  refine anyB_hit (i := j) hj ?_
  rw [show X j + a + -a = X j by omega, show Y j + b + -b = Y j by omega]
  exact agr_self _ _ _ hs
/-- The best shift has all points. -/
theorem reg_all {n : Nat} {X Y : Nat → Int} {a b s win : Int} (hs : 0 ≤ s) (h : inW (-a, -b) win = true) : (regI n X Y n (fun i => X i + a) (fun i => Y i + b) win s n).2 = n := by
  have h1 : (regI n X Y n (fun i => X i + a) (fun i => Y i + b) win s n).2 ≤ n := by
    rw [best_inv]
    exact matF_le _ _ _ _ _ _ _ _ _
  rcases Nat.eq_zero_or_pos n with h0 | h0
  · omega
  · have h2 := best_cand (n := n) (X := X) (Y := Y) (m := n) (X' := fun i => X i + a) (Y' := fun i => Y i + b) (win := win) (s := s) (i := 0) (j := 0) h0 h0 (by
      rw [show X 0 - (X 0 + a) = -a by omega, show Y 0 - (Y 0 + b) = -b by omega]; exact h)
    rw [show X 0 - (X 0 + a) = -a by omega, show Y 0 - (Y 0 + b) = -b by omega, mat_all hs] at h2
    omega
end Go.Proofs.Ytaehfildhmljeaa

namespace Go.Proofs.Ytaehfildhmljeaa
open Go.RowKit Go.Shelf

theorem hul_spots2 {W : World} {base : Nat} {v : Value} {L : List Pt} (h : W.ownsRow base 24 2 v L.length (ptV L)) : ∃ A c, v = .slice A L.length c ∧ Spots W A L.length (lX L) (lY L) := by
  rcases h.2 with ⟨hv, hn⟩ | ⟨g, c, cur, hv, _⟩
  · rw [hv]
    refine ⟨none, 0, ?_, fun h0 => ?_⟩
    · rw [hn]
    · omega
  · refine ⟨some ⟨g, 0, none⟩, c, hv, fun _ => ⟨g, 0, rfl, fun i hi => ?_⟩⟩
    obtain ⟨a, b⟩ := ptV_get L i _ (lXY2 hi)
    have h1 := h.cells (g := g) (by rw [hv]; rfl) _ _ a
    have h2 := h.cells (g := g) (by rw [hv]; rfl) _ _ b
    rw [add_plain] at h1 h2
    exact ⟨h1, by rw [Nat.add_assoc]; exact h2⟩
theorem Cloud.box_store {W : World} {A : Option Addr} {n : Nat} {X Y V : Nat → Int} {g : Nat} {x y u v : Value} (h : Cloud W A n X Y V) (hb : BoxAt W g 24 #[x, y]) :
    Cloud ((W.setCell ⟨g, 0, none⟩ u).setCell ⟨g, 1, none⟩ v) A n X Y V := fun hn => by
  obtain ⟨b, off, e, hp⟩ := h hn
  refine ⟨b, off, e, ?_⟩
  have hne : b ≠ g := by
    rintro rfl
    have h0 := (hp 0 hn).2.2
    rw [BoxAt.cell hb] at h0
    simp at h0
  have far : ∀ j, ((W.setCell ⟨g, 0, none⟩ u).setCell ⟨g, 1, none⟩ v).cell? ⟨b, j, none⟩ = W.cell? ⟨b, j, none⟩ := fun j =>
    (World.cell?_of_block (Below.heap_setCell _ _ _ _ hne)).trans (World.cell?_of_block (Below.heap_setCell _ _ _ _ hne))
  intro i hi
  exact ⟨(far _).trans (hp i hi).1, (far _).trans (hp i hi).2.1, (far _).trans (hp i hi).2.2⟩

theorem Cloud.back {W : World} {B : Option Addr} {n : Nat} {X Y V : Nat → Int} {a b : Int} (h : Cloud W B n (fun i => X i + a + -a) (fun i => Y i + b + -b) V) : Cloud W B n X Y V := by
  have e1 : (fun i => X i + a + -a) = X := by funext i; omega
  have e2 : (fun i => Y i + b + -b) = Y := by funext i; omega
  rwa [e1, e2] at h

set_option maxRecDepth 100000 in
set_option maxHeartbeats 16000000 in
theorem cshifts_walk (A : Option Addr) (q1 cap1 : Nat) (S : Nat → Int) (d1 d2 ga sl : Int) (hq1 : q1 ≤ cap1) (w : World) (hs : Nums w A q1 S) :
    Calls Try.prog 13 #[.slice A q1 cap1, sp d1 d2, .int .i64 ga, .int .i64 sl] w fun e w' => e = .returned (.bool true) ∧ Below w.heap.size w w' := by
  have hB : Below w.heap.size w (w.alloc (.cells #[.int .i64 d1, .int .i64 d2] 24)) := (Below.refl _ w).alloc (Nat.le_refl _) _
  have hbx := BoxAt.new w 24 #[.int .i64 d1, .int .i64 d2]
  have HS1 := Lib.hid (hs.below hB)
  clear hs
  go_enter Try.func13, Try.ntmps13
  go_upto_if 27 with fail
  obtain ⟨L5, hL5⟩ : ∃ z, z = w.heap.size := ⟨_, rfl⟩
  rw [← hL5] at hbx ⊢
  have HL5 : Hid (w.heap.size ≤ L5) := Lib.hid (by omega)
  clear hL5
  have HBX := Lib.hid hbx
  have HB := Lib.hid hB
  clear hbx hB
  generalize w.alloc (.cells #[.int .i64 d1, .int .i64 d2] 24) = wx at *
  go_cut [0] from 25 to 29 (fun v w' => (∃ (n cap : Nat), v = .slice A n cap ∧ n ≤ 30 ∧ Nums wx A n S) ∧ w' = wx)
  case first =>
    by_cases h : 30 < q1
    · obtain ⟨b, off, rfl, hc⟩ := HS1.out (by omega)
      have h2 : (30 : Int) < (q1 : Int) := by omega
      have h3 : (30 : Int) ≤ (cap1 : Int) := by omega
      have h4 : 30 ≤ cap1 := by omega
      have HC := Lib.hid hc
      clear hc
      go_wp2
      go_meet
      refine ⟨⟨30, _, rfl, Nat.le_refl _, ?_⟩, rfl⟩
      exact fun _ => ⟨b, off, rfl, fun i hi => HC.out i (by omega)⟩
    · have h2 : ¬ (30 : Int) < (q1 : Int) := by omega
      go_wp2
      go_meet
      exact ⟨⟨q1, cap1, rfl, by omega, HS1.out⟩, rfl⟩
  obtain ⟨⟨n, cn, rfl, hn, hs⟩, hwc⟩ := hcut
  have HSn := Lib.hid hs
  subst hwc
  clear hs HS1 hq1
  have HKn := Lib.hid (fun W (h : Nums W A n S) => kcloud_any A n cn S 3000 (by omega) (by omega) W h)
  have hok := kcl_ok (span := 3000) (by omega) (by omega) S (n := n) (by omega)
  rw [show min n 40 = n by omega] at HKn
  have hbX := fun i => kX_bd (span := 3000) (by omega) (S i)
  have hbY := fun i => kY_bd (span := 3000) (by omega) (S i)
  replace hbX : ∀ i, -3000 ≤ (fun i => kX 3000 (S i)) i ∧ (fun i => kX 3000 (S i)) i ≤ 3000 := hbX
  replace hbY : ∀ i, -3000 ≤ (fun i => kY 3000 (S i)) i ∧ (fun i => kY 3000 (S i)) i ≤ 3000 := hbY
  generalize (fun i => kX 3000 (S i)) = X at *
  generalize (fun i => kY 3000 (S i)) = Y at *
  generalize (fun i => kV (S i)) = V at *
  obtain ⟨a, hda⟩ : ∃ a, a = d1.tmod 1001 := ⟨_, rfl⟩
  obtain ⟨b, hdb⟩ : ∃ b, b = d2.tmod 1001 := ⟨_, rfl⟩
  have ta := tmod_cases d1 1001 (by omega)
  have tb := tmod_cases d2 1001 (by omega)
  rw [← hda] at ta
  rw [← hdb] at tb
  have ha : -1000 ≤ a ∧ a ≤ 1000 := by omega
  have hb : -1000 ≤ b ∧ b ≤ 1000 := by omega
  clear ta tb
  have v1 : IntKind.i64.wrap (d1.tmod 1001) = a := by rw [← hda]; exact IntWalk.i64_in _ (by omega)
  have v2 : IntKind.i64.wrap (d2.tmod 1001) = b := by rw [← hdb]; exact IntWalk.i64_in _ (by omega)
  have v3 : d1.tmod 1001 = a := hda.symm
  have v4 : d2.tmod 1001 = b := hdb.symm
  clear hda hdb
  have x0 := HBX.out.cell 0
  have x1 := HBX.out.cell 1
  have x2 := HBX.out.lt
  go_upto_region 5 with (go_at_call 54; (with_reducible refine (HKn.out _ HSn.out).mono ?_); rintro e w1 ⟨B1, c1, rfl, hle1, hC1, hb1⟩; have HC1 := Lib.hid hC1; have HLE1 := Lib.hid hle1; have HBX1 := Lib.hid (box_step HBX.out hb1); have HB1 := Lib.hid (HB.out.trans (hb1.mono HB.out.size)); have y0 := HBX1.out.cell 0; have y1 := HBX1.out.cell 1; have y2 := HBX1.out.lt; have y3 := HBX1.out.frozen 0; have y4 := HBX1.out.frozen 1; clear hC1 hle1 hb1)
  have hC2 := HC1.out.box_store (u := .int .i64 a) (v := .int .i64 b) HBX1.out
  have hB2 : Below w.heap.size w ((w1.setCell ⟨L5, 0, none⟩ (.int .i64 a)).setCell ⟨L5, 1, none⟩ (.int .i64 b)) := (HB1.out.setCell (p := ⟨L5, 0, none⟩) HL5.out _).setCell (p := ⟨L5, 1, none⟩) HL5.out _
  have hX2 : BoxAt ((w1.setCell ⟨L5, 0, none⟩ (.int .i64 a)).setCell ⟨L5, 1, none⟩ (.int .i64 b)) L5 24 #[.int .i64 a, .int .i64 b] := (HBX1.out.set 0 (.int .i64 a)).set 1 (.int .i64 b)
  clear HC1 HBX1 HB1 y0 y1 y2 y3 y4 x0 x1 x2 HBX HB HSn HKn v1 v2 v3 v4
  generalize (w1.setCell ⟨L5, 0, none⟩ (.int .i64 a)).setCell ⟨L5, 1, none⟩ (.int .i64 b) = w2 at *
  obtain ⟨g, hg⟩ : ∃ g, g = ga % 2001 := ⟨_, rfl⟩
  obtain ⟨u, hu⟩ : ∃ u, u = sl % 51 := ⟨_, rfl⟩
  have HM1 := Lib.hid (fun W => mod64_any ga 2001 W (by omega) (by omega))
  have HM2 := Lib.hid (fun W => mod64_any sl 51 W (by omega) (by omega))
  rw [← hg] at HM1
  rw [← hu] at HM2
  have hg' : 0 ≤ g ∧ g ≤ 2000 := by omega
  have hu' : 0 ≤ u ∧ u ≤ 50 := by omega
  clear hg hu
  have hok2 := shifted_ok (a := a) (b := b) hok hbX hbY ha hb
  have HLk := Lib.hid (shifted_lnk (a := a) (b := b) hbX hbY ha hb g)
  have hsp := hull_sp X Y n a b
  have HAr := Lib.hid (hull_area (a := a) (b := b) hn hbX hbY ha hb _ rfl)
  have hbX2 : ∀ i, -4000 ≤ (fun i => X i + a) i ∧ (fun i => X i + a) i ≤ 4000 := fun i => by have := hbX i; simp only; omega
  have hbY2 : ∀ i, -4000 ≤ (fun i => Y i + b) i ∧ (fun i => Y i + b) i ≤ 4000 := fun i => by have := hbY i; simp only; omega
  have hn1 := shifted_n (a := a) (b := b) hok (fun i => by have := hbX i; omega) (fun i => by have := hbY i; omega) ha hb
  have hn2 := shifted_n (a := -a) (b := -b) hok2 hbX2 hbY2 (by omega) (by omega)
  have HSh1 := Lib.hid (fun B c W (h : Cloud W B n X Y V) => shift_any B n c X Y V a b W h)
  have HSh2 := Lib.hid (fun B c W (h : Cloud W B n (fun i => X i + a) (fun i => Y i + b) V) => (shift_any B n c (fun i => X i + a) (fun i => Y i + b) V (-a) (-b) W h))
  unfold ShPost at HSh1 HSh2
  rw [hn1] at HSh1
  rw [hn2] at HSh2
  have HBk : Hid (∀ B W, Cloud W B n (fun i => X i + a + -a) (fun i => Y i + b + -b) V → Cloud W B n X Y V) := Lib.hid (fun B W h => Cloud.back h)
  have HSg1 := Lib.hid (fun B c (hc : n ≤ c) W (h : Cloud W B n X Y V) => segments_any B n c X Y V g hc W h)
  have HSg2 := Lib.hid (fun B c (hc : n ≤ c) W (h : Cloud W B n (fun i => X i + a) (fun i => Y i + b) V) => segments_any B n c (fun i => X i + a) (fun i => Y i + b) V g hc W h)
  unfold SegAll at HSg1 HSg2
  have hs1 : segE n X Y V g = 0 := by unfold segE; rw [hok, if_neg (by simp), if_pos (by omega)]
  have hs2 : segE n (fun i => X i + a) (fun i => Y i + b) V g = 0 := by unfold segE; rw [hok2, if_neg (by simp), if_pos (by omega)]
  have HSame := Lib.hid (fun R R' => segs_same (n := n) (X := X) (Y := Y) (V := V) (gap := g) (R := R) (R' := R'))
  have HBd := Lib.hid (fun R => segs_bd (n := n) (X := X) (Y := Y) (V := V) (gap := g) (R := R) (by omega))
  rw [hs1] at HSg1 HSame HBd
  rw [hs2, HLk.out] at HSg2
  have HH1 := Lib.hid (fun B c W (h : Cloud W B n X Y V) => hull_any B n c X Y V W h)
  have HH2 := Lib.hid (fun B c W (h : Cloud W B n (fun i => X i + a) (fun i => Y i + b) V) => hull_any B n c (fun i => X i + a) (fun i => Y i + b) V W h)
  unfold HulAll at HH1 HH2
  rw [if_pos hok] at HH1
  rw [if_pos hok2, hsp] at HH2
  have hln : (hulL (celL (spF X Y) n)).length ≤ 1000 := by
    have h2 := hulL_len (celL (spF X Y) n)
    have h3 := celL_len (C := spF X Y) n
    omega
  obtain ⟨H, hH⟩ : ∃ H, H = hulL (celL (spF X Y) n) := ⟨_, rfl⟩
  rw [← hH] at HH1 HH2 hln HAr
  have hml : (H.map (trP (a, b))).length = H.length := List.length_map _
  obtain ⟨H2, hH2⟩ : ∃ H2, H2 = H.map (trP (a, b)) := ⟨_, rfl⟩
  have HMp : Hid (∀ i, i < H.length → lX H2 i = lX H i + a ∧ lY H2 i = lY H i + b) := Lib.hid (fun i hi => by rw [hH2]; exact lX_map (a, b) H hi)
  have HCo : Hid (∀ i, i < H.length → (-3000 ≤ lX H i ∧ lX H i ≤ 3000) ∧ (-3000 ≤ lY H i ∧ lY H i ≤ 3000)) := Lib.hid (fun i hi => by
    rw [hH] at hi ⊢
    obtain ⟨k, _, hk⟩ := hull_at hi
    have e1 : X k = lX (hulL (celL (spF X Y) n)) i := congrArg Prod.fst hk
    have e2 : Y k = lY (hulL (celL (spF X Y) n)) i := congrArg Prod.snd hk
    rw [← e1, ← e2]
    exact ⟨hbX k, hbY k⟩)
  rw [← hH2] at HH2 HAr hml
  have HSp2 : Hid (∀ (W : World) base v, W.ownsRow base 24 2 v H2.length (ptV H2) → ∃ A c, v = .slice A H.length c ∧ Spots W A H.length (lX H2) (lY H2)) := Lib.hid (fun W base v h => by
    have := hul_spots2 h
    rwa [hml] at this)
  obtain ⟨r, hr⟩ : ∃ r, r = areaF H.length (lX H) (lY H) := ⟨_, rfl⟩
  have HA1 := Lib.hid (fun B c W (h : Spots W B H.length (lX H) (lY H)) => area_any B H.length c (lX H) (lY H) r W h (by omega) (Lib.hid hr.symm))
  have hr2 : areaF H.length (lX H2) (lY H2) = r := by rw [hr, ← HAr.out, hml]
  have HA2 := Lib.hid (fun B c W (h : Spots W B H.length (lX H2) (lY H2)) => area_any B H.length c (lX H2) (lY H2) r W h (by omega) (Lib.hid hr2))
  have n1 : IntKind.i64.wrap (-a) = -a := IntWalk.i64_in _ (by omega)
  have n2 : IntKind.i64.wrap (-b) = -b := IntWalk.i64_in _ (by omega)
  clear hr hr2 hml hH hH2 hsp HAr hs1 hs2 hn1 hn2 HLk hbX2 hbY2
  obtain ⟨M, hM1, hM2, hM3, hM4, hM5⟩ : ∃ M, (M = a ∨ M = -a ∨ M = b ∨ M = -b) ∧ a ≤ M ∧ -a ≤ M ∧ b ≤ M ∧ -b ≤ M := ⟨max (max a (-a)) (max b (-b)), by omega, by omega, by omega, by omega, by omega⟩
  have HMx := Lib.hid (fun W => run_max4 a (-a) b (-b) M hM1 hM2 hM3 hM4 hM5 W)
  have hM0 : 0 ≤ M ∧ M ≤ 1000 := by omega
  have hin : inW (-a, -b) M = true := (inW_iff _ _).2 ⟨⟨by simp only; omega, by simp only; omega⟩, by simp only; omega, by simp only; omega⟩
  have hmo := reg_all (n := n) (X := X) (Y := Y) (a := a) (b := b) (s := u) (win := M) hu'.1 hin
  have hst := regI_in (n := n) (X := X) (Y := Y) (m := n) (X' := fun i => X i + a) (Y' := fun i => Y i + b) (win := M) (s := u) hM0.1 n
  have hiv := best_inv (n := n) (X := X) (Y := Y) (m := n) (X' := fun i => X i + a) (Y' := fun i => Y i + b) (win := M) (s := u)
  have hre : regE n X Y V n (fun i => X i + a) (fun i => Y i + b) V M u = 0 := by unfold regE; rw [hok, if_neg (by simp), hok2, if_neg (by simp), if_neg (by omega), if_pos (by omega)]
  have hrv : rgV n X Y V n (fun i => X i + a) (fun i => Y i + b) V M u = regI n X Y n (fun i => X i + a) (fun i => Y i + b) M u n := by unfold rgV; rw [if_pos hre]
  have HRg := Lib.hid (fun B c B' c' W (h : Cloud W B n X Y V) (h' : Cloud W B' n (fun i => X i + a) (fun i => Y i + b) V) => register_any B n c X Y V B' n c' (fun i => X i + a) (fun i => Y i + b) V M u W h h')
  unfold RegPost at HRg
  rw [hre, hrv] at HRg
  generalize regI n X Y n (fun i => X i + a) (fun i => Y i + b) M u n = st at hmo hst hiv HRg
  obtain ⟨⟨bx, bz⟩, mo⟩ := st
  replace hmo : mo = n := hmo
  subst hmo
  replace hst : inW (bx, bz) M = true := hst
  obtain ⟨⟨hw1, hw2⟩, hw3, hw4⟩ := (inW_iff _ _).1 hst
  simp only at hw1 hw2 hw3 hw4
  have HMt := Lib.hid (fun B c B' c' W (h : Cloud W B mo X Y V) (h' : Cloud W B' mo (fun i => X i + a) (fun i => Y i + b) V) => match_any B mo c X Y V B' mo c' (fun i => X i + a) (fun i => Y i + b) V bx bz u W h h')
  have hmt : matAny mo X Y V mo (fun i => X i + a) (fun i => Y i + b) V bx bz u = (mo : Int) := by
    rw [matAny_yes (by simp [matOk, hok, hok2, nearB]; omega)]
    have : mo = matF mo X Y mo (fun i => X i + a) (fun i => Y i + b) bx bz u := hiv
    rw [← this]
  rw [hmt] at HMt
  have n3 : IntKind.i64.wrap (-M) = -M := IntWalk.i64_in _ (by omega)
  have nn : (((mo : Nat) : Int) == ((mo : Nat) : Int)) = true := by simp
  clear hmt hre hrv hiv hst hin hM1 hM2 hM3 hM4 hM5
  have z0 : w2.cell? ⟨L5, 0, none⟩ = some (.int .i64 a) := hX2.cell 0
  have z1 : w2.cell? ⟨L5, 1, none⟩ = some (.int .i64 b) := hX2.cell 1
  have z2 := hX2.lt
  have rr : ((r : Int) != r) = false := by simp
  have ll : (((H.length : Nat) : Int) != ((H.length : Nat) : Int)) = false := by simp
  go_upto_region 17 with (first
    | (go_at_call 55; (with_reducible refine (HM1.out _).mono ?_); rintro e w3 ⟨rfl, rfl⟩)
    | (go_at_call 55; (with_reducible refine (HM2.out _).mono ?_); rintro e w4 ⟨rfl, rfl⟩)
    | (go_at_call 20; (with_reducible refine (HSh1.out B1 c1 _ hC2).mono ?_); rintro e w5 ⟨B5, c5, rfl, hle5, hC5, hb5⟩; have K5 := Lib.hid (below_step hB2 hb5); have L5l := Lib.hid (hC2.below hb5); have L5m := Lib.hid hC5; have L5e := Lib.hid hle5; have X5 := Lib.hid (box_step hX2 hb5); have p0 : w5.cell? ⟨L5, 0, none⟩ = some (.int .i64 a) := X5.out.cell 0; have p1 : w5.cell? ⟨L5, 1, none⟩ = some (.int .i64 b) := X5.out.cell 1; have p2 := X5.out.lt; clear hle5 hC5 hb5)
    | (go_at_call 20; (with_reducible refine (HSh2.out B5 c5 _ L5m.out).mono ?_); rintro e w6 ⟨B6, c6, rfl, hle6, hC6, hb6⟩; have K6 := Lib.hid (below_step K5.out hb6); have L6l := Lib.hid (L5l.out.below hb6); have L6m := Lib.hid (L5m.out.below hb6); have L6b := Lib.hid (HBk.out _ _ hC6); have X6 := Lib.hid (box_step X5.out hb6); clear hle6 hC6 hb6)
    | (go_at_call 24; (with_reducible refine (same_points B6 B1 mo c6 c1 X Y V _ (by omega) L6b.out L6l.out).mono ?_); rintro e w7 ⟨rfl, hb7⟩; have K7 := Lib.hid (below_step K6.out hb7); have L7l := Lib.hid (L6l.out.below hb7); have L7m := Lib.hid (L6m.out.below hb7); have X7 := Lib.hid (box_step X6.out hb7); clear hb7)
    | (go_at_call 34; (with_reducible refine (HSg1.out B1 c1 HLE1.out _ L7l.out).mono ?_); rintro e w8 ⟨R1, v1, rfl, _, hG1, hR1, hR1', hb8⟩; have K8 := Lib.hid (below_step K7.out hb8); have L8l := Lib.hid (L7l.out.below hb8); have L8m := Lib.hid (L7m.out.below hb8); have X8 := Lib.hid (box_step X7.out hb8); have G8 := Lib.hid hG1; have HR1 := Lib.hid hR1; have HR1' := Lib.hid hR1'; clear hb8 hG1 hR1 hR1')
    | (go_at_call 34; (with_reducible refine (HSg2.out B5 c5 L5e.out _ L8m.out).mono ?_); rintro e w9 ⟨R2, v2, rfl, _, hG2, hR2, hR2', hb9⟩; have hRR := HSame.out R1 R2 HR1.out HR1'.out hR2 hR2'; subst hRR; have K9 := Lib.hid (below_step K8.out hb9); have L9l := Lib.hid (L8l.out.below hb9); have L9m := Lib.hid (L8m.out.below hb9); have X9 := Lib.hid (box_step X8.out hb9); have G9 := Lib.hid (G8.out.below hb9); have G9' := Lib.hid hG2; clear hb9 hG2 hR2 hR2')
    | (go_at_call 36; (with_reducible refine (same_groups v1 v2 R1 _ (HBd.out R1 HR1.out HR1'.out).1 (HBd.out R1 HR1.out HR1'.out).2 G9.out G9'.out).mono ?_); rintro e w10 ⟨rfl, hb10⟩; have K10 := Lib.hid (below_step K9.out hb10); have L10l := Lib.hid (L9l.out.below hb10); have L10m := Lib.hid (L9m.out.below hb10); have X10 := Lib.hid (box_step X9.out hb10); clear hb10)
    | (go_at_call 42; (with_reducible refine (HH1.out B1 c1 _ L10l.out).mono ?_); rintro e w11 ⟨v11, ba11, rfl, ho11, hb11⟩; obtain ⟨A3, k3, rfl, hS3⟩ := hul_spots2 ho11; have K11 := Lib.hid (below_step K10.out hb11); have L11l := Lib.hid (L10l.out.below hb11); have L11m := Lib.hid (L10m.out.below hb11); have X11 := Lib.hid (box_step X10.out hb11); have S11 := Lib.hid hS3; clear hb11 ho11 hS3)
    | (go_at_call 42; (with_reducible refine (HH2.out B5 c5 _ L11m.out).mono ?_); rintro e w12 ⟨v12, ba12, rfl, ho12, hb12⟩; obtain ⟨A4, k4, rfl, hS4⟩ := HSp2.out _ _ _ ho12; have K12 := Lib.hid (below_step K11.out hb12); have L12l := Lib.hid (L11l.out.below hb12); have L12m := Lib.hid (L11m.out.below hb12); have X12 := Lib.hid (box_step X11.out hb12); have S12 := Lib.hid (S11.out.below hb12); have T12 := Lib.hid hS4; clear hb12 ho12 hS4)
    | (go_at_call 45; (with_reducible refine (HA1.out A3 k3 _ S12.out).mono ?_); rintro e w13 ⟨rfl, hb13⟩; have K13 := Lib.hid (below_step K12.out hb13); have L13l := Lib.hid (L12l.out.below hb13); have L13m := Lib.hid (L12m.out.below hb13); have X13 := Lib.hid (box_step X12.out hb13); have S13 := Lib.hid (S12.out.below hb13); have T13 := Lib.hid (T12.out.below hb13); clear hb13)
    | (go_at_call 45; (with_reducible refine (HA2.out A4 k4 _ T13.out).mono ?_); rintro e w14 ⟨rfl, hb14⟩; have K14 := Lib.hid (below_step K13.out hb14); have L14l := Lib.hid (L13l.out.below hb14); have L14m := Lib.hid (L13m.out.below hb14); have X14 := Lib.hid (box_step X13.out hb14); have S14 := Lib.hid (S13.out.below hb14); have T14 := Lib.hid (T13.out.below hb14); clear hb14))
  clear HSh1 HSh2 HBk HSg1 HSg2 HSame HBd HH1 HH2 HSp2 HA1 HA2 HM1 HM2 hC2 hB2 hX2 z0 z1 z2 p0 p1 p2 K5 K6 K7 K8 K9 K10 K11 K12 K13 L5l L5m L6l L6m L6b L7l L7m L8l L8m L9l L9m L10l L10m L11l L11m L12l L12m L13l L13m X5 X6 X7 X8 X9 X10 X11 X12 X13 S11 S12 S13 T12 T13 G8 G9 G9' HR1 HR1' rr ll
  generalize H.length = hl at *
  go_wp2
  go_loopw [20] (fun iv wr => ∃ k : Nat, k ≤ hl ∧ iv = .int .i64 k ∧ Hid (Below w14.heap.size w14 wr)) (fun iv _ => hl - (intOf iv).toNat)
  case atStart => exact ⟨0, Nat.zero_le _, rfl, Lib.hid (Below.refl _ _)⟩
  case round =>
    obtain ⟨k, hk, rfl, HBi⟩ := hrel
    have i0 : (0 : Int) ≤ (k : Int) := Int.natCast_nonneg _
    by_cases hlt : k < hl
    · have i1 : (k : Int) < (hl : Int) := by omega
      obtain ⟨b3, o3, e3, p3⟩ := S14.out (by omega)
      obtain ⟨b4, o4, e4, p4⟩ := T14.out (by omega)
      subst e3
      subst e4
      have g3 := p3.lt (by omega)
      have g4 := p4.lt (by omega)
      obtain ⟨c0, c1', _⟩ : _ ∧ _ ∧ True := ⟨((p3.below HBi.out g3) k hlt).1, ((p3.below HBi.out g3) k hlt).2, trivial⟩
      obtain ⟨c2, c3⟩ := (p4.below HBi.out g4) k hlt
      have l3 : b3 < wr.heap.size := Nat.lt_of_lt_of_le g3 HBi.out.size
      have l4 : b4 < wr.heap.size := Nat.lt_of_lt_of_le g4 HBi.out.size
      have XX := X14.out.below HBi.out X14.out.lt
      have d0 : wr.cell? ⟨L5, 0, none⟩ = some (.int .i64 a) := XX.cell 0
      have d1' : wr.cell? ⟨L5, 1, none⟩ = some (.int .i64 b) := XX.cell 1
      have l5 := XX.lt
      obtain ⟨m1, m2⟩ := HMp.out k hlt
      obtain ⟨⟨q1', q2'⟩, q3', q4'⟩ := HCo.out k hlt
      rw [m1] at c2
      rw [m2] at c3
      have v1 : IntKind.i64.wrap (lX H k + a) = lX H k + a := IntWalk.i64_in _ (by omega)
      have v2 : IntKind.i64.wrap (lY H k + b) = lY H k + b := IntWalk.i64_in _ (by omega)
      clear m1 m2 p3 p4 XX
      go_wp2_with fail
      go_quiet (fail)
      go_wp2
      go_roundw
      case rel => exact ⟨k + 1, by omega, by go_num, Lib.hid (below_drewN HBi.out _)⟩
      case measure => simp [intOf]; omega
    · obtain rfl : k = hl := by omega
      have i1 : ¬ (k : Int) < (k : Int) := by omega
      have KB := Lib.hid (K14.out.trans (HBi.out.mono K14.out.size))
      have CL := Lib.hid (L14l.out.below HBi.out)
      have CM := Lib.hid (L14m.out.below HBi.out)
      have XX := X14.out.below HBi.out X14.out.lt
      have d0 : wr.cell? ⟨L5, 0, none⟩ = some (.int .i64 a) := XX.cell 0
      have d1' : wr.cell? ⟨L5, 1, none⟩ = some (.int .i64 b) := XX.cell 1
      have l5 := XX.lt
      clear XX HBi
      go_upto_region 24 with (first
        | (rw [HMx.out])
        | (go_at_call 49; (with_reducible refine (HRg.out B1 c1 B5 c5 _ CL.out CM.out).mono ?_); rintro e w20 ⟨rfl, hb20⟩; have K20 := Lib.hid (below_step KB.out hb20); have C20 := Lib.hid (CL.out.below hb20); have D20 := Lib.hid (CM.out.below hb20); clear hb20))
      have hx := BoxAt.new w20 24 #[.int .i64 bx, .int .i64 bz]
      have hb6 : Below w20.heap.size w20 (w20.alloc (.cells #[.int .i64 bx, .int .i64 bz] 24)) := (Below.refl _ w20).alloc (Nat.le_refl _) _
      obtain ⟨L22, hL22⟩ : ∃ z, z = w20.heap.size := ⟨_, rfl⟩
      rw [← hL22] at hx ⊢
      have K21 := Lib.hid (below_step K20.out hb6)
      have C21 := Lib.hid (C20.out.below hb6)
      have D21 := Lib.hid (D20.out.below hb6)
      clear hL22 hb6 K20 C20 D20
      generalize w20.alloc (.cells #[.int .i64 bx, .int .i64 bz] 24) = w21 at *
      have x0 : w21.cell? ⟨L22, 0, none⟩ = some (.int .i64 bx) := hx.cell 0
      have x1 : w21.cell? ⟨L22, 1, none⟩ = some (.int .i64 bz) := hx.cell 1
      have lx := hx.lt
      have HX21 := Lib.hid hx
      clear hx
      go_wp2_with (first
        | (go_at_call 51; (with_reducible refine (HMt.out B1 c1 B5 c5 _ C21.out D21.out).mono ?_); rintro e w22 ⟨rfl, hb22⟩; have K22 := Lib.hid (below_step K21.out hb22); have X22 := box_step HX21.out hb22; have x2 : w22.cell? ⟨L22, 0, none⟩ = some (.int .i64 bx) := X22.cell 0; have x3 : w22.cell? ⟨L22, 1, none⟩ = some (.int .i64 bz) := X22.cell 1; have lx2 := X22.lt; clear hb22 X22)
        | (go_at_call 16; (with_reducible refine (awake_any _).mono ?_); rintro e w23 ⟨rfl, hb23⟩; have K23 := Lib.hid (below_step K22.out hb23)))
      go_ret
      exact ⟨rfl, K23.out⟩
end Go.Proofs.Ytaehfildhmljeaa

namespace Go.Proofs.Ytaehfildhmljeaa
open Go.ChangeShapes Go.WideShapes Go.ChangeAt Go.RowKit Go.Joins Go.Deep

set_option maxRecDepth 100000 in
theorem cshifts_lifted (os : Os) (started : os.Started) (H : Type) (enc : TypeId × Value → H) :
    ReturnsInHanded {} Try.checked os 13 .any (Rows.cloudShiftsSpec.pre6 enc Try.prog Try.f13 Rows.cloudShiftsRow.domain false) (Rows.cloudShiftsSpec.post enc Try.prog Try.f13 false true false false) := by
  refine returnsInHanded_of_change (C := Try.checked) ownK started (by kernel_rfl) Try.func13
    (ChangeSpec.witness6 (enc := enc) (C := Try.checked) false ⟨#[], #[.slice none 0 0, .agg #[.int .i64 0, .int .i64 0], .int .i64 0, .int .i64 0], []⟩ 8 (by kernel_rfl) (by kernel_rfl) (by kernel_rfl) (by kernel_rfl)) ?_
  intro W base args ds gs before hval0 hW hcnd _
  have hval : ∀ (j : Nat) t v, Try.f13.params[j]? = some t → args[j]? = some v → Value.okWide Try.prog W .any base t v := hval0
  have hW' := hW
  obtain ⟨p, q, hA0, hV, rfl, hfz, hnd⟩ := hW
  have hA : DataW.TrodAll enc Try.prog W 0 (fun _ => true) true Try.f13.params.toList args.toList ds p := hA0
  rw [Try.params13] at hA hval
  obtain ⟨v0, vs0, d0, ds0, p0, q0, hargs, rfl, rfl, h0, r0⟩ := trodAll_cons hA
  obtain ⟨v1, vs1, d1, ds1, p1, q1, rfl, rfl, rfl, h1, r1⟩ := trodAll_cons r0
  obtain ⟨v2, vs2, d2, ds2, p2, q2, rfl, rfl, rfl, h2, r2⟩ := trodAll_cons r1
  obtain ⟨v3, vs3, d3, ds3, p3, q3, rfl, rfl, rfl, h3, r3⟩ := trodAll_cons r2
  obtain ⟨rfl, rfl, rfl⟩ := trodAll_nil r3
  obtain rfl : args = #[v0, v1, v2, v3] := by cases args; simp_all
  obtain ⟨rfl, rfl⟩ := trodVars_none hV
  obtain ⟨A, n, c1, S, rfl, hn1, hS⟩ := open_nums (hval 0 70 v0 rfl rfl) h0
  obtain ⟨a, b, rfl⟩ := open_spot (hval 1 24 v1 rfl rfl) h1
  obtain ⟨win, rfl, rfl, rfl, _⟩ := open_int Try.underlying2 (hval 2 2 v2 rfl rfl) h2
  obtain ⟨s, rfl, rfl, rfl, _⟩ := open_int Try.underlying2 (hval 3 2 v3 rfl rfl) h3
  refine (cshifts_walk A n c1 S a b win s hn1 W hS).mono fun e W' ⟨he, hn⟩ => ?_
  subst he
  exact ⟨_, rfl, law_post rfl rfl (by kernel_rfl) rfl rfl rfl hW' hn⟩

theorem cshifts_holds : Rows.CloudShiftsSaid :=
  OpenClaim.holds_of_wide 13 Try.f13 rfl rfl rfl rfl rfl rfl rfl ⟨rfl, rfl, rfl, rfl, rfl⟩ rfl rfl rfl rfl rfl (by kernel_rfl) Try.func13 (by kernel_rfl)
    (of_decide_eq_true (by kernel_rfl)) (by unfold Func.isWrapper; first | (rw [if_pos (by decide +kernel)]; kernel_rfl) | (rw [if_neg (by decide +kernel)]; exact ⟨rfl, rfl⟩))
    (fun os started H enc _ => cshifts_lifted os started H enc)
#print axioms cshifts_holds
end Go.Proofs.Ytaehfildhmljeaa
