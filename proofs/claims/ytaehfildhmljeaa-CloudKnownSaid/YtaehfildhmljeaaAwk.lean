/- SameGroups of two rows of the same rows of numbers. shown: the drawn points. The chapter's examples that every statement asks. -/
import Derived.Test.YtaehfildhmljeaaSIn
import Derived.Test.YtaehfildhmljeaaSegL
import Derived.Test.YtaehfildhmljeaaCho
import Derived.Test.YtaehfildhmljeaaBd
import Derived.Test.YtaehfildhmljeaaSegW
namespace Go.Proofs.Ytaehfildhmljeaa
open Go.RowKit Go.Shelf

/-- Rows of numbers, owned from some block on. -/
def Grps (W : World) (v : Value) (R : List (List Nat)) : Prop := ∃ base, SegsAt W base v R
theorem Grps.below {W W' : World} {v : Value} {R : List (List Nat)} (h : Grps W v R) (hb : Below W.heap.size W W') : Grps W' v R := by
  obtain ⟨base, h⟩ := h
  exact ⟨base, h.below hb⟩
theorem Grps.form {W : World} {v : Value} {R : List (List Nat)} (h : Grps W v R) : ∃ A c, v = .slice A R.length c := by
  obtain ⟨base, xs, h1, h, _⟩ := h
  by_cases h0 : R.length = 0
  · rcases h.2 with ⟨rfl, h2⟩ | ⟨g, cap, cur, rfl, _⟩
    · exact ⟨none, 0, by rw [h0]⟩
    · exact ⟨_, _, rfl⟩
  · obtain ⟨g, c, rfl, _⟩ := h.form (by omega)
    exact ⟨_, _, rfl⟩
theorem Grps.cell {W : World} {A : Option Addr} {c : Nat} {R : List (List Nat)} (h : Grps W (.slice A R.length c) R) {k : Nat} (hk : k < R.length) :
    ∃ g x, A = some ⟨g, 0, none⟩ ∧ Row W x R[k] ∧ W.cell? ⟨g, k, none⟩ = some x := by
  obtain ⟨base, xs, h1, h, h3, _⟩ := h
  obtain ⟨g, cap, hv, hg, _⟩ := h.form (by omega)
  obtain ⟨rfl, rfl⟩ : A = some ⟨g, 0, none⟩ ∧ c = cap := by simpa using hv
  have hx : xs[k]? = some xs[k] := List.getElem?_eq_getElem (by omega)
  refine ⟨g, xs[k], rfl, ⟨base, h3 k _ _ hx (List.getElem?_eq_getElem hk)⟩, ?_⟩
  have := World.ownsRow.cellAt h k (by omega)
  rw [this, hx]

set_option maxHeartbeats 4000000 in
theorem same_groups (v1 v2 : Value) (R : List (List Nat)) (w : World) (hn : R.length ≤ 1000000) (hr : ∀ k (h : k < R.length), R[k].length ≤ 1000000) (h1 : Grps w v1 R) (h2 : Grps w v2 R) :
    Calls Try.prog 36 #[v1, v2] w fun e w' => e = .returned (.bool true) ∧ Below w.heap.size w w' := by
  obtain ⟨A1, c1, rfl⟩ := h1.form
  obtain ⟨A2, c2, rfl⟩ := h2.form
  have H1 := Lib.hid h1
  have H2 := Lib.hid h2
  have HRR := Lib.hid hr
  clear h1 h2 hr
  obtain ⟨n, hn'⟩ : ∃ n, n = R.length := ⟨_, rfl⟩
  rw [← hn'] at hn ⊢
  have HN := Lib.hid hn'
  clear hn'
  go_enter Try.func36, Try.ntmps36
  go_wp2
  go_loopw [5] (fun i wr => ∃ k : Nat, k ≤ n ∧ i = .int .i64 k ∧ Hid (Below w.heap.size w wr)) (fun i _ => n - (intOf i).toNat)
  case atStart => exact ⟨0, Nat.zero_le _, rfl, Lib.hid (Below.refl _ _)⟩
  case round =>
    obtain ⟨k, hk, rfl, HB⟩ := hrel
    by_cases hlt : k < n
    · obtain ⟨g1, x1, rfl, hx1, d0⟩ := (H1.out.below HB.out).cell (k := k) (by rw [← HN.out]; exact hlt)
      obtain ⟨g2, x2, rfl, hx2, d1⟩ := (H2.out.below HB.out).cell (k := k) (by rw [← HN.out]; exact hlt)
      obtain ⟨Ax, cx, rfl⟩ := hx1.form
      obtain ⟨Ay, cy, rfl⟩ := hx2.form
      have i1 : (0 : Int) ≤ (k : Int) := Int.natCast_nonneg _
      have i2 : (k : Int) < (n : Int) := by omega
      have l1 := World.block_lt_of_cell? wr _ d0
      have l2 := World.block_lt_of_cell? wr _ d1
      have HS := Lib.hid (fun (W : World) (hW : Below wr.heap.size wr W) => same_ints _ _ _ W (HRR.out k (by rw [← HN.out]; exact hlt)) (hx1.below hW) (hx2.below hW))
      have hBr := Below.refl wr.heap.size wr
      clear hx1 hx2
      obtain ⟨q, hq⟩ : ∃ q, q = (R[k]'(by rw [← HN.out]; exact hlt)).length := ⟨_, rfl⟩
      rw [← hq] at HS d0 d1
      clear hq
      go_upto_region 6 with fail
      go_cut [26] from 17 to 26 (fun v w' => v = .bool false ∧ Below wr.heap.size wr w')
      case first =>
        go_region_held3 (fun w' => w'.cell? ⟨g1, k, none⟩ = some (.slice Ax q cx) ∧ w'.cell? ⟨g2, k, none⟩ = some (.slice Ay q cy))
          (first | exact ⟨d0, d1⟩ | go_keep | (exact ⟨(Below.cell (w := wr) (B := wr.heap.size) hBw l1).trans d0, (Below.cell (w := wr) (B := wr.heap.size) hBw l2).trans d1⟩))
          (first | (go_at_call 27; (with_reducible refine (HS.out wr.drew (Below.drew (Below.refl _ _))).mono ?_); rintro e w1 ⟨rfl, hb1⟩; have hBw : Below wr.heap.size wr w1 := below_step (Below.drew (Below.refl _ _)) hb1))
        all_goals go_wp2
        all_goals go_meet
        exact ⟨rfl, hBw⟩
      case rest =>
        obtain ⟨wx, rfl⟩ : ∃ x : World, x = wc := ⟨_, rfl⟩
        obtain ⟨rfl, hB⟩ := hcut
        have HB2 := Lib.hid (below_step HB.out hB)
        clear hB
        go_wp2
        go_roundw
        case rel => exact ⟨k + 1, by omega, by go_num, HB2⟩
        case measure => simp [intOf]; omega
    · obtain rfl : k = n := by omega
      go_wp2
      go_ret
      exact ⟨rfl, HB.out⟩
end Go.Proofs.Ytaehfildhmljeaa

namespace Go.Proofs.Ytaehfildhmljeaa
open Go.RowKit Go.Shelf

def shX : Nat → Int := fun i => #[0, 300, 2000, 2000, 300].getD i 0
def shY : Nat → Int := fun i => #[0, 400, 0, 100, 400].getD i 0
def shV : Nat → Int := fun i => #[0, 5, 0, 7, 9].getD i 0

theorem shown_any (w : World) : Calls Try.prog 53 #[] w fun e w' => ∃ g, e = .returned (.slice (some ⟨g, 0, none⟩) 5 5) ∧ Clo w' g 0 5 shX shY shV ∧ w.heap.size ≤ g ∧ Below w.heap.size w w' := by
  go_enter Try.func53, Try.ntmps53
  go_wp2
  go_ret
  refine ⟨_, rfl, ?_, Nat.le_refl _, (Below.refl _ w).alloc (Nat.le_refl _) _⟩
  have hq := BoxAt.new w 69 #[.int .i64 0, .int .i64 0, .int .i64 0, .int .i64 300, .int .i64 400, .int .i64 5, .int .i64 2000, .int .i64 0, .int .i64 0, .int .i64 2000, .int .i64 100, .int .i64 7, .int .i64 300, .int .i64 400, .int .i64 9]
  intro i hi
  have : i = 0 ∨ i = 1 ∨ i = 2 ∨ i = 3 ∨ i = 4 := by omega
  rcases this with rfl | rfl | rfl | rfl | rfl <;> exact ⟨hq.cell _, hq.cell _, hq.cell _⟩
end Go.Proofs.Ytaehfildhmljeaa

namespace Go.Proofs.Ytaehfildhmljeaa
open Go.RowKit Go.Shelf

def shL : Nat → Nat := fun i => #[0, 0, 2, 2, 0].getD i 0
theorem sh_ok : chkF 5 shX shY shV = 0 := by decide +kernel
theorem sh_eq : ∀ i, i < 5 → ∀ k, k < 5 → lnkF shX shY 500 i k = true → shL i = shL k := by decide +kernel
theorem sh_lab : Lab (lnkF shX shY 500) 5 shL where
  le := by decide +kernel
  con := fun i hi => by
    have : i = 0 ∨ i = 1 ∨ i = 2 ∨ i = 3 ∨ i = 4 := by omega
    rcases this with rfl | rfl | rfl | rfl | rfl
    · exact Conn.refl 0
    · exact Conn.link (by omega) (by decide) (by decide +kernel)
    · exact Conn.refl 2
    · exact Conn.link (by omega) (by decide) (by decide +kernel)
    · exact Conn.link (by omega) (by decide) (by decide +kernel)
  eq := fun i k hi hk h => sh_eq i hi k hk h
theorem sh_rows : rowsL shL 5 = [[0, 1, 4], [2, 3]] := by decide +kernel
theorem sh_near : nearF shX shY shV 5 0 0 499 = [0] := by decide +kernel

theorem Grps.alloc {W : World} {v : Value} {R : List (List Nat)} (h : Grps W v R) (o : Obj) : Grps (W.alloc o) v R := h.below ((Below.refl _ W).alloc (Nat.le_refl _) o)
theorem Row.alloc {W : World} {v : Value} {l : List Nat} (h : Row W v l) (o : Obj) : Row (W.alloc o) v l := h.below ((Below.refl _ W).alloc (Nat.le_refl _) o)
theorem lit_grps (W : World) :
    Grps (((W.alloc (.cells #[.int .i64 0, .int .i64 1, .int .i64 4] 3)).alloc (.cells #[.int .i64 2, .int .i64 3] 3)).alloc (.cells #[.slice (some ⟨W.heap.size, 0, none⟩) 3 3, .slice (some ⟨W.heap.size + 1, 0, none⟩) 2 2] 41))
      (.slice (some ⟨W.heap.size + 2, 0, none⟩) 2 2) [[0, 1, 4], [2, 3]] := by
  have h1 := World.ownsRow_lit (base := 0) (e := 3) (size := 1) W #[.int .i64 0, .int .i64 1, .int .i64 4] 3 (Nat.zero_le _) (by decide) rfl
  have h2 := World.ownsRow_lit (base := 0) (e := 3) (size := 1) (W.alloc (.cells #[.int .i64 0, .int .i64 1, .int .i64 4] 3)) #[.int .i64 2, .int .i64 3] 2 (Nat.zero_le _) (by decide) rfl
  have h3 := World.ownsRow_lit (base := 0) (e := 41) (size := 1) ((W.alloc (.cells #[.int .i64 0, .int .i64 1, .int .i64 4] 3)).alloc (.cells #[.int .i64 2, .int .i64 3] 3)) #[.slice (some ⟨W.heap.size, 0, none⟩) 3 3, .slice (some ⟨W.heap.size + 1, 0, none⟩) 2 2] 2 (Nat.zero_le _) (by decide) rfl
  rw [World.size_alloc] at h2
  rw [World.size_alloc, World.size_alloc] at h3
  have h1' := (h1.alloc (.cells #[.int .i64 2, .int .i64 3] 3)).alloc (.cells #[.slice (some ⟨W.heap.size, 0, none⟩) 3 3, .slice (some ⟨W.heap.size + 1, 0, none⟩) 2 2] 41)
  have h2' := h2.alloc (.cells #[.slice (some ⟨W.heap.size, 0, none⟩) 3 3, .slice (some ⟨W.heap.size + 1, 0, none⟩) 2 2] 41)
  refine ⟨0, _, rfl, h3, ?_, ?_⟩
  · intro a x r hx hr
    match a with
    | 0 =>
      obtain rfl := Option.some.inj hx
      obtain rfl := Option.some.inj hr
      exact h1'
    | 1 =>
      obtain rfl := Option.some.inj hx
      obtain rfl := Option.some.inj hr
      exact h2'
    | a + 2 => cases hx
  · intro a b x y hx hy hab
    match a, b with
    | 0, 0 => exact absurd rfl hab
    | 1, 1 => exact absurd rfl hab
    | 0, 1 =>
      obtain rfl := Option.some.inj hx
      obtain rfl := Option.some.inj hy
      exact Or.inr (by simp [Value.ownBlock])
    | 1, 0 =>
      obtain rfl := Option.some.inj hx
      obtain rfl := Option.some.inj hy
      exact Or.inr (by simp [Value.ownBlock])
    | a + 2, _ => cases hx
    | 0, b + 2 => cases hy
    | 1, b + 2 => cases hy
theorem lit_row (W : World) : Row (W.alloc (.cells #[.int .i64 0] 3)) (.slice (some ⟨W.heap.size, 0, none⟩) 1 1) [0] :=
  ⟨0, World.ownsRow_lit (base := 0) (e := 3) (size := 1) W #[.int .i64 0] 1 (Nat.zero_le _) (by decide) rfl⟩

theorem seg_shown (g : Nat) (w : World) (hc : Clo w g 0 5 shX shY shV) :
    Calls Try.prog 34 #[.slice (some ⟨g, 0, none⟩) 5 5, .int .i64 500] w fun e w' => ∃ A c, e = .returned (.tuple #[.slice A 2 c, .int .i64 0]) ∧ Grps w' (.slice A 2 c) [[0, 1, 4], [2, 3]] ∧ Below w.heap.size w w' := by
  refine (segments_good (some ⟨g, 0, none⟩) 5 5 shX shY shV 500 sh_ok (by decide) (by decide) (Nat.le_refl _) w (fun _ => ⟨g, 0, rfl, hc⟩)).mono ?_
  rintro e w' ⟨L, v, hL, rfl, hS, hb⟩
  have hr : rowsL L 5 = [[0, 1, 4], [2, 3]] := by
    rw [rowsL_ext (fun k hk => hL.uniq sh_lab hk) hL.le]
    exact sh_rows
  rw [hr] at hS
  obtain ⟨A, c, rfl⟩ := Grps.form ⟨_, hS⟩
  exact ⟨A, c, rfl, ⟨_, hS⟩, hb⟩
theorem near_shown (g : Nat) (w : World) (hc : Clo w g 0 5 shX shY shV) :
    Calls Try.prog 30 #[.slice (some ⟨g, 0, none⟩) 5 5, .agg #[.int .i64 0, .int .i64 0], .int .i64 499] w fun e w' => ∃ A c, e = .returned (.slice A 1 c) ∧ Row w' (.slice A 1 c) [0] ∧ Below w.heap.size w w' := by
  refine (near_any (some ⟨g, 0, none⟩) 5 5 shX shY shV 0 0 499 w (fun _ => ⟨g, 0, rfl, hc⟩)).mono ?_
  rintro e w' ⟨r, rfl, hr, hb⟩
  rw [sh_near] at hr
  obtain ⟨A, c, rfl⟩ := hr.form
  exact ⟨A, c, rfl, hr, hb⟩
theorem bound_shown (w : World) : Calls Try.prog 39 #[.int .i64 1000] w fun e w' => e = .returned (.int .i64 1413) ∧ Below w.heap.size w w' := by
  have := bound_any 1000 w
  rw [bnd_1000] at this
  exact this

set_option maxRecDepth 100000 in
set_option maxHeartbeats 4000000 in
theorem awake_any (w : World) : Calls Try.prog 16 #[] w fun e w' => e = .returned (.bool true) ∧ Below w.heap.size w w' := by
  have hB := Below.refl w.heap.size w
  go_enter Try.func16, Try.ntmps16
  go_wp2_with (first
    | (go_at_call 53; (with_reducible refine (shown_any _).mono ?_); rintro e w1 ⟨g, rfl, hc, _, hb1⟩; replace hB := below_step hB hb1)
    | (go_at_call 34; (with_reducible refine (seg_shown _ _ hc).mono ?_); rintro e w1 ⟨A, c, rfl, hg, hb1⟩; replace hB := below_step hB hb1)
    | (go_at_call 36; (with_reducible refine (same_groups _ _ _ _ (by decide) (by decide) (((hg.alloc _).alloc _).alloc _) (lit_grps _)).mono ?_); rintro e w1 ⟨rfl, hb1⟩; replace hB := below_step (((hB.alloc hB.size _).alloc (by have := hB.size; simp; omega) _).alloc (by have := hB.size; simp; omega) _) hb1)
    | (go_at_call 39; (with_reducible refine (bound_shown _).mono ?_); rintro e w1 ⟨rfl, hb1⟩; replace hB := below_step hB hb1)
    | (go_at_call 30; (with_reducible refine (near_shown _ _ hc).mono ?_); rintro e w1 ⟨A, c, rfl, hg, hb1⟩; replace hB := below_step hB hb1)
    | (go_at_call 27; (with_reducible refine (same_ints _ _ [0] _ (by decide) (hg.alloc _) (lit_row _)).mono ?_); rintro e w1 ⟨rfl, hb1⟩; replace hB := below_step (hB.alloc hB.size _) hb1))
  go_ret
  exact ⟨rfl, hB⟩
#print axioms awake_any
end Go.Proofs.Ytaehfildhmljeaa
