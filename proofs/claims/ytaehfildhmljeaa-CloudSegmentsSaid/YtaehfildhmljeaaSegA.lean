/- Segments of any cloud and any gap, the program's and the reference's. -/
import Derived.Test.YtaehfildhmljeaaRSeg
import Derived.Test.YtaehfildhmljeaaGrp
namespace Go.Proofs.Ytaehfildhmljeaa
open Go.RowKit Go.Shelf

/-- What error Segments returns. -/
def segE (n : Nat) (X Y V : Nat → Int) (gap : Int) : Int := if chkF n X Y V ≠ 0 then chkF n X Y V else if 0 ≤ gap ∧ gap ≤ 33554432 then 0 else 2
def SegAll (n : Nat) (X Y V : Nat → Int) (gap : Int) (w : World) (e : Ending) (w' : World) : Prop :=
  ∃ R v, e = .returned (.tuple #[v, .int .i64 (segE n X Y V gap)]) ∧ True ∧ Grps w' v R ∧ (segE n X Y V gap = 0 → ∃ L, Lab (lnkF X Y gap) n L ∧ R = rowsL L n) ∧ (segE n X Y V gap ≠ 0 → R = []) ∧ Below w.heap.size w w'
theorem SegAll.nil {n : Nat} {X Y V : Nat → Int} {gap z : Int} {w w' : World} (h : segE n X Y V gap = z) (hz : z ≠ 0) (hb : Below w.heap.size w w') : SegAll n X Y V gap w (.returned (.tuple #[.slice none 0 0, .int .i64 z])) w' :=
  ⟨[], _, by rw [h], trivial, ⟨w'.heap.size, segs_none _ _⟩, fun e => absurd (h.symm.trans e) hz, fun _ => rfl, hb⟩

set_option maxHeartbeats 4000000 in
theorem segments_any (A : Option Addr) (n cap : Nat) (X Y V : Nat → Int) (gap : Int) (hc : n ≤ cap) (w : World) (hcl : Cloud w A n X Y V) :
    Calls Try.prog 34 #[.slice A n cap, .int .i64 gap] w (SegAll n X Y V gap w) := by
  have HK := Lib.hid (check_any A n cap X Y V w hcl)
  by_cases hok : chkF n X Y V = 0
  · by_cases h : 0 ≤ gap ∧ gap ≤ 33554432
    · refine (segments_good A n cap X Y V gap hok h.1 h.2 hc w hcl).mono ?_
      rintro e w' ⟨L, v, h1, rfl, h3, h4⟩
      have he : segE n X Y V gap = 0 := by unfold segE; rw [hok, if_neg (by simp), if_pos h]
      exact ⟨rowsL L n, v, by rw [he], trivial, ⟨w.heap.size, h3⟩, fun _ => ⟨L, h1, rfl⟩, fun hh => absurd he hh, h4⟩
    · have HE : Hid (segE n X Y V gap = 2) := Lib.hid (by unfold segE; rw [hok, if_neg (by simp), if_neg h])
      rw [hok] at HK
      by_cases h0 : gap < 0
      · clear hok h hcl
        go_enter Try.func34, Try.ntmps34
        go_wp2_with (go_at_call 22; (with_reducible refine HK.out.mono ?_); rintro e w1 ⟨rfl, hb1⟩)
        exact bodyPost_ret (v := .tuple #[.slice none 0 0, .int .i64 2]) (by simp [results, Try.results34, go_sem]) rfl (SegAll.nil HE.out (by decide) hb1)
      · have h1 : 33554432 < gap := by omega
        clear hok h hcl
        go_enter Try.func34, Try.ntmps34
        go_wp2_with (go_at_call 22; (with_reducible refine HK.out.mono ?_); rintro e w1 ⟨rfl, hb1⟩)
        exact bodyPost_ret (v := .tuple #[.slice none 0 0, .int .i64 2]) (by simp [results, Try.results34, go_sem]) rfl (SegAll.nil HE.out (by decide) hb1)
  · have HE : Hid (segE n X Y V gap = chkF n X Y V) := Lib.hid (by unfold segE; rw [if_pos hok])
    obtain ⟨z, hz⟩ : ∃ z, z = chkF n X Y V := ⟨_, rfl⟩
    rw [← hz] at HK HE hok
    have HZ := Lib.hid hok
    clear hcl hz
    go_enter Try.func34, Try.ntmps34
    go_wp2_with (go_at_call 22; (with_reducible refine HK.out.mono ?_); rintro e w1 ⟨rfl, hb1⟩)
    exact bodyPost_ret (v := .tuple #[.slice none 0 0, .int .i64 z]) (by simp [results, Try.results34, go_sem]) rfl (SegAll.nil HE.out HZ.out hb1)

set_option maxHeartbeats 4000000 in
theorem rsegments_any (A : Option Addr) (n cap : Nat) (X Y V : Nat → Int) (gap : Int) (w : World) (hcl : Cloud w A n X Y V) :
    Calls Try.prog 35 #[.slice A n cap, .int .i64 gap] w (SegAll n X Y V gap w) := by
  have HK := Lib.hid (rcheck_any A n cap X Y V w hcl)
  by_cases hok : chkF n X Y V = 0
  · by_cases h : 0 ≤ gap ∧ gap ≤ 33554432
    · refine (rsegments_good A n cap X Y V gap hok h.1 h.2 w hcl).mono ?_
      rintro e w' ⟨L, v, h1, rfl, h3, h4⟩
      have he : segE n X Y V gap = 0 := by unfold segE; rw [hok, if_neg (by simp), if_pos h]
      exact ⟨rowsL L n, v, by rw [he], trivial, ⟨w.heap.size, h3⟩, fun _ => ⟨L, h1, rfl⟩, fun hh => absurd he hh, h4⟩
    · have HE : Hid (segE n X Y V gap = 2) := Lib.hid (by unfold segE; rw [hok, if_neg (by simp), if_neg h])
      rw [hok] at HK
      by_cases h0 : gap < 0
      · clear hok h hcl
        go_enter Try.func35, Try.ntmps35
        go_wp2_with (go_at_call 23; (with_reducible refine HK.out.mono ?_); rintro e w1 ⟨rfl, hb1⟩)
        exact bodyPost_ret (v := .tuple #[.slice none 0 0, .int .i64 2]) (by simp [results, Try.results35, go_sem]) rfl (SegAll.nil HE.out (by decide) hb1)
      · have h1 : 33554432 < gap := by omega
        clear hok h hcl
        go_enter Try.func35, Try.ntmps35
        go_wp2_with (go_at_call 23; (with_reducible refine HK.out.mono ?_); rintro e w1 ⟨rfl, hb1⟩)
        exact bodyPost_ret (v := .tuple #[.slice none 0 0, .int .i64 2]) (by simp [results, Try.results35, go_sem]) rfl (SegAll.nil HE.out (by decide) hb1)
  · have HE : Hid (segE n X Y V gap = chkF n X Y V) := Lib.hid (by unfold segE; rw [if_pos hok])
    obtain ⟨z, hz⟩ : ∃ z, z = chkF n X Y V := ⟨_, rfl⟩
    rw [← hz] at HK HE hok
    have HZ := Lib.hid hok
    clear hcl hz
    go_enter Try.func35, Try.ntmps35
    go_wp2_with (go_at_call 23; (with_reducible refine HK.out.mono ?_); rintro e w1 ⟨rfl, hb1⟩)
    exact bodyPost_ret (v := .tuple #[.slice none 0 0, .int .i64 z]) (by simp [results, Try.results35, go_sem]) rfl (SegAll.nil HE.out HZ.out hb1)

theorem lab_rows {lnk : Nat → Nat → Bool} {n : Nat} {L L' : Nat → Nat} (h : Lab lnk n L) (h' : Lab lnk n L') : rowsL L n = rowsL L' n :=
  rowsL_ext (fun _ hk => h.uniq h' hk) h.le
/-- Both have the same rows. -/
theorem segs_same {n : Nat} {X Y V : Nat → Int} {gap : Int} {R R' : List (List Nat)} (h1 : segE n X Y V gap = 0 → ∃ L, Lab (lnkF X Y gap) n L ∧ R = rowsL L n) (h2 : segE n X Y V gap ≠ 0 → R = [])
    (h3 : segE n X Y V gap = 0 → ∃ L, Lab (lnkF X Y gap) n L ∧ R' = rowsL L n) (h4 : segE n X Y V gap ≠ 0 → R' = []) : R = R' := by
  by_cases h : segE n X Y V gap = 0
  · obtain ⟨L, a, rfl⟩ := h1 h
    obtain ⟨L', a', rfl⟩ := h3 h
    exact lab_rows a a'
  · rw [h2 h, h4 h]
theorem segs_bd {n : Nat} {X Y V : Nat → Int} {gap : Int} {R : List (List Nat)} (hn : n ≤ 1000000) (h1 : segE n X Y V gap = 0 → ∃ L, Lab (lnkF X Y gap) n L ∧ R = rowsL L n) (h2 : segE n X Y V gap ≠ 0 → R = []) :
    R.length ≤ 1000000 ∧ ∀ k (h : k < R.length), R[k].length ≤ 1000000 := by
  by_cases h : segE n X Y V gap = 0
  · obtain ⟨L, a, rfl⟩ := h1 h
    refine ⟨?_, fun k hk => ?_⟩
    · rw [rowsL_len]
      exact Nat.le_trans (cnt_le L n) hn
    · exact Nat.le_trans (rowsL_bd L n k _ (List.getElem?_eq_getElem hk)) hn
  · rw [h2 h]
    exact ⟨Nat.zero_le _, fun k hk => by simp at hk⟩
end Go.Proofs.Ytaehfildhmljeaa
