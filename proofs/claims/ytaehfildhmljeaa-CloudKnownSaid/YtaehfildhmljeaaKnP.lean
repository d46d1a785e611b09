/- PROVED HERE: CloudKnown returns true.
   Conditions: none beyond the given row's own (it takes no argument). The file holds Within, the chapter's examples one by one, the walk, then the law. -/
import Derived.Test.YtaehfildhmljeaaCho
import Derived.Test.YtaehfildhmljeaaRChC
import Derived.BigQuiet
import Derived.Test.YtaehfildhmljeaaHulF
import Derived.Test.YtaehfildhmljeaaRIn
import Derived.Test.YtaehfildhmljeaaAwk
import Derived.Test.YtaehfildhmljeaaIdxW
import Derived.Test.YtaehfildhmljeaaNsA
import Derived.Test.YtaehfildhmljeaaHlG
import Derived.Test.YtaehfildhmljeaaRegA
import Derived.Test.YtaehfildhmljeaaAro
import Derived.Test.YtaehfildhmljeaaShfW
import Derived.Test.YtaehfildhmljeaaRows
import Derived.WalkKit
import Derived.ProofKit
import Derived.OpenShut
import Derived.Carry
import Derived.Lib.SmallJoins
import Derived.Test.YtaehfildhmljeaaSegL
import Derived.Deep.Slices
import Derived.Deep.Fields
import Derived.ChangeSame
namespace Go.Proofs.Ytaehfildhmljeaa
open Go.RowKit Go.Shelf

set_option maxRecDepth 100000 in
set_option maxHeartbeats 8000000 in
/-- chosen, with Within's function. -/
theorem chosen_with (A : Option Addr) (n cap : Nat) (X Y V : Nat → Int) (p : Nat → Bool) (L1 : Nat) (w : World) (hcl : Cloud w A n X Y V)
    (HP : ∀ k, k < n → ∀ W, Below w.heap.size w W → Calls Try.prog 72 #[sp (X k) (Y k), .pointer (some ⟨L1, 0, none⟩)] W fun e w' => e = .returned (.bool (p k)) ∧ Below W.heap.size W w') :
    Calls Try.prog 71 #[.slice A n cap, .func (.func 72) #[] #[.pointer (some ⟨L1, 0, none⟩)]] w fun e w' =>
      ∃ v, e = .returned v ∧ Row w' v (if chkF n X Y V = 0 then selL p n else []) ∧ Below w.heap.size w w' := by
  have HK := Lib.hid (check_any A n cap X Y V w hcl)
  by_cases hok : chkF n X Y V = 0
  · rw [hok] at HK
    rw [if_pos hok]
    have hn := chkF_le hok
    have HCL := Lib.hid hcl
    have HPP := Lib.hid HP
    have HO := Lib.hid hok
    obtain ⟨i0_, hi0, hz0, hz1, hz2⟩ := info_parts Try.info3
    have hI0 := Lib.hid hi0
    have hZ0 := Lib.hid hz0
    have hZ1 := Lib.hid hz1
    have hZ2 := Lib.hid hz2
    clear hcl HP hok hi0 hz0 hz1 hz2
    go_enter Try.func71, Try.ntmps71
    go_wp2_with (go_at_call 22; (with_reducible refine HK.out.mono ?_); rintro e w1 ⟨rfl, hb1⟩)
    clear HK
    go_loopw [5, 13] (fun o i wr => ∃ (k : Nat) (v : Value), k ≤ n ∧ o = v ∧ i = .int .i64 k ∧ Hid (wr.ownsRow w.heap.size 3 1 v (selL p k).length (natV (selL p k))) ∧ Below w.heap.size w wr) (fun _ i _ => n + 1 - (intOf i).toNat)
    case atStart => exact ⟨0, .slice none 0 0, Nat.zero_le _, rfl, rfl, Lib.hid (World.ownsRow_nil _ _ _ _), hb1⟩
    case round =>
      clear hb1
      obtain ⟨k, v, hk, rfl, rfl, HO3, hB⟩ := hrel
      by_cases hlt : k < n
      · obtain ⟨b, off, e, hc0⟩ := HCL.out (by omega)
        subst e
        have i0 : (0 : Int) ≤ (k : Int) := Int.natCast_nonneg _
        have i1 : (k : Int) < (n : Int) := by omega
        have hbl := hc0.lt (by omega)
        obtain ⟨c0, c1, c2⟩ := (hc0.below hB hbl) k hlt
        have l1 : b < wr.heap.size := Nat.lt_of_lt_of_le hbl hB.size
        have hbd := selL_bd p k
        obtain ⟨z, hz⟩ : ∃ z, z = p k := ⟨_, rfl⟩
        have HZ := Lib.hid hz
        have HC1 := Lib.hid (fun W h => HPP.out k hlt W h)
        rw [← hz] at HC1
        have HS := Lib.hid (fun (W : World) => spot_any (X k) (Y k) (V k) W)
        clear hz hc0
        go_upto_region 7 with fail
        have hb4 : Below wr.heap.size wr (wr.alloc (.cells #[.int .i64 (X k), .int .i64 (Y k), .int .i64 (V k)] 69)) := (Below.refl _ wr).alloc (Nat.le_refl _) _
        have hq := BoxAt.new wr 69 #[.int .i64 (X k), .int .i64 (Y k), .int .i64 (V k)]
        obtain ⟨Lq, hLq⟩ : ∃ q, q = wr.heap.size := ⟨_, rfl⟩
        rw [← hLq] at hq ⊢
        have hBz := below_step hB hb4
        have HO4 := Lib.hid (HO3.out.alloc (.cells #[.int .i64 (X k), .int .i64 (Y k), .int .i64 (V k)] 69))
        clear hLq hb4 c0 c1 c2 l1 hB HO3
        generalize wr.alloc (.cells #[.int .i64 (X k), .int .i64 (Y k), .int .i64 (V k)] 69) = wx at *
        have k0 : wx.cell? ⟨Lq, 0, none⟩ = some (.int .i64 (X k)) := hq.cell 0
        have k1 : wx.cell? ⟨Lq, 1, none⟩ = some (.int .i64 (Y k)) := hq.cell 1
        have k2 : wx.cell? ⟨Lq, 2, none⟩ = some (.int .i64 (V k)) := hq.cell 2
        have l2 := hq.lt
        have HB := Lib.hid hBz
        clear hq hBz
        obtain ⟨Av, cv, hv⟩ := Row.form ⟨_, HO4.out⟩
        subst hv
        obtain ⟨q, hq⟩ : ∃ q, q = (selL p k).length := ⟨_, rfl⟩
        rw [← hq] at HO4 hbd ⊢
        have HQ := Lib.hid hq
        clear hq
        cases z with
        | false =>
          have HE : Hid (selL p (k + 1) = selL p k) := Lib.hid (by show (if p k then _ else _) = _; rw [← HZ.out]; rfl)
          go_wp2_with (first
            | (go_at_call 64; (with_reducible refine (HS.out _).mono ?_); rintro e w2 ⟨rfl, hb2⟩)
            | (go_at_call 72; (with_reducible refine (HC1.out _ (below_step HB.out hb2)).mono ?_); rintro e w3 ⟨rfl, hb3⟩))
          go_roundw
          case rel => exact ⟨k + 1, _, by omega, rfl, by go_num, Lib.hid (by rw [HE.out, ← HQ.out]; exact (HO4.out.kept (grown_of_below (below_step hb2 hb3)) (Classical.em _))), below_step HB.out (below_step hb2 hb3)⟩
          case measure => simp [intOf]; omega
        | true =>
          have HE : Hid (selL p (k + 1) = selL p k ++ [k]) := Lib.hid (by show (if p k then _ else _) = _; rw [← HZ.out]; rfl)
          go_wp2_with (first
            | (go_at_call 64; (with_reducible refine (HS.out _).mono ?_); rintro e w2 ⟨rfl, hb2⟩)
            | (go_at_call 72; (with_reducible refine (HC1.out _ (below_step HB.out hb2)).mono ?_); rintro e w3 ⟨rfl, hb3⟩)
            | (at_builtin; refine wpList_append_lies _ rfl _ _ 41 rfl w.heap.size 3 i0_ (.int .i64 0) 1 8 Try.underlying41 hI0.out hZ0.out hZ1.out hZ2.out rfl (by decide) (.slice Av q cv) q (natV (selL p k)) rfl ((HO4.out.kept (grown_of_below (below_step hb2 hb3)) (Classical.em _)).alloc _) ⟨w3.heap.size, 0, none⟩ 1 1 [.int .i64 (k : Int)] rfl rfl (World.news_of_block (cs := #[.int .i64 (k : Int)]) (t := 3) (fr := (0, 0)) (heap_alloc_new w3 _)) (by simp [Value.oneCell']) (by decide) (by unfold maxLen; omega) (by omega) (by have := (below_step HB.out (below_step hb2 hb3)).size; simp; omega) _ rfl ?_; intro gg cap1 w7 hown7 hgrow hat hlt7))
          have hbx := below_step HB.out (below_step hb2 hb3)
          have hz3 : w.heap.size ≤ w3.heap.size := hbx.size
          have HO7 : Hid (w7.ownsRow w.heap.size 3 1 (.slice (some ⟨gg, 0, none⟩) (q + 1) cap1) (selL p (k + 1)).length (natV (selL p (k + 1)))) := Lib.hid (by
            rw [HE.out, List.length_append, ← HQ.out, ← natV_snoc]
            exact hown7)
          have hB7 : Below w.heap.size w w7 := (hbx.alloc hz3 _).grown hgrow (by simp; omega) (fun g e => by have := (HO4.out.lt _ e).1; omega)
          clear hown7 hat
          go_wp2
          go_roundw
          case rel => exact ⟨k + 1, _, by omega, rfl, by go_num, HO7, hB7⟩
          case measure => simp [intOf]; omega
      · obtain rfl : k = n := by omega
        obtain ⟨A', c', rfl⟩ := Row.form ⟨_, HO3.out⟩
        go_wp2
        go_ret
        exact ⟨_, rfl, ⟨_, HO3.out⟩, hB⟩
  · have HN := Lib.hid hok
    obtain ⟨z, hz⟩ : ∃ z, z = chkF n X Y V := ⟨_, rfl⟩
    rw [← hz] at HK hok
    rw [if_neg HN.out]
    clear HP hcl hz
    go_enter Try.func71, Try.ntmps71
    go_wp2_with (go_at_call 22; (with_reducible refine HK.out.mono ?_); rintro e w1 ⟨rfl, hb1⟩)
    go_ret
    exact ⟨_, rfl, ⟨0, World.ownsRow_nil _ _ _ _⟩, hb1⟩
/-- Does a spot lie in the area? -/
def inA (x y x0 y0 x1 y1 : Int) : Bool := decide (x0 ≤ x) && decide (x ≤ x1) && decide (y0 ≤ y) && decide (y ≤ y1)
set_option maxHeartbeats 4000000 in
theorem wclo_any (x y x0 y0 x1 y1 : Int) (r : Bool) (L1 : Nat) (w : World) (hr : inA x y x0 y0 x1 y1 = r) (h1 : BoxAt w L1 29 #[.int .i64 x0, .int .i64 y0, .int .i64 x1, .int .i64 y1]) :
    Calls Try.prog 72 #[sp x y, .pointer (some ⟨L1, 0, none⟩)] w fun e w' => e = .returned (.bool r) ∧ Below w.heap.size w w' := by
  have c0 : w.cell? ⟨L1, 0, none⟩ = some (.int .i64 x0) := h1.cell 0
  have c1 : w.cell? ⟨L1, 1, none⟩ = some (.int .i64 y0) := h1.cell 1
  have c2 : w.cell? ⟨L1, 2, none⟩ = some (.int .i64 x1) := h1.cell 2
  have c3 : w.cell? ⟨L1, 3, none⟩ = some (.int .i64 y1) := h1.cell 3
  have l1 := h1.lt
  have HR := Lib.hid hr
  clear hr h1
  by_cases g0 : x0 ≤ x
  · by_cases g1 : x ≤ x1
    · by_cases g2 : y0 ≤ y
      · by_cases g3 : y ≤ y1
        · have hz : Hid (true = r) := Lib.hid (by rw [← HR.out]; unfold inA; simp [g0, g1, g2, g3])
          have d3 : decide (y ≤ y1) = true := decide_eq_true g3
          go_enter Try.func72, Try.ntmps72
          go_wp2
          go_ret
          exact ⟨congrArg (fun z => Ending.returned (.bool z)) hz.out, (Below.refl _ w).alloc (Nat.le_refl _) _⟩
        · have hz : Hid (false = r) := Lib.hid (by rw [← HR.out]; unfold inA; simp [g3])
          have d3 : decide (y ≤ y1) = false := decide_eq_false g3
          go_enter Try.func72, Try.ntmps72
          go_wp2
          go_ret
          exact ⟨congrArg (fun z => Ending.returned (.bool z)) hz.out, (Below.refl _ w).alloc (Nat.le_refl _) _⟩
      · have hz : Hid (false = r) := Lib.hid (by rw [← HR.out]; unfold inA; simp [g2])
        have g2' : ¬ y ≥ y0 := g2
        go_enter Try.func72, Try.ntmps72
        go_wp2
        go_ret
        exact ⟨congrArg (fun z => Ending.returned (.bool z)) hz.out, (Below.refl _ w).alloc (Nat.le_refl _) _⟩
    · have hz : Hid (false = r) := Lib.hid (by rw [← HR.out]; unfold inA; simp [g1])
      go_enter Try.func72, Try.ntmps72
      go_wp2
      go_ret
      exact ⟨congrArg (fun z => Ending.returned (.bool z)) hz.out, (Below.refl _ w).alloc (Nat.le_refl _) _⟩
  · have hz : Hid (false = r) := Lib.hid (by rw [← HR.out]; unfold inA; simp [g0])
    go_enter Try.func72, Try.ntmps72
    go_wp2
    go_ret
    exact ⟨congrArg (fun z => Ending.returned (.bool z)) hz.out, (Below.refl _ w).alloc (Nat.le_refl _) _⟩

def withF (X Y V : Nat → Int) (n : Nat) (x0 y0 x1 y1 : Int) : List Nat := if chkF n X Y V = 0 then selL (fun k => inA (X k) (Y k) x0 y0 x1 y1) n else []
set_option maxRecDepth 100000 in
set_option maxHeartbeats 8000000 in
theorem within_any (A : Option Addr) (n cap : Nat) (X Y V : Nat → Int) (x0 y0 x1 y1 : Int) (w : World) (hcl : Cloud w A n X Y V) :
    Calls Try.prog 28 #[.slice A n cap, .agg #[.int .i64 x0, .int .i64 y0, .int .i64 x1, .int .i64 y1]] w fun e w' => ∃ r, e = .returned r ∧ Row w' r (withF X Y V n x0 y0 x1 y1) ∧ Below w.heap.size w w' := by
  have hb1 : Below w.heap.size w (w.alloc (.cells #[.int .i64 x0, .int .i64 y0, .int .i64 x1, .int .i64 y1] 29)) := (Below.refl _ w).alloc (Nat.le_refl _) _
  have hx1 := BoxAt.new w 29 #[.int .i64 x0, .int .i64 y0, .int .i64 x1, .int .i64 y1]
  have HC := Lib.hid (chosen_with A n cap X Y V (fun k => inA (X k) (Y k) x0 y0 x1 y1) w.heap.size _ (hcl.below hb1) (fun k hk W hW => wclo_any (X k) (Y k) x0 y0 x1 y1 _ _ W rfl (box_step hx1 hW)))
  have HB2 := Lib.hid hb1
  clear hb1 hx1 hcl
  obtain ⟨F, hF⟩ : ∃ F, F = withF X Y V n x0 y0 x1 y1 := ⟨_, rfl⟩
  rw [show (if chkF n X Y V = 0 then selL (fun k => inA (X k) (Y k) x0 y0 x1 y1) n else []) = F from hF.symm] at HC
  rw [← hF]
  clear hF
  go_enter Try.func28, Try.ntmps28
  go_wp2_with (go_at_call 71; (with_reducible refine HC.out.mono ?_); rintro e w1 ⟨r, rfl, hr, hb⟩; obtain ⟨A', c', rfl⟩ := hr.form; have HR := Lib.hid hr; clear hr)
  go_ret
  exact ⟨_, rfl, HR.out, below_step HB2.out hb⟩
end Go.Proofs.Ytaehfildhmljeaa

namespace Go.Proofs.Ytaehfildhmljeaa
open Go.RowKit Go.Shelf

theorem pop_sub {p x : Pt} : ∀ {st : List Pt}, x ∈ popS p st → x ∈ st := by
  intro st
  induction st with
  | nil => intro h; exact h
  | cons b r ih =>
    cases r with
    | nil => intro h; exact h
    | cons a r =>
      rw [popS]
      split
      · exact fun h => h
      · exact fun h => List.mem_cons_of_mem _ (ih h)
theorem chS_sub {x : Pt} : ∀ {l st : List Pt}, x ∈ chS st l → x ∈ st ∨ x ∈ l := by
  intro l
  induction l with
  | nil => intro st h; exact .inl h
  | cons p r ih =>
    intro st h
    rw [chS] at h
    rcases ih h with h | h
    · rcases List.mem_cons.1 h with rfl | h
      · exact .inr (List.mem_cons_self ..)
      · exact .inl (pop_sub h)
    · exact .inr (List.mem_cons_of_mem _ h)
theorem hulL_sub {S : List Pt} {x : Pt} (h : x ∈ hulL S) : x ∈ S := by
  unfold hulL at h
  split at h
  · exact h
  · unfold hulP at h
    rcases List.mem_append.1 h with h | h
    · have h1 := List.mem_reverse.1 ((List.dropLast_sublist _).subset h)
      rcases chS_sub h1 with h | h
      · cases h
      · exact h
    · have h1 := List.mem_reverse.1 ((List.dropLast_sublist _).subset h)
      rcases chS_sub h1 with h | h
      · cases h
      · exact List.mem_reverse.1 h
theorem lXY2 {L : List Pt} {i : Nat} (h : i < L.length) : L[i]? = some (lX L i, lY L i) := by
  unfold lX lY
  rw [List.getElem?_eq_getElem h]
  simp [List.getD, List.getElem?_eq_getElem h]
theorem hull_at {C : Nat → Pt} {n i : Nat} (h : i < (hulL (celL C n)).length) : ∃ k, k < n ∧ C k = (lX (hulL (celL C n)) i, lY (hulL (celL C n)) i) :=
  mem_celL.1 (hulL_sub (List.mem_of_getElem? (lXY2 h)))
theorem hul_spots2 {W : World} {base : Nat} {v : Value} {L : List Pt} (h : W.ownsRow base 24 2 v L.length (ptV L)) : ∃ A c, v = .slice A L.length c ∧ Spots W A L.length (lX L) (lY L) := by
  rcases h.2 with ⟨hv, hn⟩ | ⟨g, c, cur, hv, _⟩
  · rw [hv]
    refine ⟨none, 0, ?_, fun h0 => ?_⟩
    · rw [hn]
    · omega
  · refine ⟨some ⟨g, 0, none⟩, c, hv, fun _ => ⟨g, 0, rfl, fun i hi => ?_⟩⟩
    obtain ⟨a, b⟩ := ptV_get L i _ (lXY2 hi)
    have h1 := h.cells (g := g) (by rw [hv]; rfl) _ _ a
    have h2 := h.cells (g := g) (by rw [hv]; rfl) _ _ b
    rw [add_plain] at h1 h2
    exact ⟨h1, by rw [Nat.add_assoc]; exact h2⟩
end Go.Proofs.Ytaehfildhmljeaa

namespace Go.Proofs.Ytaehfildhmljeaa
open Go.RowKit Go.Shelf

theorem kn_chk : chkF 1 (fun _ => 0) (fun _ => 0) (fun _ => -4001) = 2 := by decide +kernel
theorem kn_grid : gridF 5 shX shY shV 1000 = 0 ∧ gridF 5 shX shY shV 0 = 2 := by decide +kernel
theorem kn_idxL : idxL 5 shX shY shV 1000 = [(0, 0), (2, 0)] := by decide +kernel
theorem kn_idxR : idxR 5 shX shY shV 1000 = [[0, 1, 4], [2, 3]] := by decide +kernel
theorem kn_with : withF shX shY shV 5 0 0 300 400 = [0, 1, 4] := by decide +kernel
theorem kn_near : nearF shX shY shV 5 0 0 500 = [0, 1, 4] := by decide +kernel
theorem kn_nst1 : nstF shX shY shV 5 0 0 3 = [0, 1, 4] := by decide +kernel
theorem kn_nst2 : nstF shX shY shV 5 2000 40 2 = [2, 3] := by decide +kernel
theorem kn_nst3 : nstF shX shY shV 5 0 0 9 = [0, 1, 4, 2, 3] := by decide +kernel
theorem kn_red : rnk (redC shX shY 1000) 5 = 2 := by decide +kernel
theorem kn_redp : ∀ a, a < 2 → (shX (nthF (redC shX shY 1000) 5 a), shY (nthF (redC shX shY 1000) 5 a), mxF (redC shX shY 1000) shV (nthF (redC shX shY 1000) 5 a) 5) = (#[(0, 0, 9), (2000, 0, 7)].getD a (0, 0, 0) : Int × Int × Int) := by decide +kernel
theorem kn_bnd : bndF 1 = 0 ∧ bndF 0 = 0 := by decide +kernel
theorem kn_hull : hulL (celL (spF shX shY) 5) = [(0, 0), (2000, 0), (2000, 100), (300, 400)] := by decide +kernel
theorem kn_area : areaF 4 (lX [(0, 0), (2000, 0), (2000, 100), (300, 400)]) (lY [(0, 0), (2000, 0), (2000, 100), (300, 400)]) = 970000 := by decide +kernel
theorem kn_in1 : insF 4 (lX [(0, 0), (2000, 0), (2000, 100), (300, 400)]) (lY [(0, 0), (2000, 0), (2000, 100), (300, 400)]) 1000 100 = true := by decide +kernel
theorem kn_in2 : insF 4 (lX [(0, 0), (2000, 0), (2000, 100), (300, 400)]) (lY [(0, 0), (2000, 0), (2000, 100), (300, 400)]) 1000 300 = false := by decide +kernel
theorem kn_aro : arOk 5 shX shY shV = true ∧ loF shX 5 = 0 ∧ loF shY 5 = 0 ∧ hiF shX 5 = 2000 ∧ hiF shY 5 = 400 := by decide +kernel
theorem kn_aro0 : ∀ X Y V, arOk 0 X Y V = false := fun _ _ _ => rfl
theorem kn_shf : shN 5 shX shY shV 1 (-1) = (5, 0) := by decide +kernel
theorem kn_regE : regE 5 shX shY shV 5 (fun i => shX i + 1) (fun i => shY i + -1) shV 10 0 = 0 := by decide +kernel
theorem kn_reg : rgV 5 shX shY shV 5 (fun i => shX i + 1) (fun i => shY i + -1) shV 10 0 = ((-1, 1), 5) := by decide +kernel
theorem kn_mat : matAny 5 shX shY shV 5 shX shY shV 0 0 0 = 5 ∧ matAny 5 shX shY shV 5 shX shY shV 1 0 0 = 0 := by decide +kernel
end Go.Proofs.Ytaehfildhmljeaa

namespace Go.Proofs.Ytaehfildhmljeaa
open Go.RowKit Go.Shelf

theorem bal {w1 w : World} (h : Below w1.heap.size w1 w) (o : Obj) : Below w1.heap.size w1 (w.alloc o) := h.alloc h.size o
def shC (W : World) (g : Nat) : Prop := Clo W g 0 5 shX shY shV
theorem shC.below {W W' : World} {g : Nat} (h : shC W g) (hb : Below W.heap.size W W') : shC W' g := Clo.below h hb (Clo.lt h (by omega))
theorem shC.cloud {W : World} {g : Nat} (h : shC W g) : Cloud W (some ⟨g, 0, none⟩) 5 shX shY shV := fun _ => ⟨g, 0, rfl, h⟩
theorem check_big (A : Option Addr) (n cap : Nat) (w : World) (h : 1000 < n) : Calls Try.prog 22 #[.slice A n cap] w fun e w' => e = .returned (.int .i64 8) ∧ Below w.heap.size w w' := by
  have h1 : (1000 : Int) < (n : Int) := by omega
  go_enter Try.func22, Try.ntmps22
  go_wp2
  go_ret
  exact ⟨rfl, Below.refl _ _⟩
theorem kn_check1 (W : World) : Calls Try.prog 22 #[.slice (some ⟨W.heap.size, 0, none⟩) 1 1] (W.alloc (.cells #[.int .i64 0, .int .i64 0, .int .i64 (-4001)] 69)) fun e w' => e = .returned (.int .i64 2) ∧ Below W.heap.size W w' := by
  have hb := BoxAt.new W 69 #[.int .i64 0, .int .i64 0, .int .i64 (-4001)]
  have h := check_any (some ⟨W.heap.size, 0, none⟩) 1 1 (fun _ => 0) (fun _ => 0) (fun _ => -4001) (W.alloc (.cells #[.int .i64 0, .int .i64 0, .int .i64 (-4001)] 69)) (fun _ => ⟨W.heap.size, 0, rfl, fun i hi => by
    obtain rfl : i = 0 := by omega
    exact ⟨hb.cell 0, hb.cell 1, hb.cell 2⟩⟩)
  rw [kn_chk] at h
  exact h.mono fun e w' ⟨he, hb'⟩ => ⟨he, below_step ((Below.refl _ W).alloc (Nat.le_refl _) _) hb'⟩
section
variable {W : World} {g : Nat}
theorem kn_check (h : shC W g) : Calls Try.prog 22 #[.slice (some ⟨g, 0, none⟩) 5 5] W fun e w' => e = .returned (.int .i64 0) ∧ Below W.heap.size W w' := by
  have := check_any _ 5 5 shX shY shV W h.cloud
  rwa [sh_ok] at this
/-- Index of the drawn points: its two buckets. -/
def knB (W : World) (v : Value) : Prop := Bks W v [(0, 0), (2, 0)] [[0, 1, 4], [2, 3]]
theorem kn_idx (h : shC W g) : Calls Try.prog 25 #[.slice (some ⟨g, 0, none⟩) 5 5, .int .i64 1000] W fun e w' => ∃ A c, e = .returned (.tuple #[.slice A 2 c, .int .i64 0]) ∧ knB w' (.slice A 2 c) ∧ Below W.heap.size W w' := by
  refine (index_any _ 5 5 shX shY shV 1000 W h.cloud).mono ?_
  rintro e w' ⟨v, rfl, h1, h2⟩
  rw [kn_idxL, kn_idxR] at h1
  obtain ⟨A, c, rfl⟩ := h1.form
  rw [kn_grid.1]
  exact ⟨A, c, rfl, h1, h2⟩
theorem kn_idx0 (h : shC W g) : Calls Try.prog 25 #[.slice (some ⟨g, 0, none⟩) 5 5, .int .i64 0] W fun e w' => ∃ v, e = .returned (.tuple #[v, .int .i64 2]) ∧ Below W.heap.size W w' := by
  refine (index_any _ 5 5 shX shY shV 0 W h.cloud).mono ?_
  rintro e w' ⟨v, rfl, _, h2⟩
  rw [kn_grid.2]
  exact ⟨v, rfl, h2⟩
theorem kn_with1 (h : shC W g) : Calls Try.prog 28 #[.slice (some ⟨g, 0, none⟩) 5 5, .agg #[.int .i64 0, .int .i64 0, .int .i64 300, .int .i64 400]] W fun e w' => ∃ r, e = .returned r ∧ Row w' r [0, 1, 4] ∧ Below W.heap.size W w' := by
  have := within_any _ 5 5 shX shY shV 0 0 300 400 W h.cloud
  rwa [kn_with] at this
theorem kn_near1 (h : shC W g) : Calls Try.prog 30 #[.slice (some ⟨g, 0, none⟩) 5 5, .agg #[.int .i64 0, .int .i64 0], .int .i64 500] W fun e w' => ∃ r, e = .returned r ∧ Row w' r [0, 1, 4] ∧ Below W.heap.size W w' := by
  have := near_any _ 5 5 shX shY shV 0 0 500 W h.cloud
  rwa [kn_near] at this
theorem kn_nest1 (h : shC W g) : Calls Try.prog 32 #[.slice (some ⟨g, 0, none⟩) 5 5, .agg #[.int .i64 0, .int .i64 0], .int .i64 3] W fun e w' => ∃ r, e = .returned r ∧ Row w' r [0, 1, 4] ∧ Below W.heap.size W w' := by
  have := nearest_any _ 5 5 shX shY shV 0 0 3 W h.cloud
  rwa [kn_nst1] at this
theorem kn_nest2 (h : shC W g) : Calls Try.prog 32 #[.slice (some ⟨g, 0, none⟩) 5 5, .agg #[.int .i64 2000, .int .i64 40], .int .i64 2] W fun e w' => ∃ r, e = .returned r ∧ Row w' r [2, 3] ∧ Below W.heap.size W w' := by
  have := nearest_any _ 5 5 shX shY shV 2000 40 2 W h.cloud
  rwa [kn_nst2] at this
theorem kn_nest3 (h : shC W g) : Calls Try.prog 32 #[.slice (some ⟨g, 0, none⟩) 5 5, .agg #[.int .i64 0, .int .i64 0], .int .i64 9] W fun e w' => ∃ r, e = .returned r ∧ Row w' r [0, 1, 4, 2, 3] ∧ Below W.heap.size W w' := by
  have := nearest_any _ 5 5 shX shY shV 0 0 9 W h.cloud
  rwa [kn_nst3] at this
def knL1 : Nat → Nat := fun i => #[0, 1, 2, 2, 1].getD i 0
theorem knL1_eq : ∀ i, i < 5 → ∀ k, k < 5 → lnkF shX shY 499 i k = true → knL1 i = knL1 k := by decide +kernel
theorem knL1_lab : Lab (lnkF shX shY 499) 5 knL1 where
  le := by decide +kernel
  con := fun i hi => by
    have : i = 0 ∨ i = 1 ∨ i = 2 ∨ i = 3 ∨ i = 4 := by omega
    rcases this with rfl | rfl | rfl | rfl | rfl
    · exact Conn.refl 0
    · exact Conn.refl 1
    · exact Conn.refl 2
    · exact Conn.link (by omega) (by decide) (by decide +kernel)
    · exact Conn.link (by omega) (by decide) (by decide +kernel)
  eq := fun i k hi hk h => knL1_eq i hi k hk h
theorem knL2_eq : ∀ i, i < 5 → ∀ k, k < 5 → lnkF shX shY 2000 i k = true → (0 : Nat) = 0 := fun _ _ _ _ _ => rfl
theorem knL2_lab : Lab (lnkF shX shY 2000) 5 (fun _ => 0) where
  le := fun _ _ => Nat.zero_le _
  con := fun i hi => by
    have : i = 0 ∨ i = 1 ∨ i = 2 ∨ i = 3 ∨ i = 4 := by omega
    rcases this with rfl | rfl | rfl | rfl | rfl
    · exact Conn.refl 0
    · exact Conn.link (by omega) (by decide) (by decide +kernel)
    · exact Conn.link (by omega) (by decide) (by decide +kernel)
    · exact Conn.trans (j := 2) (Conn.link (by omega) (by decide) (by decide +kernel)) (Conn.link (by omega) (by decide) (by decide +kernel))
    · exact Conn.link (by omega) (by decide) (by decide +kernel)
  eq := fun _ _ _ _ _ => rfl
theorem kn_rows1 : rowsL knL1 5 = [[0], [1, 4], [2, 3]] := by decide +kernel
theorem kn_rows2 : rowsL (fun _ => 0) 5 = [[0, 1, 2, 3, 4]] := by decide +kernel
theorem kn_seg1 (h : shC W g) : Calls Try.prog 34 #[.slice (some ⟨g, 0, none⟩) 5 5, .int .i64 499] W fun e w' => ∃ v, e = .returned (.tuple #[v, .int .i64 0]) ∧ Grps w' v [[0], [1, 4], [2, 3]] ∧ Below W.heap.size W w' := by
  refine (segments_good (some ⟨g, 0, none⟩) 5 5 shX shY shV 499 sh_ok (by decide) (by decide) (Nat.le_refl _) W h.cloud).mono ?_
  rintro e w' ⟨L, v, hL, rfl, hS, hb⟩
  have hr : rowsL L 5 = [[0], [1, 4], [2, 3]] := by
    rw [rowsL_ext (fun k hk => hL.uniq knL1_lab hk) hL.le]
    exact kn_rows1
  rw [hr] at hS
  exact ⟨v, rfl, ⟨_, hS⟩, hb⟩
theorem kn_seg2 (h : shC W g) : Calls Try.prog 34 #[.slice (some ⟨g, 0, none⟩) 5 5, .int .i64 2000] W fun e w' => ∃ v, e = .returned (.tuple #[v, .int .i64 0]) ∧ Grps w' v [[0, 1, 2, 3, 4]] ∧ Below W.heap.size W w' := by
  refine (segments_good (some ⟨g, 0, none⟩) 5 5 shX shY shV 2000 sh_ok (by decide) (by decide) (Nat.le_refl _) W h.cloud).mono ?_
  rintro e w' ⟨L, v, hL, rfl, hS, hb⟩
  have hr : rowsL L 5 = [[0, 1, 2, 3, 4]] := by
    rw [rowsL_ext (fun k hk => hL.uniq knL2_lab hk) hL.le]
    exact kn_rows2
  rw [hr] at hS
  exact ⟨v, rfl, ⟨_, hS⟩, hb⟩
def knR : Nat → Int × Int × Int := fun a => #[(0, 0, 9), (2000, 0, 7)].getD a (0, 0, 0)
theorem kn_reduce (h : shC W g) : Calls Try.prog 37 #[.slice (some ⟨g, 0, none⟩) 5 5, .int .i64 1000] W fun e w' => ∃ A c, e = .returned (.tuple #[.slice A 2 c, .int .i64 0]) ∧ Cloud w' A 2 (fun a => (knR a).1) (fun a => (knR a).2.1) (fun a => (knR a).2.2) ∧ Below W.heap.size W w' := by
  refine (reduce_any _ 5 5 shX shY shV 1000 W h.cloud).mono ?_
  rintro e w' ⟨A, c, rfl, _, hC, hb⟩
  rw [if_pos kn_grid.1, kn_red] at hC ⊢
  rw [kn_grid.1]
  refine ⟨A, c, rfl, fun hn => ?_, hb⟩
  obtain ⟨b, off, e, hp⟩ := hC hn
  refine ⟨b, off, e, fun i hi => ?_⟩
  have h1 := kn_redp i hi
  have e1 := congrArg Prod.fst h1
  have e2 := congrArg (fun q => q.2.1) h1
  have e3 := congrArg (fun q => q.2.2) h1
  have := hp i hi
  simp only at e1 e2 e3 this
  rw [e1, e2, e3] at this
  exact this
def knH : List Pt := [(0, 0), (2000, 0), (2000, 100), (300, 400)]
theorem kn_hull1 (h : shC W g) : Calls Try.prog 42 #[.slice (some ⟨g, 0, none⟩) 5 5] W fun e w' => ∃ A c, e = .returned (.slice A 4 c) ∧ Spots w' A 4 (lX knH) (lY knH) ∧ Below W.heap.size W w' := by
  have := hull_any _ 5 5 shX shY shV W h.cloud
  unfold HulAll at this
  rw [if_pos sh_ok, kn_hull] at this
  refine this.mono ?_
  rintro e w' ⟨v, b, rfl, ho, hb⟩
  obtain ⟨A, c, rfl, hS⟩ := hul_spots2 ho
  exact ⟨A, c, rfl, hS, hb⟩
theorem kn_around (h : shC W g) : Calls Try.prog 18 #[.slice (some ⟨g, 0, none⟩) 5 5] W fun e w' => e = .returned (.tuple #[.agg #[.int .i64 0, .int .i64 0, .int .i64 2000, .int .i64 400], .bool true]) ∧ Below W.heap.size W w' := by
  have := around_any _ 5 5 shX shY shV W h.cloud
  unfold arV at this
  obtain ⟨a, b, c, d, e⟩ := kn_aro
  rw [a, b, c, d, e] at this
  exact this
theorem kn_around0 (W : World) : Calls Try.prog 18 #[.slice none 0 0] W fun e w' => e = .returned (.tuple #[.agg #[.int .i64 0, .int .i64 0, .int .i64 0, .int .i64 0], .bool false]) ∧ Below W.heap.size W w' :=
  around_any none 0 0 (fun _ => 0) (fun _ => 0) (fun _ => 0) W (fun h => absurd h (by omega))
theorem kn_shift (h : shC W g) : Calls Try.prog 20 #[.slice (some ⟨g, 0, none⟩) 5 5, .agg #[.int .i64 1, .int .i64 (-1)]] W fun e w' => ∃ b off c, e = .returned (.tuple #[.slice (some ⟨b, off, none⟩) 5 c, .int .i64 0]) ∧ Clo w' b off 5 (fun i => shX i + 1) (fun i => shY i + -1) shV ∧ Below W.heap.size W w' := by
  refine (shift_any _ 5 5 shX shY shV 1 (-1) W h.cloud).mono ?_
  rintro e w' ⟨B, c, rfl, _, hC, hb⟩
  rw [kn_shf] at hC ⊢
  obtain ⟨b, off, e, hp⟩ := hC (by decide)
  subst e
  exact ⟨b, off, c, rfl, hp, hb⟩
theorem kn_register {b off c : Nat} (h : shC W g) (h2 : Clo W b off 5 (fun i => shX i + 1) (fun i => shY i + -1) shV) : Calls Try.prog 49 #[.slice (some ⟨g, 0, none⟩) 5 5, .slice (some ⟨b, off, none⟩) 5 c, .int .i64 10, .int .i64 0] W fun e w' => e = .returned (.tuple #[.agg #[.int .i64 (-1), .int .i64 1], .int .i64 5, .int .i64 0]) ∧ Below W.heap.size W w' := by
  have := register_any _ 5 5 shX shY shV (some ⟨b, off, none⟩) 5 c (fun i => shX i + 1) (fun i => shY i + -1) shV 10 0 W h.cloud (fun _ => ⟨b, off, rfl, h2⟩)
  unfold RegPost at this
  rw [kn_reg, kn_regE] at this
  exact this
theorem kn_match1 (h : shC W g) : Calls Try.prog 51 #[.slice (some ⟨g, 0, none⟩) 5 5, .slice (some ⟨g, 0, none⟩) 5 5, .agg #[.int .i64 0, .int .i64 0], .int .i64 0] W fun e w' => e = .returned (.int .i64 5) ∧ Below W.heap.size W w' := by
  have := match_any _ 5 5 shX shY shV _ 5 5 shX shY shV 0 0 0 W h.cloud h.cloud
  rwa [kn_mat.1] at this
theorem kn_match2 (h : shC W g) : Calls Try.prog 51 #[.slice (some ⟨g, 0, none⟩) 5 5, .slice (some ⟨g, 0, none⟩) 5 5, .agg #[.int .i64 1, .int .i64 0], .int .i64 0] W fun e w' => e = .returned (.int .i64 0) ∧ Below W.heap.size W w' := by
  have := match_any _ 5 5 shX shY shV _ 5 5 shX shY shV 1 0 0 W h.cloud h.cloud
  rwa [kn_mat.2] at this
end
end Go.Proofs.Ytaehfildhmljeaa

namespace Go.Proofs.Ytaehfildhmljeaa
open Go.RowKit Go.Shelf

theorem row_lit (W : World) (cs : Array Value) (l : List Nat) (n : Nat) (h : cs.toList = natV l) (hn : l.length = n) (hl : n ≤ maxLen) : Row (W.alloc (.cells cs 3)) (.slice (some ⟨W.heap.size, 0, none⟩) n n) l := by
  subst hn
  have hs : cs.size = l.length * 1 := by
    have := congrArg List.length h
    simp [natV] at this
    omega
  have := World.ownsRow_lit (base := 0) (e := 3) (size := 1) W cs l.length (Nat.zero_le _) hl hs
  rw [h] at this
  exact ⟨0, this⟩

theorem kn_s014 {W : World} {v : Value} (h : Row W v [0, 1, 4]) : Calls Try.prog 27 #[v, .slice (some ⟨W.heap.size, 0, none⟩) 3 3] (W.alloc (.cells #[.int .i64 0, .int .i64 1, .int .i64 4] 3)) fun e w' => e = .returned (.bool true) ∧ Below W.heap.size W w' :=
  (same_ints v _ [0, 1, 4] _ (by decide) (h.alloc _) (row_lit W #[.int .i64 0, .int .i64 1, .int .i64 4] [0, 1, 4] 3 rfl rfl (by decide))).mono fun _ _ ⟨he, hb⟩ => ⟨he, below_step ((Below.refl _ W).alloc (Nat.le_refl _) _) hb⟩
theorem kn_s23 {W : World} {v : Value} (h : Row W v [2, 3]) : Calls Try.prog 27 #[v, .slice (some ⟨W.heap.size, 0, none⟩) 2 2] (W.alloc (.cells #[.int .i64 2, .int .i64 3] 3)) fun e w' => e = .returned (.bool true) ∧ Below W.heap.size W w' :=
  (same_ints v _ [2, 3] _ (by decide) (h.alloc _) (row_lit W #[.int .i64 2, .int .i64 3] [2, 3] 2 rfl rfl (by decide))).mono fun _ _ ⟨he, hb⟩ => ⟨he, below_step ((Below.refl _ W).alloc (Nat.le_refl _) _) hb⟩
theorem kn_s5 {W : World} {v : Value} (h : Row W v [0, 1, 4, 2, 3]) : Calls Try.prog 27 #[v, .slice (some ⟨W.heap.size, 0, none⟩) 5 5] (W.alloc (.cells #[.int .i64 0, .int .i64 1, .int .i64 4, .int .i64 2, .int .i64 3] 3)) fun e w' => e = .returned (.bool true) ∧ Below W.heap.size W w' :=
  (same_ints v _ [0, 1, 4, 2, 3] _ (by decide) (h.alloc _) (row_lit W #[.int .i64 0, .int .i64 1, .int .i64 4, .int .i64 2, .int .i64 3] [0, 1, 4, 2, 3] 5 rfl rfl (by decide))).mono fun _ _ ⟨he, hb⟩ => ⟨he, below_step ((Below.refl _ W).alloc (Nat.le_refl _) _) hb⟩
theorem kn_g3_lit (W : World) : Grps ((((W.alloc (.cells #[.int .i64 0] 3)).alloc (.cells #[.int .i64 1, .int .i64 4] 3)).alloc (.cells #[.int .i64 2, .int .i64 3] 3)).alloc (.cells #[.slice (some ⟨W.heap.size, 0, none⟩) 1 1, .slice (some ⟨W.heap.size + 1, 0, none⟩) 2 2, .slice (some ⟨W.heap.size + 2, 0, none⟩) 2 2] 41)) (.slice (some ⟨W.heap.size + 3, 0, none⟩) 3 3) [[0], [1, 4], [2, 3]] := by
  have h0 := World.ownsRow_lit (base := 0) (e := 3) (size := 1) W #[.int .i64 0] 1 (Nat.zero_le _) (by decide) rfl
  have h1 := World.ownsRow_lit (base := 0) (e := 3) (size := 1) (W.alloc (.cells #[.int .i64 0] 3)) #[.int .i64 1, .int .i64 4] 2 (Nat.zero_le _) (by decide) rfl
  have h2 := World.ownsRow_lit (base := 0) (e := 3) (size := 1) ((W.alloc (.cells #[.int .i64 0] 3)).alloc (.cells #[.int .i64 1, .int .i64 4] 3)) #[.int .i64 2, .int .i64 3] 2 (Nat.zero_le _) (by decide) rfl
  have ho := World.ownsRow_lit (base := 0) (e := 41) (size := 1) (((W.alloc (.cells #[.int .i64 0] 3)).alloc (.cells #[.int .i64 1, .int .i64 4] 3)).alloc (.cells #[.int .i64 2, .int .i64 3] 3)) #[.slice (some ⟨W.heap.size, 0, none⟩) 1 1, .slice (some ⟨W.heap.size + 1, 0, none⟩) 2 2, .slice (some ⟨W.heap.size + 2, 0, none⟩) 2 2] 3 (Nat.zero_le _) (by decide) rfl
  simp only [World.size_alloc, Nat.add_assoc, Nat.reduceAdd] at h1
  simp only [World.size_alloc, Nat.add_assoc, Nat.reduceAdd] at h2
  simp only [World.size_alloc, Nat.add_assoc, Nat.reduceAdd] at ho
  have g0 := h0 |>.alloc (.cells #[.int .i64 1, .int .i64 4] 3) |>.alloc (.cells #[.int .i64 2, .int .i64 3] 3) |>.alloc (.cells #[.slice (some ⟨W.heap.size, 0, none⟩) 1 1, .slice (some ⟨W.heap.size + 1, 0, none⟩) 2 2, .slice (some ⟨W.heap.size + 2, 0, none⟩) 2 2] 41)
  have g1 := h1 |>.alloc (.cells #[.int .i64 2, .int .i64 3] 3) |>.alloc (.cells #[.slice (some ⟨W.heap.size, 0, none⟩) 1 1, .slice (some ⟨W.heap.size + 1, 0, none⟩) 2 2, .slice (some ⟨W.heap.size + 2, 0, none⟩) 2 2] 41)
  have g2 := h2 |>.alloc (.cells #[.slice (some ⟨W.heap.size, 0, none⟩) 1 1, .slice (some ⟨W.heap.size + 1, 0, none⟩) 2 2, .slice (some ⟨W.heap.size + 2, 0, none⟩) 2 2] 41)
  refine ⟨0, _, rfl, ho, ?_, ?_⟩
  · intro a x r hx hr
    match a with
    | 0 =>
      obtain rfl := Option.some.inj hx
      obtain rfl := Option.some.inj hr
      exact g0
    | 1 =>
      obtain rfl := Option.some.inj hx
      obtain rfl := Option.some.inj hr
      exact g1
    | 2 =>
      obtain rfl := Option.some.inj hx
      obtain rfl := Option.some.inj hr
      exact g2
    | a + 3 => cases hx
  · intro a b x y hx hy hab
    match a, b with
    | 0, 0 => exact absurd rfl hab
    | 0, 1 =>
      obtain rfl := Option.some.inj hx
      obtain rfl := Option.some.inj hy
      exact Or.inr (by simp [Value.ownBlock])
    | 0, 2 =>
      obtain rfl := Option.some.inj hx
      obtain rfl := Option.some.inj hy
      exact Or.inr (by simp [Value.ownBlock])
    | 1, 0 =>
      obtain rfl := Option.some.inj hx
      obtain rfl := Option.some.inj hy
      exact Or.inr (by simp [Value.ownBlock])
    | 1, 1 => exact absurd rfl hab
    | 1, 2 =>
      obtain rfl := Option.some.inj hx
      obtain rfl := Option.some.inj hy
      exact Or.inr (by simp [Value.ownBlock])
    | 2, 0 =>
      obtain rfl := Option.some.inj hx
      obtain rfl := Option.some.inj hy
      exact Or.inr (by simp [Value.ownBlock])
    | 2, 1 =>
      obtain rfl := Option.some.inj hx
      obtain rfl := Option.some.inj hy
      exact Or.inr (by simp [Value.ownBlock])
    | 2, 2 => exact absurd rfl hab
    | a + 3, _ => cases hx
    | 0, b + 3 => cases hy
    | 1, b + 3 => cases hy
    | 2, b + 3 => cases hy
theorem kn_g3 {W : World} {v : Value} (h : Grps W v [[0], [1, 4], [2, 3]]) : Calls Try.prog 36 #[v, .slice (some ⟨W.heap.size + 3, 0, none⟩) 3 3] ((((W.alloc (.cells #[.int .i64 0] 3)).alloc (.cells #[.int .i64 1, .int .i64 4] 3)).alloc (.cells #[.int .i64 2, .int .i64 3] 3)).alloc (.cells #[.slice (some ⟨W.heap.size, 0, none⟩) 1 1, .slice (some ⟨W.heap.size + 1, 0, none⟩) 2 2, .slice (some ⟨W.heap.size + 2, 0, none⟩) 2 2] 41)) fun e w' => e = .returned (.bool true) ∧ Below W.heap.size W w' := by
  have hb0 : Below W.heap.size W ((((W.alloc (.cells #[.int .i64 0] 3)).alloc (.cells #[.int .i64 1, .int .i64 4] 3)).alloc (.cells #[.int .i64 2, .int .i64 3] 3)).alloc (.cells #[.slice (some ⟨W.heap.size, 0, none⟩) 1 1, .slice (some ⟨W.heap.size + 1, 0, none⟩) 2 2, .slice (some ⟨W.heap.size + 2, 0, none⟩) 2 2] 41)) := bal (bal (bal (bal (Below.refl _ _) _) _) _) _
  exact (same_groups v _ [[0], [1, 4], [2, 3]] _ (by decide) (by decide) (h.below hb0) (kn_g3_lit W)).mono fun _ _ ⟨he, hb⟩ => ⟨he, below_step hb0 hb⟩
theorem kn_g1_lit (W : World) : Grps ((W.alloc (.cells #[.int .i64 0, .int .i64 1, .int .i64 2, .int .i64 3, .int .i64 4] 3)).alloc (.cells #[.slice (some ⟨W.heap.size, 0, none⟩) 5 5] 41)) (.slice (some ⟨W.heap.size + 1, 0, none⟩) 1 1) [[0, 1, 2, 3, 4]] := by
  have h0 := World.ownsRow_lit (base := 0) (e := 3) (size := 1) W #[.int .i64 0, .int .i64 1, .int .i64 2, .int .i64 3, .int .i64 4] 5 (Nat.zero_le _) (by decide) rfl
  have ho := World.ownsRow_lit (base := 0) (e := 41) (size := 1) (W.alloc (.cells #[.int .i64 0, .int .i64 1, .int .i64 2, .int .i64 3, .int .i64 4] 3)) #[.slice (some ⟨W.heap.size, 0, none⟩) 5 5] 1 (Nat.zero_le _) (by decide) rfl
  simp only [World.size_alloc, Nat.add_assoc, Nat.reduceAdd] at ho
  have g0 := h0 |>.alloc (.cells #[.slice (some ⟨W.heap.size, 0, none⟩) 5 5] 41)
  refine ⟨0, _, rfl, ho, ?_, ?_⟩
  · intro a x r hx hr
    match a with
    | 0 =>
      obtain rfl := Option.some.inj hx
      obtain rfl := Option.some.inj hr
      exact g0
    | a + 1 => cases hx
  · intro a b x y hx hy hab
    match a, b with
    | 0, 0 => exact absurd rfl hab
    | a + 1, _ => cases hx
    | 0, b + 1 => cases hy
theorem kn_g1 {W : World} {v : Value} (h : Grps W v [[0, 1, 2, 3, 4]]) : Calls Try.prog 36 #[v, .slice (some ⟨W.heap.size + 1, 0, none⟩) 1 1] ((W.alloc (.cells #[.int .i64 0, .int .i64 1, .int .i64 2, .int .i64 3, .int .i64 4] 3)).alloc (.cells #[.slice (some ⟨W.heap.size, 0, none⟩) 5 5] 41)) fun e w' => e = .returned (.bool true) ∧ Below W.heap.size W w' := by
  have hb0 : Below W.heap.size W ((W.alloc (.cells #[.int .i64 0, .int .i64 1, .int .i64 2, .int .i64 3, .int .i64 4] 3)).alloc (.cells #[.slice (some ⟨W.heap.size, 0, none⟩) 5 5] 41)) := bal (bal (Below.refl _ _) _) _
  exact (same_groups v _ [[0, 1, 2, 3, 4]] _ (by decide) (by decide) (h.below hb0) (kn_g1_lit W)).mono fun _ _ ⟨he, hb⟩ => ⟨he, below_step hb0 hb⟩
theorem kn_sp {W : World} {A : Option Addr} {c : Nat} (h : Cloud W A 2 (fun a => (knR a).1) (fun a => (knR a).2.1) (fun a => (knR a).2.2)) :
    Calls Try.prog 24 #[.slice A 2 c, .slice (some ⟨W.heap.size, 0, none⟩) 2 2] (W.alloc (.cells #[.int .i64 0, .int .i64 0, .int .i64 9, .int .i64 2000, .int .i64 0, .int .i64 7] 69)) fun e w' => e = .returned (.bool true) ∧ Below W.heap.size W w' := by
  have hb0 : Below W.heap.size W (W.alloc (.cells #[.int .i64 0, .int .i64 0, .int .i64 9, .int .i64 2000, .int .i64 0, .int .i64 7] 69)) := bal (Below.refl _ _) _
  have hb := BoxAt.new W 69 #[.int .i64 0, .int .i64 0, .int .i64 9, .int .i64 2000, .int .i64 0, .int .i64 7]
  refine (same_points A (some ⟨W.heap.size, 0, none⟩) 2 c 2 _ _ _ _ (by decide) (h.below hb0) (fun _ => ⟨W.heap.size, 0, rfl, fun i hi => ?_⟩)).mono fun _ _ ⟨he, hb⟩ => ⟨he, below_step hb0 hb⟩
  have : i = 0 ∨ i = 1 := by omega
  rcases this with rfl | rfl <;> exact ⟨hb.cell _, hb.cell _, hb.cell _⟩
theorem kn_b1 (W : World) : Calls Try.prog 39 #[.int .i64 1] W fun e w' => e = .returned (.int .i64 0) ∧ Below W.heap.size W w' := by
  have := bound_any 1 W
  rwa [kn_bnd.1] at this
theorem kn_b0 (W : World) : Calls Try.prog 39 #[.int .i64 0] W fun e w' => e = .returned (.int .i64 0) ∧ Below W.heap.size W w' := by
  have := bound_any 0 W
  rwa [kn_bnd.2] at this
theorem kn_ss {W : World} {A : Option Addr} {c : Nat} (h : Spots W A 4 (lX knH) (lY knH)) :
    Calls Try.prog 44 #[.slice A 4 c, .slice (some ⟨W.heap.size, 0, none⟩) 4 4] (W.alloc (.cells #[.int .i64 0, .int .i64 0, .int .i64 2000, .int .i64 0, .int .i64 2000, .int .i64 100, .int .i64 300, .int .i64 400] 24)) fun e w' => e = .returned (.bool true) ∧ Below W.heap.size W w' := by
  have hb0 : Below W.heap.size W (W.alloc (.cells #[.int .i64 0, .int .i64 0, .int .i64 2000, .int .i64 0, .int .i64 2000, .int .i64 100, .int .i64 300, .int .i64 400] 24)) := bal (Below.refl _ _) _
  have hb := BoxAt.new W 24 #[.int .i64 0, .int .i64 0, .int .i64 2000, .int .i64 0, .int .i64 2000, .int .i64 100, .int .i64 300, .int .i64 400]
  refine (same_spots A (some ⟨W.heap.size, 0, none⟩) 4 c 4 _ _ _ (by decide) (h.below hb0) (fun _ => ⟨W.heap.size, 0, rfl, fun i hi => ?_⟩)).mono fun _ _ ⟨he, hb⟩ => ⟨he, below_step hb0 hb⟩
  have : i = 0 ∨ i = 1 ∨ i = 2 ∨ i = 3 := by omega
  rcases this with rfl | rfl | rfl | rfl <;> exact ⟨hb.cell _, hb.cell _⟩
theorem kn_ar {W : World} {A : Option Addr} {c : Nat} (h : Spots W A 4 (lX knH) (lY knH)) : Calls Try.prog 45 #[.slice A 4 c] W fun e w' => e = .returned (.int .i64 970000) ∧ Below W.heap.size W w' :=
  area_any A 4 c _ _ 970000 W h (by decide) (Lib.hid kn_area)
theorem kn_i1 {W : World} {A : Option Addr} {c : Nat} (h : Spots W A 4 (lX knH) (lY knH)) : Calls Try.prog 47 #[.slice A 4 c, .agg #[.int .i64 1000, .int .i64 100]] W fun e w' => e = .returned (.bool true) ∧ Below W.heap.size W w' :=
  inside_any A 4 c _ _ 1000 100 true W h (by decide) (Lib.hid kn_in1)
theorem kn_i2 {W : World} {A : Option Addr} {c : Nat} (h : Spots W A 4 (lX knH) (lY knH)) : Calls Try.prog 47 #[.slice A 4 c, .agg #[.int .i64 1000, .int .i64 300]] W fun e w' => e = .returned (.bool false) ∧ Below W.heap.size W w' :=
  inside_any A 4 c _ _ 1000 300 false W h (by decide) (Lib.hid kn_in2)

set_option maxRecDepth 100000 in
set_option maxHeartbeats 16000000 in
theorem cknown_walk (w : World) : Calls Try.prog 10 #[] w fun e w' => e = .returned (.bool true) ∧ Below w.heap.size w w' := by
  obtain ⟨fM, hfM⟩ : ∃ f : World → World, ∀ W, (Instr.makeSlice 22 (.int .i64 1001) (.int .i64 1001)).run Try.prog W = .ok (.slice (some ⟨W.heap.size, 0, none⟩) 1001 1001) (f W) ∧ W.grownBy (f W) none := by
    obtain ⟨j0_, hj0, hy0, hy1, hy2⟩ := info_parts Try.info69
    exact ⟨_, fun W => Classical.choose_spec (show ∃ w', (Instr.makeSlice 22 (.int .i64 1001) (.int .i64 1001)).run Try.prog W = .ok (.slice (some ⟨W.heap.size, 0, none⟩) 1001 1001) w' ∧ W.grownBy w' none by
      obtain ⟨w', hrun, _, r2⟩ := run_make_full (P := Try.prog) W W.heap.size 22 69 j0_ _ 3 Try.underlying22 hj0 hy0 hy1 .i64 .i64 1001 (by rw [hy2]; omega) (by unfold maxLen; omega) (Nat.le_refl _)
      exact ⟨w', hrun, r2⟩)⟩
  have HMk := Lib.hid (fun W => (hfM W).1)
  have HMg := Lib.hid (fun W => (hfM W).2)
  clear hfM
  go_enter Try.func10, Try.ntmps10
  go_upto_region 2 with (go_at_call 53; (with_reducible refine (shown_any _).mono ?_); rintro e w1 ⟨g, rfl, hc, _, hb1⟩)
  have HB1 := Lib.hid hb1
  have HC1 : Hid (shC w1 g) := Lib.hid hc
  clear hb1 hc
  go_upto_region 4 with (first
    | (go_at_call 16; (with_reducible refine (awake_any _).mono ?_); rintro e w2 ⟨rfl, hb2⟩; have HC2 := Lib.hid (HC1.out.below hb2); have HB2 := Lib.hid (below_step HB1.out hb2); clear hb2)
    | (go_at_call 22; (with_reducible refine (kn_check HC2.out).mono ?_); rintro e w3 ⟨rfl, hb3⟩; have HC3 := Lib.hid (HC2.out.below hb3); have HB3 := Lib.hid (below_step HB2.out hb3); clear hb3)
    | (go_at_call 22; (with_reducible refine (kn_check1 w3).mono ?_); rintro e w4 ⟨rfl, hb4⟩; have HC4 := Lib.hid (HC3.out.below hb4); have HB4 := Lib.hid (below_step HB3.out hb4); clear hb4)
    | (rw [HMk.out w4]; have HC5 := Lib.hid (HC4.out.below (below_of_grown (HMg.out w4))); have HB5 := Lib.hid (below_step HB4.out (below_of_grown (HMg.out w4))); obtain ⟨w5, hw5⟩ : ∃ z, z = fM w4 := ⟨_, rfl⟩; rw [← hw5] at HC5 HB5 ⊢; clear hw5)
    | (go_at_call 22; (with_reducible refine (check_big _ 1001 _ _ (by decide)).mono ?_); rintro e w6 ⟨rfl, hb6⟩; have HC6 := Lib.hid (HC5.out.below hb6); have HB6 := Lib.hid (below_step HB5.out hb6); clear hb6))
  clear HB1 HC1 HB2 HC2 HB3 HC3 HB4 HC4 HB5 HC5 HMk HMg
  go_upto_region 6 with (first
    | (go_at_call 25; (with_reducible refine (kn_idx HC6.out).mono ?_); rintro e w7 ⟨A, c, rfl, hK, hb7⟩; have HC7 := Lib.hid (HC6.out.below hb7); have HB7 := Lib.hid (below_step HB6.out hb7); have HK7 := Lib.hid hK; clear hb7 hK)
    | (go_at_call 25; (with_reducible refine (kn_idx0 HC7.out).mono ?_); rintro e w8 ⟨v8, rfl, hb8⟩; have HC8 := Lib.hid (HC7.out.below hb8); have HB8 := Lib.hid (below_step HB7.out hb8); have HK8 := Lib.hid (Bks.below HK7.out hb8); clear hb8))
  obtain ⟨gb, x0, hA, hr0, q0, q1, q2⟩ := HK8.out.cell (k := 0) (by decide) (by decide)
  obtain ⟨gb', x1, hA', hr1, q3, q4, q5⟩ := HK8.out.cell (k := 1) (by decide) (by decide)
  subst hA
  obtain rfl : gb = gb' := by simpa using hA'
  clear hA'
  replace q0 : w8.cell? ⟨gb, 0, none⟩ = some (.int .i64 0) := q0
  replace q1 : w8.cell? ⟨gb, 1, none⟩ = some (.int .i64 0) := q1
  replace q2 : w8.cell? ⟨gb, 2, none⟩ = some x0 := q2
  have HQ : Hid (w8.cell? ⟨gb, 3, none⟩ = some (.int .i64 2) ∧ w8.cell? ⟨gb, 4, none⟩ = some (.int .i64 0) ∧ w8.cell? ⟨gb, 5, none⟩ = some x1) := Lib.hid ⟨q3, q4, q5⟩
  have lg : gb < w8.heap.size := World.block_lt_of_cell? w8 _ q0
  have HR0 : Hid (Row w8 x0 [0, 1, 4]) := Lib.hid hr0
  have HR1 : Hid (Row w8 x1 [2, 3]) := Lib.hid hr1
  clear q3 q4 q5 hr0 hr1 HK7 HK8 HC6 HB6 HC7 HB7
  obtain ⟨A0, c0, hx0⟩ := HR0.out.form
  obtain ⟨A1, c1, hx1⟩ := HR1.out.form
  replace hx0 : x0 = .slice A0 3 c0 := hx0
  replace hx1 : x1 = .slice A1 2 c1 := hx1
  subst hx0 hx1
  go_upto_region 7 with (first
    | (go_at_call 27; (with_reducible refine (kn_s014 HR0.out).mono ?_); rintro e w9 ⟨rfl, hb9⟩; have q3 : w9.cell? ⟨gb, 3, none⟩ = some (.int .i64 2) := (hb9.cell (p := ⟨gb, 3, none⟩) lg).trans HQ.out.1; have q4 : w9.cell? ⟨gb, 4, none⟩ = some (.int .i64 0) := (hb9.cell (p := ⟨gb, 4, none⟩) lg).trans HQ.out.2.1; have q5 := (hb9.cell (p := ⟨gb, 5, none⟩) lg).trans HQ.out.2.2; have lg9 : gb < w9.heap.size := Nat.lt_of_lt_of_le lg hb9.size; have HC9 := Lib.hid (HC8.out.below hb9); have HB9 := Lib.hid (below_step HB8.out hb9); have HR19 := Lib.hid (HR1.out.below hb9); clear hb9)
    | (go_at_call 27; (with_reducible refine (kn_s23 HR19.out).mono ?_); rintro e w10 ⟨rfl, hb10⟩; have HC10 := Lib.hid (HC9.out.below hb10); have HB10 := Lib.hid (below_step HB9.out hb10); clear hb10))
  clear HB8 HC8 HB9 HC9 HQ HR0 HR1 HR19 q0 q1 q2 lg
  go_upto_region 8 with (first
    | (go_at_call 28; (with_reducible refine (kn_with1 HC10.out).mono ?_); rintro e w11 ⟨r11, rfl, hr11, hb11⟩; have HC11 := Lib.hid (HC10.out.below hb11); have HB11 := Lib.hid (below_step HB10.out hb11); have HR11 := Lib.hid hr11; clear hb11 hr11)
    | (go_at_call 27; (with_reducible refine (kn_s014 HR11.out).mono ?_); rintro e w12 ⟨rfl, hb12⟩; have HC12 := Lib.hid (HC11.out.below hb12); have HB12 := Lib.hid (below_step HB11.out hb12); clear hb12)
    | (go_at_call 30; (with_reducible refine (kn_near1 HC12.out).mono ?_); rintro e w13 ⟨r13, rfl, hr13, hb13⟩; have HC13 := Lib.hid (HC12.out.below hb13); have HB13 := Lib.hid (below_step HB12.out hb13); have HR13 := Lib.hid hr13; clear hb13 hr13)
    | (go_at_call 27; (with_reducible refine (kn_s014 HR13.out).mono ?_); rintro e w14 ⟨rfl, hb14⟩; have HC14 := Lib.hid (HC13.out.below hb14); have HB14 := Lib.hid (below_step HB13.out hb14); clear hb14))
  clear HB10 HC10 HB11 HC11 HB12 HC12 HB13 HC13 HR11 HR13
  go_upto_region 9 with (first
    | (go_at_call 32; (with_reducible refine (kn_nest1 HC14.out).mono ?_); rintro e w15 ⟨r15, rfl, hr15, hb15⟩; have HC15 := Lib.hid (HC14.out.below hb15); have HB15 := Lib.hid (below_step HB14.out hb15); have HR15 := Lib.hid hr15; clear hb15 hr15)
    | (go_at_call 27; (with_reducible refine (kn_s014 HR15.out).mono ?_); rintro e w16 ⟨rfl, hb16⟩; have HC16 := Lib.hid (HC15.out.below hb16); have HB16 := Lib.hid (below_step HB15.out hb16); clear hb16)
    | (go_at_call 32; (with_reducible refine (kn_nest2 HC16.out).mono ?_); rintro e w17 ⟨r17, rfl, hr17, hb17⟩; have HC17 := Lib.hid (HC16.out.below hb17); have HB17 := Lib.hid (below_step HB16.out hb17); have HR17 := Lib.hid hr17; clear hb17 hr17)
    | (go_at_call 27; (with_reducible refine (kn_s23 HR17.out).mono ?_); rintro e w18 ⟨rfl, hb18⟩; have HC18 := Lib.hid (HC17.out.below hb18); have HB18 := Lib.hid (below_step HB17.out hb18); clear hb18)
    | (go_at_call 32; (with_reducible refine (kn_nest3 HC18.out).mono ?_); rintro e w19 ⟨r19, rfl, hr19, hb19⟩; have HC19 := Lib.hid (HC18.out.below hb19); have HB19 := Lib.hid (below_step HB18.out hb19); have HR19 := Lib.hid hr19; clear hb19 hr19)
    | (go_at_call 27; (with_reducible refine (kn_s5 HR19.out).mono ?_); rintro e w20 ⟨rfl, hb20⟩; have HC20 := Lib.hid (HC19.out.below hb20); have HB20 := Lib.hid (below_step HB19.out hb20); clear hb20))
  clear HB14 HC14 HB15 HC15 HB16 HC16 HB17 HC17 HB18 HC18 HB19 HC19 HR15 HR17 HR19
  go_upto_region 11 with (first
    | (go_at_call 34; (with_reducible refine (kn_seg1 HC20.out).mono ?_); rintro e w21 ⟨r21, rfl, hr21, hb21⟩; have HC21 := Lib.hid (HC20.out.below hb21); have HB21 := Lib.hid (below_step HB20.out hb21); have HG1 := Lib.hid hr21; clear hb21 hr21)
    | (go_at_call 34; (with_reducible refine (kn_seg2 HC21.out).mono ?_); rintro e w22 ⟨r22, rfl, hr22, hb22⟩; have HC22 := Lib.hid (HC21.out.below hb22); have HB22 := Lib.hid (below_step HB21.out hb22); have HG12 := Lib.hid (HG1.out.below hb22); have HG2 := Lib.hid hr22; clear hb22 hr22))
  clear HB20 HC20 HB21 HC21 HG1
  go_upto_region 12 with (first
    | (go_at_call 36; (with_reducible refine (kn_g3 HG12.out).mono ?_); rintro e w23 ⟨rfl, hb23⟩; have HC23 := Lib.hid (HC22.out.below hb23); have HB23 := Lib.hid (below_step HB22.out hb23); have HG23 := Lib.hid (HG2.out.below hb23); clear hb23)
    | (go_at_call 36; (with_reducible refine (kn_g1 HG23.out).mono ?_); rintro e w24 ⟨rfl, hb24⟩; have HC24 := Lib.hid (HC23.out.below hb24); have HB24 := Lib.hid (below_step HB23.out hb24); clear hb24))
  clear HB22 HC22 HB23 HC23 HG12 HG2 HG23
  go_upto_region 14 with (first
    | (go_at_call 37; (with_reducible refine (kn_reduce HC24.out).mono ?_); rintro e w25 ⟨A2, c2, rfl, hcl25, hb25⟩; have HC25 := Lib.hid (HC24.out.below hb25); have HB25 := Lib.hid (below_step HB24.out hb25); have HR25 := Lib.hid hcl25; clear hb25 hcl25)
    | (go_at_call 24; (with_reducible refine (kn_sp HR25.out).mono ?_); rintro e w26 ⟨rfl, hb26⟩; have HC26 := Lib.hid (HC25.out.below hb26); have HB26 := Lib.hid (below_step HB25.out hb26); clear hb26)
    | (go_at_call 39; (with_reducible refine (kn_b1 w26).mono ?_); rintro e w27 ⟨rfl, hb27⟩; have HC27 := Lib.hid (HC26.out.below hb27); have HB27 := Lib.hid (below_step HB26.out hb27); clear hb27)
    | (go_at_call 39; (with_reducible refine (kn_b0 w27).mono ?_); rintro e w28 ⟨rfl, hb28⟩; have HC28 := Lib.hid (HC27.out.below hb28); have HB28 := Lib.hid (below_step HB27.out hb28); clear hb28))
  clear HB24 HC24 HB25 HC25 HB26 HC26 HB27 HC27 HR25
  go_upto_region 16 with (first
    | (go_at_call 42; (with_reducible refine (kn_hull1 HC28.out).mono ?_); rintro e w29 ⟨A3, c3, rfl, hs29, hb29⟩; have HC29 := Lib.hid (HC28.out.below hb29); have HB29 := Lib.hid (below_step HB28.out hb29); have HS29 := Lib.hid hs29; clear hb29 hs29)
    | (go_at_call 44; (with_reducible refine (kn_ss HS29.out).mono ?_); rintro e w30 ⟨rfl, hb30⟩; have HC30 := Lib.hid (HC29.out.below hb30); have HB30 := Lib.hid (below_step HB29.out hb30); have HS30 := Lib.hid (HS29.out.below hb30); clear hb30)
    | (go_at_call 45; (with_reducible refine (kn_ar HS30.out).mono ?_); rintro e w31 ⟨rfl, hb31⟩; have HC31 := Lib.hid (HC30.out.below hb31); have HB31 := Lib.hid (below_step HB30.out hb31); have HS31 := Lib.hid (HS30.out.below hb31); clear hb31)
    | (go_at_call 47; (with_reducible refine (kn_i1 HS31.out).mono ?_); rintro e w32 ⟨rfl, hb32⟩; have HC32 := Lib.hid (HC31.out.below hb32); have HB32 := Lib.hid (below_step HB31.out hb32); have HS32 := Lib.hid (HS31.out.below hb32); clear hb32)
    | (go_at_call 47; (with_reducible refine (kn_i2 HS32.out).mono ?_); rintro e w33 ⟨rfl, hb33⟩; have HC33 := Lib.hid (HC32.out.below hb33); have HB33 := Lib.hid (below_step HB32.out hb33); have HS33 := Lib.hid (HS32.out.below hb33); clear hb33))
  clear HB28 HC28 HB29 HC29 HB30 HC30 HB31 HC31 HB32 HC32 HS29 HS30 HS31 HS32 HS33
  go_upto_region 17 with (go_at_call 18; (with_reducible refine (kn_around HC33.out).mono ?_); rintro e w34 ⟨rfl, hb34⟩; have HC34 := Lib.hid (HC33.out.below hb34); have HB34 := Lib.hid (below_step HB33.out hb34); clear hb34)
  have HXa := Lib.hid (BoxAt.new w34 29 #[.int .i64 0, .int .i64 0, .int .i64 2000, .int .i64 400])
  have HCa : Hid (shC (w34.alloc (.cells #[.int .i64 0, .int .i64 0, .int .i64 2000, .int .i64 400] 29)) g) := Lib.hid (HC34.out.below (bal (Below.refl _ _) _))
  have HBa := Lib.hid (bal HB34.out (.cells #[.int .i64 0, .int .i64 0, .int .i64 2000, .int .i64 400] 29))
  obtain ⟨L, hL⟩ : ∃ L, L = w34.heap.size := ⟨_, rfl⟩
  rw [← hL] at HXa ⊢
  clear HC33 HB33 HC34 HB34 hL
  generalize w34.alloc (.cells #[.int .i64 0, .int .i64 0, .int .i64 2000, .int .i64 400] 29) = wa at *
  go_upto_region 18 with (go_at_call 18; (with_reducible refine (kn_around0 wa).mono ?_); rintro e w35 ⟨rfl, hb35⟩; have HC35 := Lib.hid (HCa.out.below hb35); have HB35 := Lib.hid (below_step HBa.out hb35); have HX35 := Lib.hid (box_step HXa.out hb35); clear hb35)
  have HCb : Hid (shC (w35.alloc (.cells #[.int .i64 0, .int .i64 0, .int .i64 0, .int .i64 0] 29)) g) := Lib.hid (HC35.out.below (bal (Below.refl _ _) _))
  have HBb := Lib.hid (bal HB35.out (.cells #[.int .i64 0, .int .i64 0, .int .i64 0, .int .i64 0] 29))
  have HXb := Lib.hid (HX35.out.alloc (.cells #[.int .i64 0, .int .i64 0, .int .i64 0, .int .i64 0] 29))
  clear HCa HBa HXa HC35 HB35 HX35
  generalize w35.alloc (.cells #[.int .i64 0, .int .i64 0, .int .i64 0, .int .i64 0] 29) = wb at *
  go_upto_region 19 with (go_at_call 20; (with_reducible refine (kn_shift HCb.out).mono ?_); rintro e w36 ⟨b, off, cc, rfl, hclo, hb36⟩; have HC36 := Lib.hid (HCb.out.below hb36); have HB36 := Lib.hid (below_step HBb.out hb36); have HX36 := Lib.hid (box_step HXb.out hb36); have HClo := Lib.hid hclo; clear hb36 hclo)
  have x0 : w36.cell? ⟨L, 0, none⟩ = some (.int .i64 0) := HX36.out.cell 0
  have x1 : w36.cell? ⟨L, 1, none⟩ = some (.int .i64 0) := HX36.out.cell 1
  have x2 : w36.cell? ⟨L, 2, none⟩ = some (.int .i64 2000) := HX36.out.cell 2
  have x3 : w36.cell? ⟨L, 3, none⟩ = some (.int .i64 400) := HX36.out.cell 3
  have hclo3 := HClo.out 3 (by decide)
  have y0 : w36.cell? ⟨b, off + 9, none⟩ = some (.int .i64 2001) := hclo3.1
  have y1 : w36.cell? ⟨b, off + 9 + 1, none⟩ = some (.int .i64 99) := hclo3.2.1
  have y2 : w36.cell? ⟨b, off + 9 + 2, none⟩ = some (.int .i64 7) := hclo3.2.2
  have y1' : w36.cell? ⟨b, off + 10, none⟩ = some (.int .i64 99) := y1
  have y2' : w36.cell? ⟨b, off + 11, none⟩ = some (.int .i64 7) := y2
  have lL := HX36.out.lt
  have lb := World.block_lt_of_cell? w36 _ y0
  clear HCb HBb HXb HX36 hclo3
  go_upto_region 22 with fail
  clear x0 x1 x2 x3 y0 y1 y2 y1' y2' lL lb
  go_wp2_with (first
    | (go_at_call 49; (with_reducible refine (kn_register HC36.out HClo.out).mono ?_); rintro e w37 ⟨rfl, hb37⟩; have HB37 := Lib.hid (bal (below_step HB36.out hb37) (.cells #[.int .i64 (-1), .int .i64 1] 24)); have HC37 : Hid (shC (w37.alloc (.cells #[.int .i64 (-1), .int .i64 1] 24)) g) := Lib.hid ((HC36.out.below hb37).below (bal (Below.refl _ _) _)); clear hb37)
    | (go_at_call 51; (with_reducible refine (kn_match1 HC37.out).mono ?_); rintro e w38 ⟨rfl, hb38⟩; have HC38 := Lib.hid (HC37.out.below hb38); have HB38 := Lib.hid (below_step HB37.out hb38))
    | (go_at_call 51; (with_reducible refine (kn_match2 HC38.out).mono ?_); rintro e w39 ⟨rfl, hb39⟩; have HC39 := Lib.hid (HC38.out.below hb39); have HB39 := Lib.hid (below_step HB38.out hb39)))
  go_ret
  exact ⟨rfl, HB39.out⟩
end Go.Proofs.Ytaehfildhmljeaa

namespace Go.Proofs.Ytaehfildhmljeaa
open Go.ChangeShapes Go.WideShapes Go.ChangeAt Go.RowKit Go.Joins

theorem ownK : ownKnob Try.prog.godebug = none := by kernel_rfl
theorem laidOutK : laidOutB Try.prog = true := by kernel_rfl

theorem trodAll_below {H : Type} {enc : TypeId × Value → H} {W W' : World} (hn : Below W.heap.size W W') :
    ∀ (ts : List TypeId) (vs : List Value) (ds : List (DataW H)) (ps : List MemPlace), (∀ t ∈ ts, Try.prog.readableRec t = true ∧ t < Try.prog.types.size) →
      DataW.TrodAll enc Try.prog W 0 (fun _ => true) true ts vs ds ps → (∀ x ∈ ps, x.block < W.heap.size) →
      DataW.TrodAll enc Try.prog W' 0 (fun b => decide (b < W.heap.size)) true ts vs ds ps
  | [], vs, ds, ps, _, h, _ => by
    obtain ⟨rfl, rfl, rfl⟩ := trodAll_nil h
    exact trodAll_mk0
  | t :: ts, vs, ds, ps, ht, h, hlt => by
    obtain ⟨v, vs', d, ds', p, q, rfl, rfl, rfl, h1, h2⟩ := trodAll_cons h
    exact trodAll_cons_mk (Below.trod laidOutK (ht t (by simp)).1 (ht t (by simp)).2 h1 hn (fun x hx => hlt x (by simp [hx]))) (trodAll_below hn ts vs' ds' q (fun t' h' => ht t' (by simp [h'])) h2 (fun x hx => hlt x (by simp [hx])))

/-- A law's word behind a call that returned true and turned nothing. -/
theorem law_post {H : Type} {enc : TypeId × Value → H} {f : Func} {s : ChangeSpec} {W W' : World} {args : Array Value} {ds : List (DataW H)} {before : List MemPlace}
    (hvars : s.vars = []) (hres : f.resultTypes = #[4]) (hts : f.params.toList.all (fun t => Try.prog.readableRec t && decide (t < Try.prog.types.size)) = true)
    (hfr : (s.fn H (ds ++ [])).results = [.lit (.bool true)]) (hfa : (s.fn H (ds ++ [])).args = ds) (hfv : (s.fn H (ds ++ [])).vars = [])
    (hW : DataW.Whole enc Try.prog f.params.toList s.vars false W args.toList ds [] before) (hn : Below W.heap.size W W') :
    s.post enc Try.prog f false true false false W args (.bool true) W' := by
  have hlt : ∀ p ∈ before, p.block < W.heap.size := fun p hp => hW.lt p hp
  obtain ⟨p, q, hA, hV, rfl, hz, hnd⟩ := id hW
  rw [hvars] at hV
  obtain ⟨_, rfl⟩ := trodVars_none hV
  have hb : ∀ t ∈ f.params.toList, Try.prog.readableRec t = true ∧ t < Try.prog.types.size := fun t ht => by
    have := (List.all_eq_true.1 hts) t ht
    simpa using this
  refine ⟨ds, [], _, [], p, [], hW, ?_, ?_, ?_, hn.frame _, fun h => by cases h⟩
  · rw [hfr, hres]; exact trodAll_mk1 (shut_bool Try.underlying4 true)
  · rw [hfa]; exact trodAll_below hn _ _ _ _ hb hA (fun x hx => hlt x (by simp [hx]))
  · rw [hfv, hvars]; exact rfl
end Go.Proofs.Ytaehfildhmljeaa

namespace Go.Proofs.Ytaehfildhmljeaa
open Go.ChangeShapes Go.WideShapes Go.ChangeAt Go.RowKit Go.Joins Go.Deep

section
variable {H : Type} {enc : TypeId × Value → H} {P : Program} {w : World} {base : Nat} {spare : Nat → Bool} {held : Bool}
theorem open_slice_fields {t e : TypeId} {fs : Array Field} {fuel : Nat} {cs : List Value} {x : DataW H × List MemPlace} (ht : P.underlying t = some (.slice e)) (he : P.underlying e = some (.struct fs))
    (hone : oneCellFields P fs = true) (hC : P.cellsOf e = fs.size) (h : DataW.trod enc P w base spare held fuel t cs = some x) :
    (cs = [.slice none 0 0] ∧ x = (.nil, [])) ∨
    ∃ (a : Addr) (len cap m : Nat) (D : Nat → DataW H) (Pl : Nat → List MemPlace), cs = [.slice (some a) len cap] ∧ base ≤ a.block ∧ len ≤ cap ∧ cap ≤ maxLen ∧ m = (if spare a.block then cap else len) ∧
      x = (.slice ((List.range len).map D) ((List.range (m - len)).map fun j => D (len + j)), MemPlace.row a (m * fs.size) ++ (List.range m).flatMap Pl) ∧
      ∀ i, i < m → ∃ (ys : List (DataW H × List MemPlace)) (n : Nat), D i = .agg (ys.map (·.1)) ∧ Pl i = ys.flatMap (·.2) ∧ ys.length = fs.size ∧
        ∀ (j : Nat) (f : Field), fs[j]? = some f → ∃ (v : Value) (y : DataW H × List MemPlace), w.cell? (a.add (i * fs.size + j)) = some v ∧ ys[j]? = some y ∧ DataW.trod enc P w base spare held n f.type [v] = some y := by
  rcases open_slice ht h with h0 | ⟨a, len, cap, m, n, D, Pl, hcs, hb, hl, hm, hmm, hx, hi⟩
  · exact .inl h0
  · refine .inr ⟨a, len, cap, m, D, Pl, hcs, hb, hl, hm, hmm, by rw [hC] at hx; exact hx, fun i him => ?_⟩
    obtain ⟨cs', hc, ht'⟩ := hi i him
    rw [hC] at hc
    obtain ⟨ys, n', hn', hy, hlen, hyl, hf⟩ := DataW.trod_struct he ht'
    obtain ⟨_, hcl, hat⟩ := World.cells?_some hc
    simp only [Prod.mk.injEq] at hy
    refine ⟨ys, n', hy.1, hy.2, hyl, fun j f hj => ?_⟩
    obtain ⟨ho, hk⟩ := hone_of hone j f hj
    have hjl : j < fs.size := (Array.getElem?_eq_some_iff.1 hj).1
    have hcell := hat j hjl
    have hv : cs'[j]? = some (cs'[j]'(by omega)) := List.getElem?_eq_getElem (by omega)
    have h1 := hf j f hj
    rw [ho, hk] at h1
    have hone' : (cs'.drop j).take 1 = [cs'[j]'(by omega)] := by
      rw [List.drop_eq_getElem_cons (by omega)]
      rfl
    rw [hone'] at h1
    have hys : ys[j]? = some (ys[j]'(by omega)) := List.getElem?_eq_getElem (by omega)
    refine ⟨_, _, ?_, hys, h1.trans hys⟩
    rw [← Go.Deep.add_add, hcell, hv]
end

theorem cells24 : Try.prog.cellsOf 24 = 2 := by kernel_rfl
theorem cells69 : Try.prog.cellsOf 69 = 3 := by kernel_rfl
set_option maxRecDepth 100000 in
/-- A spot by value: its two coordinates. -/
theorem open_spot {H : Type} {enc : TypeId × Value → H} {W : World} {base b0 : Nat} {r : Reach} {spare : Nat → Bool} {held : Bool} {v : Value} {d : DataW H} {p : List MemPlace} (hv : Value.okWide Try.prog W r b0 24 v) (h : DataW.Trod enc Try.prog W base spare held 24 v d p) :
    ∃ x y : Int, v = .agg #[.int .i64 x, .int .i64 y] := by
  obtain ⟨c0, c1, y0, y1, m, rfl, rfl, rfl, hy0, hy1⟩ := open_agg2 Try.underlying24 (by kernel_rfl) cells24 hv h
  obtain ⟨a, e0, rfl, wa⟩ := DataW.trod_int Try.underlying2 hy0
  obtain ⟨b, e1, rfl, wb⟩ := DataW.trod_int Try.underlying2 hy1
  simp at e0 e1
  subst e0 e1
  exact ⟨a, b, rfl⟩
/-- The number in a value. -/
def numOf : Value → Int
  | .int _ z => z
  | _ => 0
/-- A slice has no row behind its address where its cells are read. -/
theorem plain_of_cell {w : World} {a : Addr} {v : Value} (h : w.cell? a = some v) : a.spot = none := by
  unfold World.cell? at h
  cases hs : a.spot with
  | none => rfl
  | some z =>
    split at h
    · rw [hs] at h; simp at h
    · cases h
theorem add_flat (b off j : Nat) : (⟨b, off, none⟩ : Addr).add j = ⟨b, off + j, none⟩ := by unfold Addr.add; split <;> simp_all

set_option maxRecDepth 100000 in
/-- A slice of points, or nil. -/
theorem open_points {H : Type} {enc : TypeId × Value → H} {W : World} {base b0 : Nat} {r : Reach} {spare : Nat → Bool} {held : Bool} {v : Value} {d : DataW H} {p : List MemPlace} (hv : Value.okWide Try.prog W r b0 22 v) (h : DataW.Trod enc Try.prog W base spare held 22 v d p) :
    ∃ (A : Option Addr) (n cap : Nat) (X Y V : Nat → Int), v = .slice A n cap ∧ n ≤ cap ∧ Cloud W A n X Y V := by
  obtain ⟨A, n, cap, rfl⟩ := okWide_slice Try.underlying22 hv
  obtain ⟨fuel, hf⟩ := h
  have hf' : DataW.trod enc Try.prog W base spare held fuel 22 [.slice A n cap] = some (d, p) := by simpa [Value.cells] using hf
  rcases open_slice_fields Try.underlying22 Try.underlying69 (by kernel_rfl) (by kernel_rfl) hf' with ⟨hc, _⟩ | ⟨a, len, cap', m, D, Pl, hc, hb, hle, hm, hmm, hx2, hall⟩
  · obtain ⟨rfl, rfl, rfl⟩ : A = none ∧ n = 0 ∧ cap = 0 := by simpa using hc
    exact ⟨none, 0, 0, fun _ => 0, fun _ => 0, fun _ => 0, rfl, Nat.le_refl _, fun h => absurd h (by omega)⟩
  · obtain ⟨rfl, rfl, rfl⟩ : A = some a ∧ n = len ∧ cap = cap' := by simpa using hc
    have hlm : n ≤ m := by rw [hmm]; split <;> omega
    have hcell : ∀ i, i < n → ∃ x y z : Int, W.cell? (a.add (i * 3)) = some (.int .i64 x) ∧ W.cell? (a.add (i * 3 + 1)) = some (.int .i64 y) ∧ W.cell? (a.add (i * 3 + 2)) = some (.int .i64 z) := by
      intro i hi
      obtain ⟨ys, nn, _, _, _, hf⟩ := hall i (by omega)
      obtain ⟨v0, y0, g0, _, t0⟩ := hf 0 _ rfl
      obtain ⟨v1, y1, g1, _, t1⟩ := hf 1 _ rfl
      obtain ⟨v2, y2, g2, _, t2⟩ := hf 2 _ rfl
      obtain ⟨z0, q0, _, _⟩ := DataW.trod_int Try.underlying2 t0
      obtain ⟨z1, q1, _, _⟩ := DataW.trod_int Try.underlying2 t1
      obtain ⟨z2, q2, _, _⟩ := DataW.trod_int Try.underlying2 t2
      simp at q0 q1 q2
      subst q0 q1 q2
      exact ⟨z0, z1, z2, g0, g1, g2⟩
    refine ⟨some a, n, cap, fun i => numOf ((W.cell? (a.add (i * 3))).getD .nilIface), fun i => numOf ((W.cell? (a.add (i * 3 + 1))).getD .nilIface), fun i => numOf ((W.cell? (a.add (i * 3 + 2))).getD .nilIface), rfl, hle, fun hn => ?_⟩
    have hsp : a.spot = none := by
      obtain ⟨x, y, z, g0, _⟩ := hcell 0 hn
      have e : a.add (0 * 3) = a ∨ (a.add (0 * 3)).spot = a.spot := by
        unfold Addr.add
        split <;> simp_all
      have h1 := plain_of_cell g0
      rcases e with e | e
      · rw [e] at h1; exact h1
      · rw [e] at h1; exact h1
    obtain ⟨b, off, spot⟩ := a
    simp only at hsp
    subst hsp
    refine ⟨b, off, rfl, fun i hi => ?_⟩
    obtain ⟨x, y, z, g0, g1, g2⟩ := hcell i hi
    dsimp only
    rw [g0, g1, g2]
    rw [add_flat] at g0 g1 g2
    exact ⟨g0, by rw [Nat.add_assoc]; exact g1, by rw [Nat.add_assoc]; exact g2⟩
end Go.Proofs.Ytaehfildhmljeaa

namespace Go.Proofs.Ytaehfildhmljeaa
open Go.ChangeShapes Go.WideShapes Go.ChangeAt Go.RowKit Go.Joins Go.Deep

set_option maxRecDepth 100000 in
theorem cknown_lifted (os : Os) (started : os.Started) (H : Type) (enc : TypeId × Value → H) :
    ReturnsInHanded {} Try.checked os 10 .any (Rows.cloudKnownSpec.pre6 enc Try.prog Try.f10 Rows.cloudKnownRow.domain false) (Rows.cloudKnownSpec.post enc Try.prog Try.f10 false true false false) := by
  refine returnsInHanded_of_change (C := Try.checked) ownK started (by kernel_rfl) Try.func10
    (ChangeSpec.witness6 (enc := enc) (C := Try.checked) false ⟨#[], #[], []⟩ 8 (by kernel_rfl) (by kernel_rfl) (by kernel_rfl) (by kernel_rfl)) ?_
  intro W base args ds gs before hval0 hW hcnd _
  have hW' := hW
  obtain ⟨p, q, hA0, hV, rfl, hfz, hnd⟩ := hW
  have hA : DataW.TrodAll enc Try.prog W 0 (fun _ => true) true Try.f10.params.toList args.toList ds p := hA0
  rw [Try.params10] at hA
  obtain ⟨hargs, rfl, rfl⟩ := trodAll_nil hA
  obtain rfl : args = #[] := by cases args; simp_all
  obtain ⟨rfl, rfl⟩ := trodVars_none hV
  refine (cknown_walk W).mono fun e W' ⟨he, hn⟩ => ?_
  subst he
  exact ⟨_, rfl, law_post rfl rfl (by kernel_rfl) rfl rfl rfl hW' hn⟩

theorem cknown_holds : Rows.CloudKnownSaid :=
  OpenClaim.holds_of_wide 10 Try.f10 rfl rfl rfl rfl rfl rfl rfl ⟨rfl, rfl, rfl, rfl, rfl⟩ rfl rfl rfl rfl rfl (by kernel_rfl) Try.func10 (by kernel_rfl)
    (of_decide_eq_true (by kernel_rfl)) (by unfold Func.isWrapper; first | (rw [if_pos (by decide +kernel)]; kernel_rfl) | (rw [if_neg (by decide +kernel)]; exact ⟨rfl, rfl⟩))
    (fun os started H enc _ => cknown_lifted os started H enc)
#print axioms cknown_holds
end Go.Proofs.Ytaehfildhmljeaa
