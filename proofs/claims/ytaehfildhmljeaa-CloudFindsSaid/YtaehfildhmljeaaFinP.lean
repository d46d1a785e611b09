/- PROVED HERE: for every slice of points (nil or not, of any number of points, any fields), every area, spot, reach and number, CloudFinds returns true, and its arguments read behind the call as before.
   Conditions: none beyond the given row's own. The file holds Within and Near, Nearest of the reference, then the law's walk, then the law. -/
import Derived.Test.YtaehfildhmljeaaCho
import Derived.Test.YtaehfildhmljeaaRChC
import Derived.BigQuiet
import Derived.Test.YtaehfildhmljeaaRSee
import Derived.Test.YtaehfildhmljeaaQBel
import Derived.Test.YtaehfildhmljeaaNst
import Derived.Test.YtaehfildhmljeaaSegR
import Derived.Test.YtaehfildhmljeaaRef1
import Derived.Test.YtaehfildhmljeaaSIn
import Derived.Test.YtaehfildhmljeaaAwk
import Derived.Test.YtaehfildhmljeaaPtsL
import Derived.Test.YtaehfildhmljeaaOpn
namespace Go.Proofs.Ytaehfildhmljeaa
open Go.RowKit Go.Shelf

set_option maxRecDepth 100000 in
set_option maxHeartbeats 8000000 in
/-- chosen, with Within's function. -/
theorem chosen_with (A : Option Addr) (n cap : Nat) (X Y V : Nat → Int) (p : Nat → Bool) (L1 : Nat) (w : World) (hcl : Cloud w A n X Y V)
    (HP : ∀ k, k < n → ∀ W, Below w.heap.size w W → Calls Try.prog 72 #[sp (X k) (Y k), .pointer (some ⟨L1, 0, none⟩)] W fun e w' => e = .returned (.bool (p k)) ∧ Below W.heap.size W w') :
    Calls Try.prog 71 #[.slice A n cap, .func (.func 72) #[] #[.pointer (some ⟨L1, 0, none⟩)]] w fun e w' =>
      ∃ v, e = .returned v ∧ Row w' v (if chkF n X Y V = 0 then selL p n else []) ∧ Below w.heap.size w w' := by
  have HK := Lib.hid (check_any A n cap X Y V w hcl)
  by_cases hok : chkF n X Y V = 0
  · rw [hok] at HK
    rw [if_pos hok]
    have hn := chkF_le hok
    have HCL := Lib.hid hcl
    have HPP := Lib.hid HP
    have HO := Lib.hid hok
    obtain ⟨i0_, hi0, hz0, hz1, hz2⟩ := info_parts Try.info3
    have hI0 := Lib.hid hi0
    have hZ0 := Lib.hid hz0
    have hZ1 := Lib.hid hz1
    have hZ2 := Lib.hid hz2
    clear hcl HP hok hi0 hz0 hz1 hz2
    go_enter Try.func71, Try.ntmps71
    go_wp2_with (go_at_call 22; (with_reducible refine HK.out.mono ?_); rintro e w1 ⟨rfl, hb1⟩)
    clear HK
    go_loopw [5, 13] (fun o i wr => ∃ (k : Nat) (v : Value), k ≤ n ∧ o = v ∧ i = .int .i64 k ∧ Hid (wr.ownsRow w.heap.size 3 1 v (selL p k).length (natV (selL p k))) ∧ Below w.heap.size w wr) (fun _ i _ => n + 1 - (intOf i).toNat)
    case atStart => exact ⟨0, .slice none 0 0, Nat.zero_le _, rfl, rfl, Lib.hid (World.ownsRow_nil _ _ _ _), hb1⟩
    case round =>
      clear hb1
      obtain ⟨k, v, hk, rfl, rfl, HO3, hB⟩ := hrel
      by_cases hlt : k < n
      · obtain ⟨b, off, e, hc0⟩ := HCL.out (by omega)
        subst e
        have i0 : (0 : Int) ≤ (k : Int) := Int.natCast_nonneg _
        have i1 : (k : Int) < (n : Int) := by omega
        have hbl := hc0.lt (by omega)
        obtain ⟨c0, c1, c2⟩ := (hc0.below hB hbl) k hlt
        have l1 : b < wr.heap.size := Nat.lt_of_lt_of_le hbl hB.size
        have hbd := selL_bd p k
        obtain ⟨z, hz⟩ : ∃ z, z = p k := ⟨_, rfl⟩
        have HZ := Lib.hid hz
        have HC1 := Lib.hid (fun W h => HPP.out k hlt W h)
        rw [← hz] at HC1
        have HS := Lib.hid (fun (W : World) => spot_any (X k) (Y k) (V k) W)
        clear hz hc0
        go_upto_region 7 with fail
        have hb4 : Below wr.heap.size wr (wr.alloc (.cells #[.int .i64 (X k), .int .i64 (Y k), .int .i64 (V k)] 69)) := (Below.refl _ wr).alloc (Nat.le_refl _) _
        have hq := BoxAt.new wr 69 #[.int .i64 (X k), .int .i64 (Y k), .int .i64 (V k)]
        obtain ⟨Lq, hLq⟩ : ∃ q, q = wr.heap.size := ⟨_, rfl⟩
        rw [← hLq] at hq ⊢
        have hBz := below_step hB hb4
        have HO4 := Lib.hid (HO3.out.alloc (.cells #[.int .i64 (X k), .int .i64 (Y k), .int .i64 (V k)] 69))
        clear hLq hb4 c0 c1 c2 l1 hB HO3
        generalize wr.alloc (.cells #[.int .i64 (X k), .int .i64 (Y k), .int .i64 (V k)] 69) = wx at *
        have k0 : wx.cell? ⟨Lq, 0, none⟩ = some (.int .i64 (X k)) := hq.cell 0
        have k1 : wx.cell? ⟨Lq, 1, none⟩ = some (.int .i64 (Y k)) := hq.cell 1
        have k2 : wx.cell? ⟨Lq, 2, none⟩ = some (.int .i64 (V k)) := hq.cell 2
        have l2 := hq.lt
        have HB := Lib.hid hBz
        clear hq hBz
        obtain ⟨Av, cv, hv⟩ := Row.form ⟨_, HO4.out⟩
        subst hv
        obtain ⟨q, hq⟩ : ∃ q, q = (selL p k).length := ⟨_, rfl⟩
        rw [← hq] at HO4 hbd ⊢
        have HQ := Lib.hid hq
        clear hq
        cases z with
        | false =>
          have HE : Hid (selL p (k + 1) = selL p k) := Lib.hid (by show (if p k then _ else _) = _; rw [← HZ.out]; rfl)
          go_wp2_with (first
            | (go_at_call 64; (with_reducible refine (HS.out _).mono ?_); rintro e w2 ⟨rfl, hb2⟩)
            | (go_at_call 72; (with_reducible refine (HC1.out _ (below_step HB.out hb2)).mono ?_); rintro e w3 ⟨rfl, hb3⟩))
          go_roundw
          case rel => exact ⟨k + 1, _, by omega, rfl, by go_num, Lib.hid (by rw [HE.out, ← HQ.out]; exact (HO4.out.kept (grown_of_below (below_step hb2 hb3)) (Classical.em _))), below_step HB.out (below_step hb2 hb3)⟩
          case measure => simp [intOf]; omega
        | true =>
          have HE : Hid (selL p (k + 1) = selL p k ++ [k]) := Lib.hid (by show (if p k then _ else _) = _; rw [← HZ.out]; rfl)
          go_wp2_with (first
            | (go_at_call 64; (with_reducible refine (HS.out _).mono ?_); rintro e w2 ⟨rfl, hb2⟩)
            | (go_at_call 72; (with_reducible refine (HC1.out _ (below_step HB.out hb2)).mono ?_); rintro e w3 ⟨rfl, hb3⟩)
            | (at_builtin; refine wpList_append_lies _ rfl _ _ 41 rfl w.heap.size 3 i0_ (.int .i64 0) 1 8 Try.underlying41 hI0.out hZ0.out hZ1.out hZ2.out rfl (by decide) (.slice Av q cv) q (natV (selL p k)) rfl ((HO4.out.kept (grown_of_below (below_step hb2 hb3)) (Classical.em _)).alloc _) ⟨w3.heap.size, 0, none⟩ 1 1 [.int .i64 (k : Int)] rfl rfl (World.news_of_block (cs := #[.int .i64 (k : Int)]) (t := 3) (fr := (0, 0)) (heap_alloc_new w3 _)) (by simp [Value.oneCell']) (by decide) (by unfold maxLen; omega) (by omega) (by have := (below_step HB.out (below_step hb2 hb3)).size; simp; omega) _ rfl ?_; intro gg cap1 w7 hown7 hgrow hat hlt7))
          have hbx := below_step HB.out (below_step hb2 hb3)
          have hz3 : w.heap.size ≤ w3.heap.size := hbx.size
          have HO7 : Hid (w7.ownsRow w.heap.size 3 1 (.slice (some ⟨gg, 0, none⟩) (q + 1) cap1) (selL p (k + 1)).length (natV (selL p (k + 1)))) := Lib.hid (by
            rw [HE.out, List.length_append, ← HQ.out, ← natV_snoc]
            exact hown7)
          have hB7 : Below w.heap.size w w7 := (hbx.alloc hz3 _).grown hgrow (by simp; omega) (fun g e => by have := (HO4.out.lt _ e).1; omega)
          clear hown7 hat
          go_wp2
          go_roundw
          case rel => exact ⟨k + 1, _, by omega, rfl, by go_num, HO7, hB7⟩
          case measure => simp [intOf]; omega
      · obtain rfl : k = n := by omega
        obtain ⟨A', c', rfl⟩ := Row.form ⟨_, HO3.out⟩
        go_wp2
        go_ret
        exact ⟨_, rfl, ⟨_, HO3.out⟩, hB⟩
  · have HN := Lib.hid hok
    obtain ⟨z, hz⟩ : ∃ z, z = chkF n X Y V := ⟨_, rfl⟩
    rw [← hz] at HK hok
    rw [if_neg HN.out]
    clear HP hcl hz
    go_enter Try.func71, Try.ntmps71
    go_wp2_with (go_at_call 22; (with_reducible refine HK.out.mono ?_); rintro e w1 ⟨rfl, hb1⟩)
    go_ret
    exact ⟨_, rfl, ⟨0, World.ownsRow_nil _ _ _ _⟩, hb1⟩
/-- Does a spot lie in the area? -/
def inA (x y x0 y0 x1 y1 : Int) : Bool := decide (x0 ≤ x) && decide (x ≤ x1) && decide (y0 ≤ y) && decide (y ≤ y1)
set_option maxHeartbeats 4000000 in
theorem wclo_any (x y x0 y0 x1 y1 : Int) (r : Bool) (L1 : Nat) (w : World) (hr : inA x y x0 y0 x1 y1 = r) (h1 : BoxAt w L1 29 #[.int .i64 x0, .int .i64 y0, .int .i64 x1, .int .i64 y1]) :
    Calls Try.prog 72 #[sp x y, .pointer (some ⟨L1, 0, none⟩)] w fun e w' => e = .returned (.bool r) ∧ Below w.heap.size w w' := by
  have c0 : w.cell? ⟨L1, 0, none⟩ = some (.int .i64 x0) := h1.cell 0
  have c1 : w.cell? ⟨L1, 1, none⟩ = some (.int .i64 y0) := h1.cell 1
  have c2 : w.cell? ⟨L1, 2, none⟩ = some (.int .i64 x1) := h1.cell 2
  have c3 : w.cell? ⟨L1, 3, none⟩ = some (.int .i64 y1) := h1.cell 3
  have l1 := h1.lt
  have HR := Lib.hid hr
  clear hr h1
  by_cases g0 : x0 ≤ x
  · by_cases g1 : x ≤ x1
    · by_cases g2 : y0 ≤ y
      · by_cases g3 : y ≤ y1
        · have hz : Hid (true = r) := Lib.hid (by rw [← HR.out]; unfold inA; simp [g0, g1, g2, g3])
          have d3 : decide (y ≤ y1) = true := decide_eq_true g3
          go_enter Try.func72, Try.ntmps72
          go_wp2
          go_ret
          exact ⟨congrArg (fun z => Ending.returned (.bool z)) hz.out, (Below.refl _ w).alloc (Nat.le_refl _) _⟩
        · have hz : Hid (false = r) := Lib.hid (by rw [← HR.out]; unfold inA; simp [g3])
          have d3 : decide (y ≤ y1) = false := decide_eq_false g3
          go_enter Try.func72, Try.ntmps72
          go_wp2
          go_ret
          exact ⟨congrArg (fun z => Ending.returned (.bool z)) hz.out, (Below.refl _ w).alloc (Nat.le_refl _) _⟩
      · have hz : Hid (false = r) := Lib.hid (by rw [← HR.out]; unfold inA; simp [g2])
        have g2' : ¬ y ≥ y0 := g2
        go_enter Try.func72, Try.ntmps72
        go_wp2
        go_ret
        exact ⟨congrArg (fun z => Ending.returned (.bool z)) hz.out, (Below.refl _ w).alloc (Nat.le_refl _) _⟩
    · have hz : Hid (false = r) := Lib.hid (by rw [← HR.out]; unfold inA; simp [g1])
      go_enter Try.func72, Try.ntmps72
      go_wp2
      go_ret
      exact ⟨congrArg (fun z => Ending.returned (.bool z)) hz.out, (Below.refl _ w).alloc (Nat.le_refl _) _⟩
  · have hz : Hid (false = r) := Lib.hid (by rw [← HR.out]; unfold inA; simp [g0])
    go_enter Try.func72, Try.ntmps72
    go_wp2
    go_ret
    exact ⟨congrArg (fun z => Ending.returned (.bool z)) hz.out, (Below.refl _ w).alloc (Nat.le_refl _) _⟩

def withF (X Y V : Nat → Int) (n : Nat) (x0 y0 x1 y1 : Int) : List Nat := if chkF n X Y V = 0 then selL (fun k => inA (X k) (Y k) x0 y0 x1 y1) n else []
set_option maxRecDepth 100000 in
set_option maxHeartbeats 8000000 in
theorem within_any (A : Option Addr) (n cap : Nat) (X Y V : Nat → Int) (x0 y0 x1 y1 : Int) (w : World) (hcl : Cloud w A n X Y V) :
    Calls Try.prog 28 #[.slice A n cap, .agg #[.int .i64 x0, .int .i64 y0, .int .i64 x1, .int .i64 y1]] w fun e w' => ∃ r, e = .returned r ∧ Row w' r (withF X Y V n x0 y0 x1 y1) ∧ Below w.heap.size w w' := by
  have hb1 : Below w.heap.size w (w.alloc (.cells #[.int .i64 x0, .int .i64 y0, .int .i64 x1, .int .i64 y1] 29)) := (Below.refl _ w).alloc (Nat.le_refl _) _
  have hx1 := BoxAt.new w 29 #[.int .i64 x0, .int .i64 y0, .int .i64 x1, .int .i64 y1]
  have HC := Lib.hid (chosen_with A n cap X Y V (fun k => inA (X k) (Y k) x0 y0 x1 y1) w.heap.size _ (hcl.below hb1) (fun k hk W hW => wclo_any (X k) (Y k) x0 y0 x1 y1 _ _ W rfl (box_step hx1 hW)))
  have HB2 := Lib.hid hb1
  clear hb1 hx1 hcl
  obtain ⟨F, hF⟩ : ∃ F, F = withF X Y V n x0 y0 x1 y1 := ⟨_, rfl⟩
  rw [show (if chkF n X Y V = 0 then selL (fun k => inA (X k) (Y k) x0 y0 x1 y1) n else []) = F from hF.symm] at HC
  rw [← hF]
  clear hF
  go_enter Try.func28, Try.ntmps28
  go_wp2_with (go_at_call 71; (with_reducible refine HC.out.mono ?_); rintro e w1 ⟨r, rfl, hr, hb⟩; obtain ⟨A', c', rfl⟩ := hr.form; have HR := Lib.hid hr; clear hr)
  go_ret
  exact ⟨_, rfl, HR.out, below_step HB2.out hb⟩
end Go.Proofs.Ytaehfildhmljeaa

namespace Go.Proofs.Ytaehfildhmljeaa
open Go.RowKit Go.Shelf

set_option maxRecDepth 100000 in
set_option maxHeartbeats 8000000 in
theorem rwithin_any (A : Option Addr) (n cap : Nat) (X Y V : Nat → Int) (x0 y0 x1 y1 : Int) (w : World) (hcl : Cloud w A n X Y V) :
    Calls Try.prog 29 #[.slice A n cap, .agg #[.int .i64 x0, .int .i64 y0, .int .i64 x1, .int .i64 y1]] w fun e w' => ∃ r, e = .returned r ∧ Row w' r (withF X Y V n x0 y0 x1 y1) ∧ Below w.heap.size w w' := by
  have hb0 : Below w.heap.size w (w.alloc (.cells #[.int .i64 x0, .int .i64 y0, .int .i64 x1, .int .i64 y1] 29)) := (Below.refl _ w).alloc (Nat.le_refl _) _
  have hx0 := BoxAt.new w 29 #[.int .i64 x0, .int .i64 y0, .int .i64 x1, .int .i64 y1]
  have HK := Lib.hid (rcheck_any A n cap X Y V _ (hcl.below hb0))
  by_cases hok : chkF n X Y V = 0
  · have hn := chkF_le hok
    have HCL := Lib.hid hcl
    rw [hok] at HK
    have HF : Hid (withF X Y V n x0 y0 x1 y1 = selL (fun k => inA (X k) (Y k) x0 y0 x1 y1) n) := Lib.hid (by unfold withF; rw [if_pos hok])
    obtain ⟨F, hF⟩ : ∃ F, F = withF X Y V n x0 y0 x1 y1 := ⟨_, rfl⟩
    rw [← hF] at HF ⊢
    clear hF hcl hok
    obtain ⟨i0_, hi0, hz0, hz1, hz2⟩ := info_parts Try.info3
    have hI0 := Lib.hid hi0
    have hZ0 := Lib.hid hz0
    have hZ1 := Lib.hid hz1
    have hZ2 := Lib.hid hz2
    clear hi0 hz0 hz1 hz2
    go_enter Try.func29, Try.ntmps29
    go_wp2_with (go_at_call 23; (with_reducible refine HK.out.mono ?_); rintro e w1 ⟨rfl, hb1⟩; have HB1 := Lib.hid (below_step hb0 hb1); have HX1 := Lib.hid (box_step hx0 hb1); clear hb1)
    clear HK
    go_loopw [5, 6] (fun o i wr => ∃ (k : Nat) (v : Value), k ≤ n ∧ o = v ∧ i = .int .i64 k ∧ Hid (wr.ownsRow (w.heap.size + 1) 3 1 v (selL (fun k => inA (X k) (Y k) x0 y0 x1 y1) k).length (natV (selL (fun k => inA (X k) (Y k) x0 y0 x1 y1) k))) ∧ Hid (Below w.heap.size w wr) ∧ Hid (BoxAt wr w.heap.size 29 #[.int .i64 x0, .int .i64 y0, .int .i64 x1, .int .i64 y1])) (fun _ i _ => n + 1 - (intOf i).toNat)
    case atStart => exact ⟨0, .slice none 0 0, Nat.zero_le _, rfl, rfl, Lib.hid (World.ownsRow_nil _ _ _ _), HB1, HX1⟩
    case round =>
      clear HB1 HX1 hb0 hx0
      obtain ⟨k, v, hk, rfl, rfl, HO, HB, HX⟩ := hrel
      have i0 : (0 : Int) ≤ (k : Int) := Int.natCast_nonneg _
      by_cases hlt : k < n
      · obtain ⟨b, off, e, hc0⟩ := HCL.out (by omega)
        subst e
        have i1 : (k : Int) < (n : Int) := by omega
        have hbl := hc0.lt (by omega)
        obtain ⟨c0, c1, c2⟩ := (hc0.below HB.out hbl) k hlt
        have l1 : b < wr.heap.size := Nat.lt_of_lt_of_le hbl HB.out.size
        have hbd := selL_bd (fun k => inA (X k) (Y k) x0 y0 x1 y1) k
        have d0 := HX.out.cell 0
        have d1 := HX.out.cell 1
        have d2 := HX.out.cell 2
        have d3 := HX.out.cell 3
        have l2 := HX.out.lt
        obtain ⟨x, hx⟩ : ∃ x, x = X k := ⟨_, rfl⟩
        obtain ⟨y, hy⟩ : ∃ y, y = Y k := ⟨_, rfl⟩
        have HS : Hid (selL (fun k => inA (X k) (Y k) x0 y0 x1 y1) (k + 1) = if inA x y x0 y0 x1 y1 then selL (fun k => inA (X k) (Y k) x0 y0 x1 y1) k ++ [k] else selL (fun k => inA (X k) (Y k) x0 y0 x1 y1) k) := Lib.hid (by rw [hx, hy]; rfl)
        rw [← hx] at c0
        rw [← hy] at c1
        obtain ⟨z, hz⟩ : ∃ z, z = inA x y x0 y0 x1 y1 := ⟨_, rfl⟩
        have HZ := Lib.hid hz
        rw [← hz] at HS
        obtain ⟨Av, cv, hv⟩ := Row.form ⟨_, HO.out⟩
        subst hv
        obtain ⟨q, hq⟩ : ∃ q, q = (selL (fun k => inA (X k) (Y k) x0 y0 x1 y1) k).length := ⟨_, rfl⟩
        rw [← hq] at HO hbd ⊢
        have HQ := Lib.hid hq
        clear hq hz hx hy hc0
        go_upto_region 7 with fail
        go_cut [53] from 16 to 53 (fun v w' => v = .bool z ∧ Below wr.heap.size wr w')
        case first =>
          by_cases g0 : x0 ≤ x
          · by_cases g1 : x ≤ x1
            · by_cases g2 : y0 ≤ y
              · by_cases g3 : y ≤ y1
                · have hz : z = true := by rw [HZ.out]; unfold inA; simp [g0, g1, g2, g3]
                  subst hz
                  have e0 : decide (x ≥ x0) = true := decide_eq_true g0
                  have e1 : decide (x ≤ x1) = true := decide_eq_true g1
                  have e2 : decide (y ≥ y0) = true := decide_eq_true g2
                  have e3 : decide (y ≤ y1) = true := decide_eq_true g3
                  go_quiet (fail)
                  go_wp2
                  go_meet
                  exact ⟨rfl, below_drewN (Below.refl _ _) _⟩
                · have hz : z = false := by rw [HZ.out]; unfold inA; simp [g3]
                  subst hz
                  have e0 : decide (x ≥ x0) = true := decide_eq_true g0
                  have e1 : decide (x ≤ x1) = true := decide_eq_true g1
                  have e2 : decide (y ≥ y0) = true := decide_eq_true g2
                  have e3 : decide (y ≤ y1) = false := decide_eq_false g3
                  go_quiet (fail)
                  go_wp2
                  go_meet
                  exact ⟨rfl, below_drewN (Below.refl _ _) _⟩
              · have hz : z = false := by rw [HZ.out]; unfold inA; simp [g2]
                subst hz
                have e0 : decide (x ≥ x0) = true := decide_eq_true g0
                have e1 : decide (x ≤ x1) = true := decide_eq_true g1
                have e2 : decide (y ≥ y0) = false := decide_eq_false g2
                go_quiet (fail)
                go_wp2
                go_meet
                exact ⟨rfl, below_drewN (Below.refl _ _) _⟩
            · have hz : z = false := by rw [HZ.out]; unfold inA; simp [g1]
              subst hz
              have e0 : decide (x ≥ x0) = true := decide_eq_true g0
              have e1 : decide (x ≤ x1) = false := decide_eq_false g1
              go_quiet (fail)
              go_wp2
              go_meet
              exact ⟨rfl, below_drewN (Below.refl _ _) _⟩
          · have hz : z = false := by rw [HZ.out]; unfold inA; simp [g0]
            subst hz
            have e0 : decide (x ≥ x0) = false := decide_eq_false g0
            go_quiet (fail)
            go_wp2
            go_meet
            exact ⟨rfl, below_drewN (Below.refl _ _) _⟩
        case rest =>
          obtain ⟨wz, rfl⟩ : ∃ x : World, x = wc := ⟨_, rfl⟩
          obtain ⟨rfl, hbz⟩ := hcut
          have HBz := Lib.hid (below_step HB.out hbz)
          have HXz := Lib.hid (box_step HX.out hbz)
          have HOz := Lib.hid (HO.out.kept (grown_of_below hbz) (Classical.em _))
          clear hbz HB HX HO c0 c1 c2 d0 d1 d2 d3
          cases z with
          | false =>
            go_wp2
            go_roundw
            case rel => exact ⟨k + 1, _, by omega, rfl, by go_num, Lib.hid (by rw [HS.out, if_neg (by simp), ← HQ.out]; exact HOz.out), HBz, HXz⟩
            case measure => simp [intOf]; omega
          | true =>
            have hsz := HXz.out.lt
            go_wp2_with (at_builtin; refine wpList_append_lies _ rfl _ _ 41 rfl (w.heap.size + 1) 3 i0_ (.int .i64 0) 1 8 Try.underlying41 hI0.out hZ0.out hZ1.out hZ2.out rfl (by decide) (.slice Av q cv) q (natV (selL (fun k => inA (X k) (Y k) x0 y0 x1 y1) k)) rfl (HOz.out.alloc _) ⟨wz.heap.size, 0, none⟩ 1 1 [.int .i64 (k : Int)] rfl rfl (World.news_of_block (cs := #[.int .i64 (k : Int)]) (t := 3) (fr := (0, 0)) (heap_alloc_new wz _)) (by simp [Value.oneCell']) (by decide) (by unfold maxLen; omega) (by omega) (by simp; omega) _ rfl ?_; intro gg cap1 w7 hown7 hgrow hat hlt7)
            have HO7 : Hid (w7.ownsRow (w.heap.size + 1) 3 1 (.slice (some ⟨gg, 0, none⟩) (q + 1) cap1) (selL (fun k => inA (X k) (Y k) x0 y0 x1 y1) (k + 1)).length (natV (selL (fun k => inA (X k) (Y k) x0 y0 x1 y1) (k + 1)))) := Lib.hid (by
              rw [HS.out, if_pos rfl, List.length_append, ← HQ.out, ← natV_snoc]
              exact hown7)
            have HB7 := Lib.hid ((HBz.out.alloc (by omega) (.cells #[.int .i64 (k : Int)] 3)).grown hgrow (by simp; omega) (fun g e => by have := (HOz.out.lt _ e).1; omega))
            have HX7 := Lib.hid ((HXz.out.alloc (.cells #[.int .i64 (k : Int)] 3)).grown hgrow (fun e => by have := (HOz.out.lt _ e.symm).1; omega))
            clear hown7 hat
            go_wp2
            go_roundw
            case rel => exact ⟨k + 1, _, by omega, rfl, by go_num, HO7, HB7, HX7⟩
            case measure => simp [intOf]; omega
      · obtain rfl : k = n := by omega
        have i1 : ¬ (k : Int) < (k : Int) := by omega
        obtain ⟨A', c', rfl⟩ := Row.form ⟨_, HO.out⟩
        go_wp2
        go_ret
        exact ⟨_, rfl, ⟨_, by rw [HF.out]; exact HO.out⟩, HB.out⟩
  · have HN := Lib.hid hok
    obtain ⟨z, hz⟩ : ∃ z, z = chkF n X Y V := ⟨_, rfl⟩
    rw [← hz] at HK hok
    have HF : Hid (withF X Y V n x0 y0 x1 y1 = []) := Lib.hid (by unfold withF; rw [if_neg HN.out])
    rw [HF.out]
    clear hcl hz
    go_enter Try.func29, Try.ntmps29
    go_wp2_with (go_at_call 23; (with_reducible refine HK.out.mono ?_); rintro e w1 ⟨rfl, hb1⟩)
    go_ret
    exact ⟨_, rfl, ⟨0, World.ownsRow_nil _ _ _ _⟩, below_step hb0 hb1⟩
end Go.Proofs.Ytaehfildhmljeaa

namespace Go.Proofs.Ytaehfildhmljeaa
open Go.RowKit Go.Shelf

set_option maxRecDepth 100000 in
set_option maxHeartbeats 8000000 in
theorem rnear_any (A : Option Addr) (n cap : Nat) (X Y V : Nat → Int) (p1 p2 rv : Int) (w : World) (hcl : Cloud w A n X Y V) :
    Calls Try.prog 31 #[.slice A n cap, sp p1 p2, .int .i64 rv] w fun e w' => ∃ r, e = .returned r ∧ Row w' r (nearF X Y V n p1 p2 rv) ∧ Below w.heap.size w w' := by
  have hb0 : Below w.heap.size w (w.alloc (.cells #[.int .i64 p1, .int .i64 p2] 24)) := (Below.refl _ w).alloc (Nat.le_refl _) _
  have hx0 := BoxAt.new w 24 #[.int .i64 p1, .int .i64 p2]
  have HK := Lib.hid (rcheck_any A n cap X Y V _ (hcl.below hb0))
  by_cases hok : chkF n X Y V = 0
  · have hn := chkF_le hok
    have HCL := Lib.hid hcl
    rw [hok] at HK
    have HF : Hid (nearF X Y V n p1 p2 rv = selL (fun k => seesF (p1, p2) (X k, Y k) rv) n) := Lib.hid (by unfold nearF; rw [if_pos hok])
    obtain ⟨F, hF⟩ : ∃ F, F = nearF X Y V n p1 p2 rv := ⟨_, rfl⟩
    rw [← hF] at HF ⊢
    clear hF hcl hok
    obtain ⟨i0_, hi0, hz0, hz1, hz2⟩ := info_parts Try.info3
    have hI0 := Lib.hid hi0
    have hZ0 := Lib.hid hz0
    have hZ1 := Lib.hid hz1
    have hZ2 := Lib.hid hz2
    clear hi0 hz0 hz1 hz2
    go_enter Try.func31, Try.ntmps31
    go_wp2_with (go_at_call 23; (with_reducible refine HK.out.mono ?_); rintro e w1 ⟨rfl, hb1⟩; have HB1 := Lib.hid (below_step hb0 hb1); have HX1 := Lib.hid (box_step hx0 hb1); clear hb1)
    clear HK
    go_loopw [7, 8] (fun o i wr => ∃ (k : Nat) (v : Value), k ≤ n ∧ o = v ∧ i = .int .i64 k ∧ Hid (wr.ownsRow (w.heap.size + 1) 3 1 v (selL (fun k => seesF (p1, p2) (X k, Y k) rv) k).length (natV (selL (fun k => seesF (p1, p2) (X k, Y k) rv) k))) ∧ Hid (Below w.heap.size w wr) ∧ Hid (BoxAt wr w.heap.size 24 #[.int .i64 p1, .int .i64 p2])) (fun _ i _ => n + 1 - (intOf i).toNat)
    case atStart => exact ⟨0, .slice none 0 0, Nat.zero_le _, rfl, rfl, Lib.hid (World.ownsRow_nil _ _ _ _), HB1, HX1⟩
    case round =>
      clear HB1 HX1 hb0 hx0
      obtain ⟨k, v, hk, rfl, rfl, HO, HB, HX⟩ := hrel
      have i0 : (0 : Int) ≤ (k : Int) := Int.natCast_nonneg _
      by_cases hlt : k < n
      · obtain ⟨b, off, e, hc0⟩ := HCL.out (by omega)
        subst e
        have i1 : (k : Int) < (n : Int) := by omega
        have hbl := hc0.lt (by omega)
        obtain ⟨c0, c1, c2⟩ := (hc0.below HB.out hbl) k hlt
        have l1 : b < wr.heap.size := Nat.lt_of_lt_of_le hbl HB.out.size
        have hbd := selL_bd (fun k => seesF (p1, p2) (X k, Y k) rv) k
        have d0 := HX.out.cell 0
        have d1 := HX.out.cell 1
        have l2 := HX.out.lt
        obtain ⟨x, hx⟩ : ∃ x, x = X k := ⟨_, rfl⟩
        obtain ⟨y, hy⟩ : ∃ y, y = Y k := ⟨_, rfl⟩
        obtain ⟨u, hu⟩ : ∃ u, u = V k := ⟨_, rfl⟩
        have HS : Hid (selL (fun k => seesF (p1, p2) (X k, Y k) rv) (k + 1) = if seesF (p1, p2) (x, y) rv then selL (fun k => seesF (p1, p2) (X k, Y k) rv) k ++ [k] else selL (fun k => seesF (p1, p2) (X k, Y k) rv) k) := Lib.hid (by rw [hx, hy]; rfl)
        rw [← hx] at c0
        rw [← hy] at c1
        rw [← hu] at c2
        obtain ⟨z, hz⟩ : ∃ z, z = seesF (p1, p2) (x, y) rv := ⟨_, rfl⟩
        have HZ := Lib.hid hz
        have HSe := Lib.hid (fun W => rsees_any p1 p2 x y rv z W (Lib.hid hz.symm))
        rw [← hz] at HS
        obtain ⟨Av, cv, hv⟩ := Row.form ⟨_, HO.out⟩
        subst hv
        obtain ⟨q, hq⟩ : ∃ q, q = (selL (fun k => seesF (p1, p2) (X k, Y k) rv) k).length := ⟨_, rfl⟩
        rw [← hq] at HO hbd ⊢
        have HQ := Lib.hid hq
        clear hq hz hx hy hu hc0
        go_upto_region 7 with fail
        go_cut [25] from 18 to 25 (fun v w' => v = .bool z ∧ Below wr.heap.size wr w')
        case first =>
          have f0 : ∀ n os, (grd wr n os).cell? ⟨b, off + k * 3, none⟩ = some (.int .i64 x) := cell_grd c0
          have f1 : ∀ n os, (grd wr n os).cell? ⟨b, off + k * 3 + 1, none⟩ = some (.int .i64 y) := cell_grd c1
          have f2 : ∀ n os, (grd wr n os).cell? ⟨b, off + k * 3 + 2, none⟩ = some (.int .i64 u) := cell_grd c2
          have f3 : ∀ n os, (grd wr n os).cell? ⟨w.heap.size, 0, none⟩ = some (.int .i64 p1) := cell_grd d0
          have f4 : ∀ n os, (grd wr n os).cell? ⟨w.heap.size, 1, none⟩ = some (.int .i64 p2) := cell_grd d1
          refine wp_region_quiet_grd (by kernel_rfl) (by kernel_rfl) ?_
          repeat (go_big_quiet_step (first
            | (go_at_call 63; with_reducible exact Calls.grd_of (rspot_any _ _ _ _))
            | (go_at_call 75; with_reducible exact Calls.grd_of (HSe.out _))))
          refine wpQuiet_nil ?_
          intro _ hw'
          obtain ⟨⟨nq, osq⟩, rfl⟩ := hw'
          have hq := below_grd wr nq osq
          generalize grd wr nq osq = wq at *
          go_wp2
          go_meet
          exact ⟨rfl, hq⟩
        case rest =>
          obtain ⟨wz, rfl⟩ : ∃ x : World, x = wc := ⟨_, rfl⟩
          obtain ⟨rfl, hbz⟩ := hcut
          have HBz := Lib.hid (below_step HB.out hbz)
          have HXz := Lib.hid (box_step HX.out hbz)
          have HOz := Lib.hid (HO.out.kept (grown_of_below hbz) (Classical.em _))
          clear hbz HB HX HO c0 c1 c2 d0 d1
          cases z with
          | false =>
            go_wp2
            go_roundw
            case rel => exact ⟨k + 1, _, by omega, rfl, by go_num, Lib.hid (by rw [HS.out, if_neg (by simp), ← HQ.out]; exact HOz.out), HBz, HXz⟩
            case measure => simp [intOf]; omega
          | true =>
            have hsz := HXz.out.lt
            go_wp2_with (at_builtin; refine wpList_append_lies _ rfl _ _ 41 rfl (w.heap.size + 1) 3 i0_ (.int .i64 0) 1 8 Try.underlying41 hI0.out hZ0.out hZ1.out hZ2.out rfl (by decide) (.slice Av q cv) q (natV (selL (fun k => seesF (p1, p2) (X k, Y k) rv) k)) rfl (HOz.out.alloc _) ⟨wz.heap.size, 0, none⟩ 1 1 [.int .i64 (k : Int)] rfl rfl (World.news_of_block (cs := #[.int .i64 (k : Int)]) (t := 3) (fr := (0, 0)) (heap_alloc_new wz _)) (by simp [Value.oneCell']) (by decide) (by unfold maxLen; omega) (by omega) (by simp; omega) _ rfl ?_; intro gg cap1 w7 hown7 hgrow hat hlt7)
            have HO7 : Hid (w7.ownsRow (w.heap.size + 1) 3 1 (.slice (some ⟨gg, 0, none⟩) (q + 1) cap1) (selL (fun k => seesF (p1, p2) (X k, Y k) rv) (k + 1)).length (natV (selL (fun k => seesF (p1, p2) (X k, Y k) rv) (k + 1)))) := Lib.hid (by
              rw [HS.out, if_pos rfl, List.length_append, ← HQ.out, ← natV_snoc]
              exact hown7)
            have HB7 := Lib.hid ((HBz.out.alloc (by omega) (.cells #[.int .i64 (k : Int)] 3)).grown hgrow (by simp; omega) (fun g e => by have := (HOz.out.lt _ e).1; omega))
            have HX7 := Lib.hid ((HXz.out.alloc (.cells #[.int .i64 (k : Int)] 3)).grown hgrow (fun e => by have := (HOz.out.lt _ e.symm).1; omega))
            clear hown7 hat
            go_wp2
            go_roundw
            case rel => exact ⟨k + 1, _, by omega, rfl, by go_num, HO7, HB7, HX7⟩
            case measure => simp [intOf]; omega
      · obtain rfl : k = n := by omega
        have i1 : ¬ (k : Int) < (k : Int) := by omega
        obtain ⟨A', c', rfl⟩ := Row.form ⟨_, HO.out⟩
        go_wp2
        go_ret
        exact ⟨_, rfl, ⟨_, by rw [HF.out]; exact HO.out⟩, HB.out⟩
  · have HN := Lib.hid hok
    obtain ⟨z, hz⟩ : ∃ z, z = chkF n X Y V := ⟨_, rfl⟩
    rw [← hz] at HK hok
    have HF : Hid (nearF X Y V n p1 p2 rv = []) := Lib.hid (by unfold nearF; rw [if_neg HN.out])
    rw [HF.out]
    clear hcl hz
    go_enter Try.func31, Try.ntmps31
    go_wp2_with (go_at_call 23; (with_reducible refine HK.out.mono ?_); rintro e w1 ⟨rfl, hb1⟩)
    go_ret
    exact ⟨_, rfl, ⟨0, World.ownsRow_nil _ _ _ _⟩, below_step hb0 hb1⟩
end Go.Proofs.Ytaehfildhmljeaa

namespace Go.Proofs.Ytaehfildhmljeaa
open Go.RowKit Go.Shelf

set_option maxRecDepth 100000 in
set_option maxHeartbeats 8000000 in
theorem nearest_any (A : Option Addr) (n cap : Nat) (X Y V : Nat → Int) (p1 p2 k : Int) (w : World) (hcl : Cloud w A n X Y V) :
    Calls Try.prog 32 #[.slice A n cap, sp p1 p2, .int .i64 k] w fun e w' => ∃ r, e = .returned r ∧ Row w' r (nstF X Y V n p1 p2 k) ∧ Below w.heap.size w w' := by
  by_cases hg : chkF n X Y V = 0 ∧ vldB p1 p2 = true ∧ 1 ≤ k
  · have h := callsIn_wide.1 (nearest_good 3 (Nat.le_refl _) A n cap X Y V p1 p2 k w hcl hg.1 hg.2.1 hg.2.2)
    unfold nstF
    rw [if_pos hg]
    exact h
  · have HN : Hid (nstF X Y V n p1 p2 k = []) := Lib.hid (by unfold nstF; rw [if_neg hg])
    rw [HN.out]
    have hb0 : Below w.heap.size w (w.alloc (.cells #[.int .i64 p1, .int .i64 p2] 24)) := (Below.refl _ w).alloc (Nat.le_refl _) _
    have hx0 := BoxAt.new w 24 #[.int .i64 p1, .int .i64 p2]
    obtain ⟨z, hz⟩ : ∃ z, z = chkF n X Y V := ⟨_, rfl⟩
    obtain ⟨b, hb⟩ : ∃ b, b = vldB p1 p2 := ⟨_, rfl⟩
    have HCh : Hid (∀ W, Below w.heap.size w W → Calls Try.prog 22 #[.slice A n cap] W fun e w' => e = .returned (.int .i64 z) ∧ Below W.heap.size W w') := Lib.hid (fun W hW => by
      rw [hz]
      exact check_any A n cap X Y V W (hcl.below hW))
    have HV := Lib.hid (fun g cap w (h : BoxAt w g 24 #[.int .i64 p1, .int .i64 p2]) => one_vspot g cap p1 p2 b w h (Lib.hid hb.symm))
    have HNil : Hid (∀ W, Below w.heap.size w W → ∃ r, Ending.returned (.slice none 0 0) = Ending.returned r ∧ Row W r [] ∧ Below w.heap.size w W) := Lib.hid (fun W h => ⟨_, rfl, ⟨0, World.ownsRow_nil _ _ _ _⟩, h⟩)
    rw [← hz, ← hb] at hg
    clear hcl hz hb HN
    show Calls Try.prog 32 #[.slice A n cap, .agg #[.int .i64 p1, .int .i64 p2], .int .i64 k] w _
    by_cases h0 : z = 0
    · subst h0
      cases b with
      | false =>
        clear hg
        go_enter Try.func32, Try.ntmps32
        go_wp2_with (first
          | (go_at_call 22; (with_reducible refine (HCh.out _ hb0).mono ?_); rintro e w1 ⟨rfl, hb1⟩; have HB1 := Lib.hid (below_step hb0 hb1); have HX1 := Lib.hid (box_step hx0 hb1); have c0 := HX1.out.cell 0; have c1 := HX1.out.cell 1)
          | (go_at_call 60; (with_reducible refine (HV.out _ _ _ (BoxAt.new _ 24 _)).mono ?_); rintro e w2 ⟨rfl, hb2⟩))
        go_ret
        exact HNil.out _ (below_step HB1.out (below_step ((Below.refl _ w1).alloc (Nat.le_refl _) _) hb2))
      | true =>
        have hk : k < 1 := by
          have : ¬ 1 ≤ k := fun h => hg ⟨rfl, rfl, h⟩
          omega
        clear hg
        go_enter Try.func32, Try.ntmps32
        go_wp2_with (first
          | (go_at_call 22; (with_reducible refine (HCh.out _ hb0).mono ?_); rintro e w1 ⟨rfl, hb1⟩; have HB1 := Lib.hid (below_step hb0 hb1); have HX1 := Lib.hid (box_step hx0 hb1); have c0 := HX1.out.cell 0; have c1 := HX1.out.cell 1)
          | (go_at_call 60; (with_reducible refine (HV.out _ _ _ (BoxAt.new _ 24 _)).mono ?_); rintro e w2 ⟨rfl, hb2⟩))
        go_ret
        exact HNil.out _ (below_step HB1.out (below_step ((Below.refl _ w1).alloc (Nat.le_refl _) _) hb2))
    · clear hg HV
      go_enter Try.func32, Try.ntmps32
      go_wp2_with (go_at_call 22; (with_reducible refine (HCh.out _ hb0).mono ?_); rintro e w1 ⟨rfl, hb1⟩; have HB1 := Lib.hid (below_step hb0 hb1))
      go_ret
      exact HNil.out _ HB1.out
end Go.Proofs.Ytaehfildhmljeaa

namespace Go.Proofs.Ytaehfildhmljeaa
open Go.RowKit Go.Shelf

/-- Whether point a is among the t nearest of n. -/
def tkB (t n : Nat) (D : Nat → Int) (a : Nat) : Bool := decide ((D a, (a : Int)) ∈ kS t D n)
section
variable {t n : Nat} {D : Nat → Int}
theorem tk_some (ht : t < n) : ∃ a, a < n ∧ tkB t n D a = false := by
  refine Classical.byContradiction fun h => ?_
  have hall : ∀ a, a < n → (D a, (a : Int)) ∈ kS t D n := fun a ha => by
    cases e : tkB t n D a with
    | true => exact of_decide_eq_true e
    | false => exact absurd ⟨a, ha, e⟩ h
  have h1 := (nst_kS (k := t) (D := D) n).1
  have h2 := nst_kS (k := n) (D := D) n
  have e : kS t D n = kS n D n := srt_uniq h1.srt h2.1.srt fun x => ⟨fun hx => by
    obtain ⟨a, ha, rfl⟩ := h1.mem x hx
    exact h2.2 (Nat.le_refl _) a ha, fun hx => by
    obtain ⟨a, ha, rfl⟩ := h2.1.mem x hx
    exact hall a ha⟩
  have l1 := h1.len
  have l2 := h2.1.len
  rw [e] at l1
  omega
/-- b is the nearest one that is not taken among the first i. -/
def BstK (t n : Nat) (D : Nat → Int) (i b : Nat) : Prop := b < i ∧ tkB t n D b = false ∧ ∀ a, a < i → tkB t n D a = false → a = b ∨ befB (D b, (b : Int)) (D a, (a : Int)) = true
/-- What the search for it has found among the first i: -1 if all of them are taken. -/
def BstI (t n : Nat) (D : Nat → Int) (i : Nat) (x : Int) : Prop := (x = -1 ∧ ∀ a, a < i → tkB t n D a = true) ∨ ∃ b : Nat, x = (b : Int) ∧ BstK t n D i b
theorem bst_zero : BstI t n D 0 (-1) := .inl ⟨rfl, fun a ha => by omega⟩
theorem bst_taken {i : Nat} {x : Int} (h : BstI t n D i x) (hi : tkB t n D i = true) : BstI t n D (i + 1) x := by
  rcases h with ⟨rfl, h⟩ | ⟨b, rfl, hb, hf, hm⟩
  · refine .inl ⟨rfl, fun a ha => ?_⟩
    by_cases e : a = i
    · rw [e]; exact hi
    · exact h a (by omega)
  · refine .inr ⟨b, rfl, by omega, hf, fun a ha hfa => ?_⟩
    by_cases e : a = i
    · rw [e, hi] at hfa; cases hfa
    · exact hm a (by omega) hfa
theorem bst_first {i : Nat} (h : BstI t n D i (-1)) (hi : tkB t n D i = false) : BstI t n D (i + 1) i := by
  rcases h with ⟨_, h⟩ | ⟨b, e, _⟩
  · refine .inr ⟨i, rfl, by omega, hi, fun a ha hfa => ?_⟩
    by_cases e : a = i
    · exact .inl e
    · rw [h a (by omega)] at hfa; cases hfa
  · omega
theorem bst_less {i b : Nat} (h : BstK t n D i b) (hi : tkB t n D i = false) (hl : D i < D b) : BstI t n D (i + 1) i := by
  refine .inr ⟨i, rfl, by omega, hi, fun a ha hfa => ?_⟩
  by_cases e : a = i
  · exact .inl e
  · have h1 : befB (D i, (i : Int)) (D b, (b : Int)) = true := (bef_iff _ _).2 (.inl hl)
    rcases h.2.2 a (by omega) hfa with rfl | h2
    · exact .inr h1
    · exact .inr (bef_trans h1 h2)
theorem bst_more {i b : Nat} (h : BstK t n D i b) (hl : ¬ D i < D b) : BstI t n D (i + 1) b := by
  refine .inr ⟨b, rfl, by have := h.1; omega, h.2.1, fun a ha hfa => ?_⟩
  by_cases e : a = i
  · subst e
    have := h.1
    refine .inr ((bef_iff _ _).2 ?_)
    simp only
    omega
  · exact h.2.2 a (by omega) hfa
theorem bst_end {x : Int} (h : BstI t n D n x) (ht : t < n) : ∃ b : Nat, x = (b : Int) ∧ BstK t n D n b := by
  rcases h with ⟨_, h⟩ | h
  · obtain ⟨a, ha, e⟩ := tk_some (D := D) ht
    rw [h a ha] at e
    cases e
  · exact h
theorem kS_step {b : Nat} (ht : t < n) (h : BstK t n D n b) : kS (t + 1) D n = kS t D n ++ [(D b, (b : Int))] := by
  have h1 := (nst_kS (k := t) (D := D) n).1
  have hb : (D b, (b : Int)) ∉ kS t D n := of_decide_eq_false h.2.1
  refine nst_one (nst_kS n).1 ⟨?_, fun x hx => ?_, by rw [List.length_append, h1.len]; simp; omega, fun a ha hna y hy => ?_⟩
  · refine List.pairwise_append.2 ⟨h1.srt, List.pairwise_singleton _ _, fun y hy z hz => ?_⟩
    rw [List.mem_singleton] at hz
    rw [hz]
    exact h1.aft b h.1 hb y hy
  · rcases List.mem_append.1 hx with hx | hx
    · exact h1.mem x hx
    · exact ⟨b, h.1, List.mem_singleton.1 hx⟩
  · rw [List.mem_append, List.mem_singleton] at hna
    have hfa : tkB t n D a = false := decide_eq_false (fun h => hna (.inl h))
    rcases List.mem_append.1 hy with hy | hy
    · exact h1.aft a ha (fun h => hna (.inl h)) y hy
    · rw [List.mem_singleton] at hy
      rw [hy]
      rcases h.2.2 a ha hfa with e | e
      · exact absurd (by rw [e]) (fun e2 => hna (.inr e2))
      · exact e
theorem nstN_step {b : Nat} (ht : t < n) (h : BstK t n D n b) : nstN (t + 1) D n = nstN t D n ++ [b] := by
  unfold nstN
  rw [kS_step ht h, List.map_append]
  simp
/-- The row of what is taken. -/
def tkL (t n : Nat) (D : Nat → Int) : List Value := (List.range n).map fun a => .bool (tkB t n D a)
theorem tkL_len : (tkL t n D).length = n := by simp [tkL]
theorem tkL_get {a : Nat} (h : a < n) : (tkL t n D)[a]? = some (.bool (tkB t n D a)) := by simp [tkL, h]
theorem tkL_zero : tkL 0 n D = List.replicate n (.bool false) := by
  apply List.ext_getElem?
  intro j
  by_cases hj : j < n
  · have h0 : kS 0 D n = [] := List.eq_nil_of_length_eq_zero (by rw [(nst_kS (k := 0) (D := D) n).1.len]; omega)
    rw [tkL_get hj, List.getElem?_replicate, if_pos hj]
    unfold tkB
    rw [h0]
    simp
  · rw [List.getElem?_eq_none (by rw [tkL_len]; omega), List.getElem?_eq_none (by simp; omega)]
theorem tkL_set {b : Nat} (ht : t < n) (h : BstK t n D n b) : (tkL t n D).set b (.bool true) = tkL (t + 1) n D := by
  apply List.ext_getElem?
  intro j
  rw [List.getElem?_set]
  by_cases hj : j < n
  · rw [tkL_get hj]
    have hk : tkB (t + 1) n D j = (tkB t n D j || decide (j = b)) := by
      unfold tkB
      rw [kS_step ht h]
      apply Bool.eq_iff_iff.2
      rw [Bool.or_eq_true, decide_eq_true_eq, decide_eq_true_eq, decide_eq_true_eq, List.mem_append, List.mem_singleton]
      constructor
      · rintro (h1 | h1)
        · exact .inl h1
        · exact .inr (by have := congrArg Prod.snd h1; simp only at this; omega)
      · rintro (h1 | rfl)
        · exact .inl h1
        · exact .inr rfl
    by_cases e : b = j
    · subst e
      rw [if_pos rfl, if_pos (by rw [tkL_len]; exact hj), tkL_get hj, hk]
      simp
    · rw [if_neg e, tkL_get hj, hk, decide_eq_false (fun h => e h.symm), Bool.or_false]
  · have := h.1
    rw [if_neg (by omega), List.getElem?_eq_none (by rw [tkL_len]; omega), List.getElem?_eq_none (by rw [tkL_len]; omega)]
/-- More than there are: all of them. -/
theorem nstN_all {k : Nat} (h : n ≤ k) : nstN k D n = nstN n D n := by
  unfold nstN
  have h1 := nst_kS (k := k) (D := D) n
  have h2 := nst_kS (k := n) (D := D) n
  have e : kS k D n = kS n D n := srt_uniq h1.1.srt h2.1.srt fun x => ⟨fun hx => by
    obtain ⟨a, ha, rfl⟩ := h1.1.mem x hx
    exact h2.2 (Nat.le_refl _) a ha, fun hx => by
    obtain ⟨a, ha, rfl⟩ := h2.1.mem x hx
    exact h1.2 h a ha⟩
  rw [e]
end
end Go.Proofs.Ytaehfildhmljeaa

namespace Go.Proofs.Ytaehfildhmljeaa
open Go.RowKit Go.Shelf

/-- The length of a slice. -/
def vlen : Value → Nat
  | .slice _ n _ => n
  | _ => 0
theorem Try.info4 : (Try.prog.info? 4).map (fun i => (i.zero, i.size, i.bytes)) = some (some (.bool false), 1, 1) := by kernel_rfl
set_option maxRecDepth 100000 in
set_option maxHeartbeats 8000000 in
theorem rnearest_good (A : Option Addr) (n cap : Nat) (X Y V : Nat → Int) (p1 p2 k : Int) (w : World) (hcl : Cloud w A n X Y V) (hok : chkF n X Y V = 0) (hv : vldB p1 p2 = true) :
    Calls Try.prog 33 #[.slice A n cap, sp p1 p2, .int .i64 k] w fun e w' => ∃ r, e = .returned r ∧ Row w' r (nstN k.toNat (sqF X Y p1 p2) n) ∧ Below w.heap.size w w' := by
  have hb0 : Below w.heap.size w (w.alloc (.cells #[.int .i64 p1, .int .i64 p2] 24)) := (Below.refl _ w).alloc (Nat.le_refl _) _
  have hx0 := BoxAt.new w 24 #[.int .i64 p1, .int .i64 p2]
  have hn := chkF_le hok
  have HCh := Lib.hid (rcheck_any A n cap X Y V _ (hcl.below hb0))
  rw [hok] at HCh
  have HCL := Lib.hid hcl
  have HV := Lib.hid (fun W => rvalid_any p1 p2 true W (Lib.hid hv))
  clear hcl hok hv
  obtain ⟨D, hD⟩ : ∃ D, D = sqF X Y p1 p2 := ⟨_, rfl⟩
  have HDs : Hid (∀ i W, Calls Try.prog 56 #[sp p1 p2, sp (X i) (Y i)] W fun e w' => e = .returned (.int .i64 (D i)) ∧ Below W.heap.size W w') := Lib.hid (fun i W => rdist_any p1 p2 (X i) (Y i) _ W (Lib.hid (by rw [hD]; rfl)))
  rw [← hD]
  clear hD
  obtain ⟨i0_, hi0, hz0, hz1, hz2⟩ := info_parts Try.info3
  have hI0 := Lib.hid hi0
  have hZ0 := Lib.hid hz0
  have hZ1 := Lib.hid hz1
  have hZ2 := Lib.hid hz2
  clear hi0 hz0 hz1 hz2
  obtain ⟨j0_, hj0, hy0, hy1, hy2⟩ := info_parts Try.info4
  obtain ⟨Lp, hLp⟩ : ∃ z, z = w.heap.size := ⟨_, rfl⟩
  show Calls Try.prog 33 #[.slice A n cap, .agg #[.int .i64 p1, .int .i64 p2], .int .i64 k] w _
  go_enter Try.func33, Try.ntmps33
  go_wp2_with (first
    | (go_at_call 23; (with_reducible refine HCh.out.mono ?_); rintro e w1 ⟨rfl, hb1⟩; have HB1 := Lib.hid (below_step hb0 hb1); have HX1 := Lib.hid (box_step hx0 hb1); have c0 := HX1.out.cell 0; have c1 := HX1.out.cell 1; have l1 := HX1.out.lt; clear hb1)
    | (go_at_call 62; (with_reducible refine (HV.out _).mono ?_); rintro e w2 ⟨rfl, hb2⟩; have HB2 := Lib.hid (below_step HB1.out hb2); have HX2 := Lib.hid (box_step HX1.out hb2); clear hb2)
    | (at_make; refine wpList_make_full _ rfl _ _ 99 rfl w2.heap.size 4 j0_ (.bool false) 1 Try.underlying99 hj0 hy0 hy1 .i64 .i64 _ _ n rfl rfl rfl rfl (by rw [hy2]; omega) (by unfold maxLen; omega) (Nat.le_refl _) ?_; intro wm hownm hgrowm))
  obtain ⟨G, hG⟩ : ∃ G, G = w2.heap.size := ⟨_, rfl⟩
  obtain ⟨B0, hB0⟩ : ∃ B, B = wm.heap.size := ⟨_, rfl⟩
  have HTk : Hid (wm.ownsRow G 4 1 (.slice (some ⟨G, 0, none⟩) n n) n (tkL 0 n D)) := Lib.hid (by
    have e : tkL 0 n D = (madeCells (Value.bool false).cells (n * 1)).toList := by
      rw [Nat.mul_one, tkL_zero]
      exact (toList_madeCells_one (.bool false) n).symm
    rw [e, hG]
    exact hownm)
  have HBm := Lib.hid (below_step HB2.out (below_of_grown hgrowm))
  have HXm := Lib.hid (box_step HX2.out (below_of_grown hgrowm))
  have hGB : G < B0 := by
    have := (hownm.lt w2.heap.size rfl).2
    omega
  have hLG : Lp < G := by
    have := HX2.out.lt
    omega
  have hB0' : B0 ≤ wm.heap.size := by omega
  have hwL : w.heap.size = Lp := hLp.symm
  rw [← hG]
  rw [← hLp] at HXm ⊢
  clear hb0 hx0 HCh HV hj0 hy0 hy1 hy2 HB1 HX1 c0 c1 l1 HB2 HX2 hownm hgrowm hG hB0 hLp
  go_loopw [8] (fun ov wr => ∃ (t : Nat) (v : Value), t ≤ n ∧ t ≤ k.toNat ∧ ov = v ∧ Hid (wr.ownsRow B0 3 1 v t (natV (nstN t D n))) ∧ Hid (wr.ownsRow G 4 1 (.slice (some ⟨G, 0, none⟩) n n) n (tkL t n D)) ∧ Hid (Below Lp w wr) ∧ Hid (BoxAt wr Lp 24 #[.int .i64 p1, .int .i64 p2]) ∧ B0 ≤ wr.heap.size) (fun ov _ => n - vlen ov)
  case atStart =>
    have e : Hid (nstN 0 D n = []) := Lib.hid (List.eq_nil_of_length_eq_zero (by rw [nstN_len]; omega))
    exact ⟨0, _, Nat.zero_le _, Nat.zero_le _, rfl, Lib.hid (by rw [e.out]; exact World.ownsRow_nil _ _ _ _), HTk, Lib.hid (HBm.out.mono (by omega)), HXm, hB0'⟩
  case round =>
    obtain ⟨t, v, ht, htk, rfl, HO, HT, HB, HX, hsz⟩ := hrel
    obtain ⟨Av, cv, hvv⟩ := own_form HO.out
    subst hvv
    have t0 : (0 : Int) ≤ (t : Int) := Int.natCast_nonneg _
    clear HTk HBm HXm hB0'
    by_cases h1 : (t : Int) < k
    · by_cases h2 : t < n
      · have h2' : (t : Int) < (n : Int) := by omega
        obtain ⟨wo, rfl⟩ : ∃ x : World, x = wr := ⟨_, rfl⟩
        go_wp2
        go_loopw [9, 10] (fun bv iv wr => ∃ (i : Nat) (x : Int), i ≤ n ∧ bv = .int .i64 x ∧ iv = .int .i64 i ∧ Hid (BstI t n D i x) ∧ Hid (Below wo.heap.size wo wr)) (fun _ iv _ => n - (intOf iv).toNat)
        case atStart => exact ⟨0, -1, Nat.zero_le _, rfl, rfl, Lib.hid bst_zero, Lib.hid (Below.refl _ _)⟩
        case round =>
          obtain ⟨i, x, hi, rfl, rfl, HBI, HBi⟩ := hrel
          have i0 : (0 : Int) ≤ (i : Int) := Int.natCast_nonneg _
          have HTi := Lib.hid (HT.out.kept (grown_of_below HBi.out) (Classical.em _))
          have HXi := Lib.hid (box_step HX.out HBi.out)
          have lG : G < wr.heap.size := (HTi.out.lt G rfl).2
          by_cases hlt : i < n
          · have i1 : (i : Int) < (n : Int) := by omega
            obtain ⟨b, off, e2, hp⟩ := HCL.out (by omega)
            subst e2
            have hbl := hp.lt (by omega)
            have HBw : Hid (Below w.heap.size w wr) := Lib.hid (by rw [hwL]; exact HB.out.trans (HBi.out.mono (Nat.le_of_lt HX.out.lt)))
            have hall := Lib.hid (hp.below HBw.out hbl)
            have l0 : b < wr.heap.size := Nat.lt_of_lt_of_le hbl HBw.out.size
            have l3 := HXi.out.lt
            have f8 : ∀ n os, (grd wr n os).cell? ⟨Lp, 0, none⟩ = some (.int .i64 p1) := cell_grd (HXi.out.cell 0)
            have f9 : ∀ n os, (grd wr n os).cell? ⟨Lp, 1, none⟩ = some (.int .i64 p2) := cell_grd (HXi.out.cell 1)
            have d0 : wr.cell? ⟨G, i, none⟩ = some (.bool (tkB t n D i)) := (World.ownsRow.cellAt HTi.out i (by omega)).trans (tkL_get hlt)
            clear hp hbl
            cases hz : tkB t n D i with
            | true =>
              rw [hz] at d0
              have f0 : ∀ n os, (grd wr n os).cell? ⟨G, i, none⟩ = some (.bool true) := cell_grd d0
              have HN := Lib.hid (bst_taken HBI.out hz)
              clear d0 hz HBI
              go_wp2_with fail
              refine wp_region_quiet_grd (by kernel_rfl) (by kernel_rfl) ?_
              repeat (go_big_quiet_step (first | (go_at_call 63; with_reducible exact Calls.grd_of (rspot_any _ _ _ _)) | (go_at_call 56; with_reducible exact Calls.grd_of (HDi.out _))))
              refine wpQuiet_nil ?_
              intro _ hw'
              obtain ⟨⟨nq, osq⟩, rfl⟩ := hw'
              have Hq := Lib.hid (below_grd wr nq osq)
              generalize grd wr nq osq = wq at *
              clear f0 f8 f9
              go_wp2
              go_roundw
              case rel => exact ⟨i + 1, x, by omega, rfl, by go_num, HN, Lib.hid (below_step HBi.out Hq.out)⟩
              case measure => first | (simp [intOf]; done) | (simp [intOf]; omega)
            | false =>
              rw [hz] at d0
              have f0 : ∀ n os, (grd wr n os).cell? ⟨G, i, none⟩ = some (.bool false) := cell_grd d0
              clear d0
              rcases id HBI.out with ⟨rfl, _⟩ | ⟨bb, rfl, hbk⟩
              · have HN := Lib.hid (bst_first HBI.out hz)
                clear hz HBI
                go_wp2_with fail
                refine wp_region_quiet_grd (by kernel_rfl) (by kernel_rfl) ?_
                repeat (go_big_quiet_step (first | (go_at_call 63; with_reducible exact Calls.grd_of (rspot_any _ _ _ _)) | (go_at_call 56; with_reducible exact Calls.grd_of (HDi.out _))))
                refine wpQuiet_nil ?_
                intro _ hw'
                obtain ⟨⟨nq, osq⟩, rfl⟩ := hw'
                have Hq := Lib.hid (below_grd wr nq osq)
                generalize grd wr nq osq = wq at *
                clear f0 f8 f9
                go_wp2
                go_roundw
                case rel => exact ⟨i + 1, (i : Int), by omega, rfl, by go_num, HN, Lib.hid (below_step HBi.out Hq.out)⟩
                case measure => first | (simp [intOf]; done) | (simp [intOf]; omega)
              · have hbb : bb < n := by have := hbk.1; omega
                have b0 : ¬ (bb : Int) < 0 := by omega
                have b1 : (0 : Int) ≤ (bb : Int) := Int.natCast_nonneg _
                have b2 : (bb : Int) < (n : Int) := by omega
                obtain ⟨c0, c1, c2⟩ := hall.out i hlt
                obtain ⟨e0, e1, e2⟩ := hall.out bb hbb
                have HDi := Lib.hid (HDs.out i)
                have HDb := Lib.hid (HDs.out bb)
                have hcase : Hid ((D i < D bb → BstI t n D (i + 1) i) ∧ (¬ D i < D bb → BstI t n D (i + 1) bb)) := Lib.hid ⟨bst_less hbk hz, bst_more hbk⟩
                obtain ⟨xi, hxi⟩ : ∃ z, z = X i := ⟨_, rfl⟩
                obtain ⟨yi, hyi⟩ : ∃ z, z = Y i := ⟨_, rfl⟩
                obtain ⟨vi, hvi⟩ : ∃ z, z = V i := ⟨_, rfl⟩
                obtain ⟨di, hdi⟩ : ∃ z, z = D i := ⟨_, rfl⟩
                rw [← hxi] at c0 HDi
                rw [← hyi] at c1 HDi
                rw [← hvi] at c2
                rw [← hdi] at HDi hcase
                obtain ⟨xb, hxb⟩ : ∃ z, z = X bb := ⟨_, rfl⟩
                obtain ⟨yb, hyb⟩ : ∃ z, z = Y bb := ⟨_, rfl⟩
                obtain ⟨vb, hvb⟩ : ∃ z, z = V bb := ⟨_, rfl⟩
                obtain ⟨db, hdb⟩ : ∃ z, z = D bb := ⟨_, rfl⟩
                rw [← hxb] at e0 HDb
                rw [← hyb] at e1 HDb
                rw [← hvb] at e2
                rw [← hdb] at HDb hcase
                have f1 : ∀ n os, (grd wr n os).cell? ⟨b, off + i * 3, none⟩ = some (.int .i64 xi) := cell_grd c0
                have f2 : ∀ n os, (grd wr n os).cell? ⟨b, off + i * 3 + 1, none⟩ = some (.int .i64 yi) := cell_grd c1
                have f3 : ∀ n os, (grd wr n os).cell? ⟨b, off + i * 3 + 2, none⟩ = some (.int .i64 vi) := cell_grd c2
                have f4 : ∀ n os, (grd wr n os).cell? ⟨b, off + bb * 3, none⟩ = some (.int .i64 xb) := cell_grd e0
                have f5 : ∀ n os, (grd wr n os).cell? ⟨b, off + bb * 3 + 1, none⟩ = some (.int .i64 yb) := cell_grd e1
                have f6 : ∀ n os, (grd wr n os).cell? ⟨b, off + bb * 3 + 2, none⟩ = some (.int .i64 vb) := cell_grd e2
                clear hz HBI hbk hxi hyi hvi hdi hxb hyb hvb hdb c0 c1 c2 e0 e1 e2 hall HXi HTi
                by_cases hl : di < db
                · have HN := Lib.hid (hcase.out.1 hl)
                  clear hcase
                  go_wp2_with fail
                  have bg : decide ((bb : Int) < 0) = false := decide_eq_false (by omega)
                  refine wp_region_quiet_grd (by kernel_rfl) (by kernel_rfl) ?_
                  repeat (go_big_quiet_step (first | (go_at_call 63; with_reducible exact Calls.grd_of (rspot_any _ _ _ _)) | (go_at_call 56; with_reducible exact Calls.grd_of (HDi.out _)) | (go_at_call 56; with_reducible exact Calls.grd_of (HDb.out _))))
                  refine wpQuiet_nil ?_
                  intro _ hw'
                  obtain ⟨⟨nq, osq⟩, rfl⟩ := hw'
                  have Hq := Lib.hid (below_grd wr nq osq)
                  generalize grd wr nq osq = wq at *
                  clear f0 f8 f9 f1 f2 f3 f4 f5 f6
                  go_wp2
                  go_roundw
                  case rel => exact ⟨i + 1, (i : Int), by omega, rfl, by go_num, HN, Lib.hid (below_step HBi.out Hq.out)⟩
                  case measure => first | (simp [intOf]; done) | (simp [intOf]; omega)
                · have HN := Lib.hid (hcase.out.2 hl)
                  clear hcase
                  go_wp2_with fail
                  have bg : decide ((bb : Int) < 0) = false := decide_eq_false (by omega)
                  refine wp_region_quiet_grd (by kernel_rfl) (by kernel_rfl) ?_
                  repeat (go_big_quiet_step (first | (go_at_call 63; with_reducible exact Calls.grd_of (rspot_any _ _ _ _)) | (go_at_call 56; with_reducible exact Calls.grd_of (HDi.out _)) | (go_at_call 56; with_reducible exact Calls.grd_of (HDb.out _))))
                  refine wpQuiet_nil ?_
                  intro _ hw'
                  obtain ⟨⟨nq, osq⟩, rfl⟩ := hw'
                  have Hq := Lib.hid (below_grd wr nq osq)
                  generalize grd wr nq osq = wq at *
                  clear f0 f8 f9 f1 f2 f3 f4 f5 f6
                  go_wp2
                  go_roundw
                  case rel => exact ⟨i + 1, (bb : Int), by omega, rfl, by go_num, HN, Lib.hid (below_step HBi.out Hq.out)⟩
                  case measure => first | (simp [intOf]; done) | (simp [intOf]; omega)
          · obtain rfl : i = n := by omega
            obtain ⟨b, rfl, hbk⟩ := bst_end HBI.out h2
            have hbi : b < i := hbk.1
            have b0 : (0 : Int) ≤ (b : Int) := Int.natCast_nonneg _
            have b1 : (b : Int) < (i : Int) := by omega
            have d0 : wr.cell? ⟨G, b, none⟩ = some (.bool false) := by
              rw [World.ownsRow.cellAt HTi.out b (by omega), tkL_get hbi, hbk.2.1]
            have f0 : wr.frozen? ⟨G, b, none⟩ = false := World.ownsRow.frozenAt HTi.out b
            have HNs : Hid (natV (nstN (t + 1) D i) = natV (nstN t D i) ++ [.int .i64 (b : Int)]) := Lib.hid (by rw [nstN_step h2 hbk]; simp [natV])
            have HTs : Hid ((wr.setCell ⟨G, b, none⟩ (.bool true)).ownsRow G 4 1 (.slice (some ⟨G, 0, none⟩) i i) i (tkL (t + 1) i D)) := Lib.hid (by
              rw [← tkL_set h2 hbk]
              exact (HTi.out.stored b _).1)
            have hAv : ∀ q, (Value.slice Av t cv).ownBlock = some q → B0 ≤ q := fun q e => (HO.out.lt q e).1
            have HOs : Hid ((wr.setCell ⟨G, b, none⟩ (.bool true)).ownsRow B0 3 1 (.slice Av t cv) t (natV (nstN t D i))) := Lib.hid ((HO.out.kept (grown_of_below HBi.out) (Classical.em _)).kept (grown_set _ _ _ _) (by
              cases h : (Value.slice Av t cv).ownBlock with
              | none => exact .inl rfl
              | some q => exact .inr (fun e => by have := hAv q h; simp at e; omega)))
            have HBs : Hid (Below Lp w (wr.setCell ⟨G, b, none⟩ (.bool true))) := Lib.hid ((HB.out.trans (HBi.out.mono (Nat.le_of_lt HX.out.lt))).setCell (by show Lp ≤ G; omega) _)
            have HXs : Hid (BoxAt (wr.setCell ⟨G, b, none⟩ (.bool true)) Lp 24 #[.int .i64 p1, .int .i64 p2]) := Lib.hid (HXi.out.other (by omega) _ _)
            have hss : B0 ≤ (wr.setCell ⟨G, b, none⟩ (.bool true)).heap.size := by simp; have := HBi.out.size; omega
            clear HBI hbk HO HT HB HX hsz HTi HXi HBi
            go_upto_region 13 with fail
            clear d0 f0 lG
            generalize wr.setCell ⟨G, b, none⟩ (.bool true) = ws at *
            go_wp2_with (at_builtin; refine wpList_append_lies _ rfl _ _ 41 rfl B0 3 i0_ _ 1 8 Try.underlying41 hI0.out hZ0.out hZ1.out hZ2.out rfl (by decide) (.slice Av t cv) t (natV (nstN t D i)) rfl (HOs.out.alloc _) ⟨ws.heap.size, 0, none⟩ 1 1 [.int .i64 (b : Int)] rfl rfl (World.news_of_block (cs := #[.int .i64 (b : Int)]) (t := 3) (fr := (0, 0)) (heap_alloc_new ws _)) (by simp [Value.oneCell']) (by decide) (by unfold maxLen; omega) (by omega) (by simp; omega) _ rfl ?_; intro gg cap1 w7 hown7 hgrow hat hlt7)
            have hnG : some G ≠ (Value.slice Av t cv).ownBlock := fun e => by have := hAv G e.symm; omega
            have hnL : some Lp ≠ (Value.slice Av t cv).ownBlock := fun e => by have := hAv Lp e.symm; omega
            go_roundw
            case rel =>
              refine ⟨t + 1, _, by omega, by omega, rfl, Lib.hid (by rw [HNs.out]; exact hown7), Lib.hid ((HTs.out.alloc _).kept hgrow (.inr (by simpa [Value.ownBlock] using hnG))), Lib.hid ((HBs.out.alloc (by omega) _).grown hgrow (by simp; omega) (fun q e => by have := hAv q e; omega)), Lib.hid ((HXs.out.alloc _).grown hgrow hnL), ?_⟩
              have := hgrow.size
              simp at this
              omega
            case measure => simp [vlen]; omega
      · have HEq : Hid (nstN k.toNat D n = nstN t D n) := Lib.hid (by
          obtain rfl : t = n := by omega
          exact nstN_all htk)
        have h2' : ¬ (t : Int) < (n : Int) := by omega
        go_wp2
        go_ret
        exact ⟨_, rfl, ⟨B0, by rw [HEq.out, nstN_len, Nat.min_eq_left ht]; exact HO.out⟩, HB.out⟩
    · have HEq : Hid (nstN k.toNat D n = nstN t D n) := Lib.hid (by rw [show k.toNat = t by omega])
      go_wp2
      go_ret
      exact ⟨_, rfl, ⟨B0, by rw [HEq.out, nstN_len, Nat.min_eq_left ht]; exact HO.out⟩, HB.out⟩
end Go.Proofs.Ytaehfildhmljeaa

namespace Go.Proofs.Ytaehfildhmljeaa
open Go.RowKit Go.Shelf

set_option maxRecDepth 100000 in
set_option maxHeartbeats 8000000 in
theorem rnearest_any (A : Option Addr) (n cap : Nat) (X Y V : Nat → Int) (p1 p2 k : Int) (w : World) (hcl : Cloud w A n X Y V) :
    Calls Try.prog 33 #[.slice A n cap, sp p1 p2, .int .i64 k] w fun e w' => ∃ r, e = .returned r ∧ Row w' r (nstF X Y V n p1 p2 k) ∧ Below w.heap.size w w' := by
  by_cases hg : chkF n X Y V = 0 ∧ vldB p1 p2 = true
  · have h := rnearest_good A n cap X Y V p1 p2 k w hcl hg.1 hg.2
    have e : nstF X Y V n p1 p2 k = nstN k.toNat (sqF X Y p1 p2) n := by
      unfold nstF
      by_cases hk : 1 ≤ k
      · rw [if_pos ⟨hg.1, hg.2, hk⟩]
      · rw [if_neg (fun h => hk h.2.2), show k.toNat = 0 by omega]
        exact (List.eq_nil_of_length_eq_zero (by rw [nstN_len]; omega)).symm
    rw [e]
    exact h
  · have HN : Hid (nstF X Y V n p1 p2 k = []) := Lib.hid (by unfold nstF; rw [if_neg (fun h => hg ⟨h.1, h.2.1⟩)])
    rw [HN.out]
    have hb0 : Below w.heap.size w (w.alloc (.cells #[.int .i64 p1, .int .i64 p2] 24)) := (Below.refl _ w).alloc (Nat.le_refl _) _
    have hx0 := BoxAt.new w 24 #[.int .i64 p1, .int .i64 p2]
    obtain ⟨z, hz⟩ : ∃ z, z = chkF n X Y V := ⟨_, rfl⟩
    obtain ⟨b, hb⟩ : ∃ b, b = vldB p1 p2 := ⟨_, rfl⟩
    have HCh := Lib.hid (rcheck_any A n cap X Y V _ (hcl.below hb0))
    have HV := Lib.hid (fun W => rvalid_any p1 p2 b W (Lib.hid hb.symm))
    have HNil : Hid (∀ W, Below w.heap.size w W → ∃ r, Ending.returned (.slice none 0 0) = Ending.returned r ∧ Row W r [] ∧ Below w.heap.size w W) := Lib.hid (fun W h => ⟨_, rfl, ⟨0, World.ownsRow_nil _ _ _ _⟩, h⟩)
    rw [← hz] at HCh
    rw [← hz, ← hb] at hg
    clear hcl hz hb HN
    show Calls Try.prog 33 #[.slice A n cap, .agg #[.int .i64 p1, .int .i64 p2], .int .i64 k] w _
    by_cases h0 : z = 0
    · subst h0
      cases b with
      | false =>
        clear hg
        go_enter Try.func33, Try.ntmps33
        go_wp2_with (first
          | (go_at_call 23; (with_reducible refine HCh.out.mono ?_); rintro e w1 ⟨rfl, hb1⟩; have HB1 := Lib.hid (below_step hb0 hb1); have HX1 := Lib.hid (box_step hx0 hb1); have c0 := HX1.out.cell 0; have c1 := HX1.out.cell 1)
          | (go_at_call 62; (with_reducible refine (HV.out _).mono ?_); rintro e w2 ⟨rfl, hb2⟩))
        go_ret
        exact HNil.out _ (below_step HB1.out hb2)
      | true => exact absurd ⟨rfl, rfl⟩ hg
    · clear hg HV
      go_enter Try.func33, Try.ntmps33
      go_wp2_with (go_at_call 23; (with_reducible refine HCh.out.mono ?_); rintro e w1 ⟨rfl, hb1⟩; have HB1 := Lib.hid (below_step hb0 hb1))
      go_ret
      exact HNil.out _ HB1.out
theorem withF_len (X Y V : Nat → Int) (n : Nat) (x0 y0 x1 y1 : Int) : (withF X Y V n x0 y0 x1 y1).length ≤ n := by
  unfold withF
  split
  · exact selL_bd _ n
  · simp
theorem nearF_len (X Y V : Nat → Int) (n : Nat) (a b v : Int) : (nearF X Y V n a b v).length ≤ n := by
  unfold nearF
  split
  · exact selL_bd _ n
  · simp
theorem nstF_len (X Y V : Nat → Int) (n : Nat) (a b k : Int) : (nstF X Y V n a b k).length ≤ n := by
  unfold nstF
  split
  · rw [nstN_len]; omega
  · simp

set_option maxRecDepth 100000 in
set_option maxHeartbeats 16000000 in
theorem cfinds_walk (A : Option Addr) (n cap : Nat) (X Y V : Nat → Int) (x0 y0 x1 y1 p1 p2 rv k : Int) (w : World) (hcl : Cloud w A n X Y V) :
    Calls Try.prog 5 #[.slice A n cap, .agg #[.int .i64 x0, .int .i64 y0, .int .i64 x1, .int .i64 y1], .agg #[.int .i64 p1, .int .i64 p2], .int .i64 rv, .int .i64 k] w fun e w' => e = .returned (.bool true) ∧ Below w.heap.size w w' := by
  have hB := Below.refl w.heap.size w
  obtain ⟨lg, hlg⟩ : ∃ lg, lg = decide ((60 < n ∧ n ≤ 1000) ∨ 1100 < n) := ⟨_, rfl⟩
  have HL := Lib.hid (fun W : World => (show Calls Try.prog 15 #[.slice A n cap, .int .i64 60] W fun e w' => e = .returned (.bool lg) ∧ Below W.heap.size W w' from long_any A n cap 60 lg (Lib.hid hlg.symm) W))
  have hb0 : Below w.heap.size w ((w.alloc (.cells #[.int .i64 x0, .int .i64 y0, .int .i64 x1, .int .i64 y1] 29)).alloc (.cells #[.int .i64 p1, .int .i64 p2] 24)) := ((Below.refl _ w).alloc (Nat.le_refl _) _).alloc (by simp) _
  cases lg with
  | true =>
    clear hlg hcl
    go_enter Try.func5, Try.ntmps5
    go_wp2_with (first
      | (go_at_call 15; (with_reducible refine (HL.out _).mono ?_); rintro e w1 ⟨rfl, hb1⟩; replace hB := below_step hb0 hb1)
      | (go_at_call 16; (with_reducible refine (awake_any _).mono ?_); rintro e w2 ⟨rfl, hb2⟩; replace hB := below_step hB hb2))
    go_ret
    exact ⟨rfl, hB⟩
  | false =>
    have hn : n ≤ 1100 := by
      have h := hlg.symm
      rw [decide_eq_false_iff_not] at h
      omega
    have HW := Lib.hid (fun (W : World) (h : Cloud W A n X Y V) => within_any A n cap X Y V x0 y0 x1 y1 W h)
    have HRW := Lib.hid (fun (W : World) (h : Cloud W A n X Y V) => rwithin_any A n cap X Y V x0 y0 x1 y1 W h)
    have HNe := Lib.hid (fun (W : World) (h : Cloud W A n X Y V) => near_any A n cap X Y V p1 p2 rv W h)
    have HRN := Lib.hid (fun (W : World) (h : Cloud W A n X Y V) => rnear_any A n cap X Y V p1 p2 rv W h)
    have HNs := Lib.hid (fun (W : World) (h : Cloud W A n X Y V) => nearest_any A n cap X Y V p1 p2 k W h)
    have HRs := Lib.hid (fun (W : World) (h : Cloud W A n X Y V) => rnearest_any A n cap X Y V p1 p2 k W h)
    have hl1 := withF_len X Y V n x0 y0 x1 y1
    have hl2 := nearF_len X Y V n p1 p2 rv
    have hl3 := nstF_len X Y V n p1 p2 k
    generalize withF X Y V n x0 y0 x1 y1 = L1 at *
    generalize nearF X Y V n p1 p2 rv = L2 at *
    generalize nstF X Y V n p1 p2 k = L3 at *
    have HI := Lib.hid (fun (l : List Nat) (hl : l.length ≤ n) (v1 v2 : Value) (W : World) (h1 : Row W v1 l) (h2 : Row W v2 l) => same_ints v1 v2 l W (by omega) h1 h2)
    have hq6 := (BoxAt.new w 29 #[.int .i64 x0, .int .i64 y0, .int .i64 x1, .int .i64 y1]).alloc (.cells #[.int .i64 p1, .int .i64 p2] 24)
    have hq7 := BoxAt.new (w.alloc (.cells #[.int .i64 x0, .int .i64 y0, .int .i64 x1, .int .i64 y1] 29)) 24 #[.int .i64 p1, .int .i64 p2]
    rw [World.size_alloc] at hq7
    clear hlg
    go_enter Try.func5, Try.ntmps5
    go_upto_region 3 with (go_at_call 15; (with_reducible refine (HL.out _).mono ?_); rintro e w1 ⟨rfl, hb1⟩)
    have HB1 := Lib.hid (below_step hb0 hb1)
    have HC1 := Lib.hid (hcl.below HB1.out)
    have HX6 := Lib.hid (box_step hq6 hb1)
    have HX7 := Lib.hid (box_step hq7 hb1)
    obtain ⟨L6, h6⟩ : ∃ L, L = w.heap.size := ⟨_, rfl⟩
    obtain ⟨L7, h7⟩ : ∃ L, L = w.heap.size + 1 := ⟨_, rfl⟩
    rw [← h7] at HX7 ⊢
    rw [← h6] at HX6 ⊢
    clear hq6 hq7 hb1 hb0 hcl h6 h7 HL hB
    obtain ⟨wq, rfl⟩ : ∃ x : World, x = w1 := ⟨_, rfl⟩
    have HCf : Hid (∀ W, Below wq.heap.size wq W → Cloud W A n X Y V) := Lib.hid (fun W h => HC1.out.below h)
    have HSf : Hid (∀ W, Below wq.heap.size wq W → W.cell? ⟨L6, 0, none⟩ = some (.int .i64 x0) ∧ W.cell? ⟨L6, 1, none⟩ = some (.int .i64 y0) ∧ W.cell? ⟨L6, 2, none⟩ = some (.int .i64 x1) ∧ W.cell? ⟨L6, 3, none⟩ = some (.int .i64 y1) ∧ W.cell? ⟨L7, 0, none⟩ = some (.int .i64 p1) ∧ W.cell? ⟨L7, 1, none⟩ = some (.int .i64 p2)) := Lib.hid (fun W h => ⟨(box_step HX6.out h).cell 0, (box_step HX6.out h).cell 1, (box_step HX6.out h).cell 2, (box_step HX6.out h).cell 3, (box_step HX7.out h).cell 0, (box_step HX7.out h).cell 1⟩)
    have HB0 : Hid (Below wq.heap.size wq wq.drew) := Lib.hid (Below.refl _ wq).drew
    obtain ⟨s0, s1, s2, s3, s4, s5⟩ := HSf.out wq (Below.refl _ _)
    have l6 := HX6.out.lt
    have l7 := HX7.out.lt
    go_region_held3 (fun W => W.cell? ⟨L6, 0, none⟩ = some (.int .i64 x0) ∧ W.cell? ⟨L6, 1, none⟩ = some (.int .i64 y0) ∧ W.cell? ⟨L6, 2, none⟩ = some (.int .i64 x1) ∧ W.cell? ⟨L6, 3, none⟩ = some (.int .i64 y1) ∧ W.cell? ⟨L7, 0, none⟩ = some (.int .i64 p1) ∧ W.cell? ⟨L7, 1, none⟩ = some (.int .i64 p2))
      (first | exact HS11.out | exact HS10.out | exact HS9.out | exact HS8.out | exact HS7.out | exact HS6.out | exact HS5.out | exact HS4.out | exact HS3.out | exact HS2.out | exact ⟨s0, s1, s2, s3, s4, s5⟩ | go_keep)
      (first
        | (go_at_call 28; (with_reducible refine (HW.out _ (HCf.out wq.drew HB0.out)).mono ?_); rintro e w2 ⟨r2, rfl, hr2, hb2⟩; have HB2 : Hid (Below wq.heap.size wq w2) := Lib.hid (HB0.out.trans (hb2.mono HB0.out.size)); have HS2 := Lib.hid (HSf.out _ HB2.out); have HR2 := Lib.hid hr2; clear hr2)
        | (go_at_call 29; (with_reducible refine (HRW.out _ (HCf.out w2 HB2.out)).mono ?_); rintro e w3 ⟨r3, rfl, hr3, hb3⟩; have HB3 : Hid (Below wq.heap.size wq w3) := Lib.hid (below_step HB2.out hb3); have HS3 := Lib.hid (HSf.out _ HB3.out); have HR3 := Lib.hid hr3; have HR2' := Lib.hid (HR2.out.below hb3); clear hr3)
        | (go_at_call 27; (with_reducible refine (HI.out L1 hl1 r2 r3 _ HR2'.out HR3.out).mono ?_); rintro e w4 ⟨rfl, hb4⟩; have HB4 : Hid (Below wq.heap.size wq w4) := Lib.hid (below_step HB3.out hb4); have HS4 := Lib.hid (HSf.out _ HB4.out))
        | (go_at_call 30; (with_reducible refine (HNe.out _ (HCf.out w4 HB4.out)).mono ?_); rintro e w5 ⟨r5, rfl, hr5, hb5⟩; have HB5 : Hid (Below wq.heap.size wq w5) := Lib.hid (below_step HB4.out hb5); have HS5 := Lib.hid (HSf.out _ HB5.out); have HR5 := Lib.hid hr5; clear hr5)
        | (go_at_call 31; (with_reducible refine (HRN.out _ (HCf.out w5 HB5.out)).mono ?_); rintro e w6 ⟨r6, rfl, hr6, hb6⟩; have HB6 : Hid (Below wq.heap.size wq w6) := Lib.hid (below_step HB5.out hb6); have HS6 := Lib.hid (HSf.out _ HB6.out); have HR6 := Lib.hid hr6; have HR5' := Lib.hid (HR5.out.below hb6); clear hr6)
        | (go_at_call 27; (with_reducible refine (HI.out L2 hl2 r5 r6 _ HR5'.out HR6.out).mono ?_); rintro e w7 ⟨rfl, hb7⟩; have HB7 : Hid (Below wq.heap.size wq w7) := Lib.hid (below_step HB6.out hb7); have HS7 := Lib.hid (HSf.out _ HB7.out))
        | (go_at_call 32; (with_reducible refine (HNs.out _ (HCf.out w7 HB7.out)).mono ?_); rintro e w8 ⟨r8, rfl, hr8, hb8⟩; have HB8 : Hid (Below wq.heap.size wq w8) := Lib.hid (below_step HB7.out hb8); have HS8 := Lib.hid (HSf.out _ HB8.out); have HR8 := Lib.hid hr8; clear hr8)
        | (go_at_call 33; (with_reducible refine (HRs.out _ (HCf.out w8 HB8.out)).mono ?_); rintro e w9 ⟨r9, rfl, hr9, hb9⟩; have HB9 : Hid (Below wq.heap.size wq w9) := Lib.hid (below_step HB8.out hb9); have HS9 := Lib.hid (HSf.out _ HB9.out); have HR9 := Lib.hid hr9; have HR8' := Lib.hid (HR8.out.below hb9); clear hr9)
        | (go_at_call 27; (with_reducible refine (HI.out L3 hl3 r8 r9 _ HR8'.out HR9.out).mono ?_); rintro e w10 ⟨rfl, hb10⟩; have HB10 : Hid (Below wq.heap.size wq w10) := Lib.hid (below_step HB9.out hb10); have HS10 := Lib.hid (HSf.out _ HB10.out))
        | (go_at_call 16; (with_reducible refine (awake_any _).mono ?_); rintro e w11 ⟨rfl, hb11⟩; have HB11 : Hid (Below wq.heap.size wq w11) := Lib.hid (below_step HB10.out hb11); have HS11 := Lib.hid (HSf.out _ HB11.out)))
    all_goals go_wp2
    all_goals go_ret
    all_goals exact ⟨rfl, below_step HB1.out HB11.out⟩
end Go.Proofs.Ytaehfildhmljeaa

namespace Go.Proofs.Ytaehfildhmljeaa
open Go.ChangeShapes Go.WideShapes Go.ChangeAt Go.RowKit Go.Joins Go.Deep

theorem cells29 : Try.prog.cellsOf 29 = 4 := by kernel_rfl
set_option maxRecDepth 100000 in
/-- An area by value: its four borders. -/
theorem open_area {H : Type} {enc : TypeId × Value → H} {W : World} {base b0 : Nat} {r : Reach} {spare : Nat → Bool} {held : Bool} {v : Value} {d : DataW H} {p : List MemPlace} (hv : Value.okWide Try.prog W r b0 29 v) (h : DataW.Trod enc Try.prog W base spare held 29 v d p) :
    ∃ x0 y0 x1 y1 : Int, v = .agg #[.int .i64 x0, .int .i64 y0, .int .i64 x1, .int .i64 y1] := by
  obtain ⟨c0, c1, c2, c3, y0, y1, y2, y3, m, rfl, rfl, rfl, hy0, hy1, hy2, hy3⟩ := open_agg4 Try.underlying29 (by kernel_rfl) cells29 hv h
  obtain ⟨a, e0, rfl, wa⟩ := DataW.trod_int Try.underlying2 hy0
  obtain ⟨b, e1, rfl, wb⟩ := DataW.trod_int Try.underlying2 hy1
  obtain ⟨c, e2, rfl, wc⟩ := DataW.trod_int Try.underlying2 hy2
  obtain ⟨d, e3, rfl, wd⟩ := DataW.trod_int Try.underlying2 hy3
  simp at e0 e1 e2 e3
  subst e0 e1 e2 e3
  exact ⟨a, b, c, d, rfl⟩

set_option maxRecDepth 100000 in
theorem cfinds_lifted (os : Os) (started : os.Started) (H : Type) (enc : TypeId × Value → H) :
    ReturnsInHanded {} Try.checked os 5 .any (Rows.cloudFindsSpec.pre6 enc Try.prog Try.f5 Rows.cloudFindsRow.domain false) (Rows.cloudFindsSpec.post enc Try.prog Try.f5 false true false false) := by
  refine returnsInHanded_of_change (C := Try.checked) ownK started (by kernel_rfl) Try.func5
    (ChangeSpec.witness6 (enc := enc) (C := Try.checked) false ⟨#[], #[.slice none 0 0, .agg #[.int .i64 0, .int .i64 0, .int .i64 0, .int .i64 0], .agg #[.int .i64 0, .int .i64 0], .int .i64 0, .int .i64 0], []⟩ 8 (by kernel_rfl) (by kernel_rfl) (by kernel_rfl) (by kernel_rfl)) ?_
  intro W base args ds gs before hval0 hW hcnd _
  have hval : ∀ (j : Nat) t v, Try.f5.params[j]? = some t → args[j]? = some v → Value.okWide Try.prog W .any base t v := hval0
  have hW' := hW
  obtain ⟨p, q, hA0, hV, rfl, hfz, hnd⟩ := hW
  have hA : DataW.TrodAll enc Try.prog W 0 (fun _ => true) true Try.f5.params.toList args.toList ds p := hA0
  rw [Try.params5] at hA hval
  obtain ⟨v0, vs0, d0, ds0, p0, q0, hargs, rfl, rfl, h0, r0⟩ := trodAll_cons hA
  obtain ⟨v1, vs1, d1, ds1, p1, q1, rfl, rfl, rfl, h1, r1⟩ := trodAll_cons r0
  obtain ⟨v2, vs2, d2, ds2, p2, q2, rfl, rfl, rfl, h2, r2⟩ := trodAll_cons r1
  obtain ⟨v3, vs3, d3, ds3, p3, q3, rfl, rfl, rfl, h3, r3⟩ := trodAll_cons r2
  obtain ⟨v4, vs4, d4, ds4, p4, q4, rfl, rfl, rfl, h4, r4⟩ := trodAll_cons r3
  obtain ⟨rfl, rfl, rfl⟩ := trodAll_nil r4
  obtain rfl : args = #[v0, v1, v2, v3, v4] := by cases args; simp_all
  obtain ⟨rfl, rfl⟩ := trodVars_none hV
  obtain ⟨A, n, cap, X, Y, V, rfl, _, hS⟩ := open_points (hval 0 22 v0 rfl rfl) h0
  obtain ⟨x0, y0, x1, y1, rfl⟩ := open_area (hval 1 29 v1 rfl rfl) h1
  obtain ⟨a, b, rfl⟩ := open_spot (hval 2 24 v2 rfl rfl) h2
  obtain ⟨rv, rfl, rfl, rfl, _⟩ := open_int Try.underlying2 (hval 3 2 v3 rfl rfl) h3
  obtain ⟨k, rfl, rfl, rfl, _⟩ := open_int Try.underlying3 (hval 4 3 v4 rfl rfl) h4
  refine (cfinds_walk A n cap X Y V x0 y0 x1 y1 a b rv k W hS).mono fun e W' ⟨he, hn⟩ => ?_
  subst he
  exact ⟨_, rfl, law_post rfl rfl (by kernel_rfl) rfl rfl rfl hW' hn⟩

theorem cfinds_holds : Rows.CloudFindsSaid :=
  OpenClaim.holds_of_wide 5 Try.f5 rfl rfl rfl rfl rfl rfl rfl ⟨rfl, rfl, rfl, rfl, rfl⟩ rfl rfl rfl rfl rfl (by kernel_rfl) Try.func5 (by kernel_rfl)
    (of_decide_eq_true (by kernel_rfl)) (by unfold Func.isWrapper; first | (rw [if_pos (by decide +kernel)]; kernel_rfl) | (rw [if_neg (by decide +kernel)]; exact ⟨rfl, rfl⟩))
    (fun os started H enc _ => cfinds_lifted os started H enc)
#print axioms cfinds_holds
end Go.Proofs.Ytaehfildhmljeaa
