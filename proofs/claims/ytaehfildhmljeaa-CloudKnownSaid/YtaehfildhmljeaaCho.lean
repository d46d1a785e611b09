/- chosen over Near$1, and Near. -/
import Derived.Test.YtaehfildhmljeaaSIn
import Derived.Test.YtaehfildhmljeaaChkC
namespace Go.Proofs.Ytaehfildhmljeaa
open Go.RowKit Go.Shelf

/-- The numbers below k that are wanted, ascending. -/
def selL (p : Nat → Bool) : Nat → List Nat
  | 0 => []
  | k + 1 => if p k then selL p k ++ [k] else selL p k
theorem selL_bd (p : Nat → Bool) : ∀ k, (selL p k).length ≤ k := by
  intro k
  induction k with
  | zero => simp [selL]
  | succ k ih => unfold selL; split <;> (try simp) <;> omega
theorem chkF_le {n : Nat} {X Y V : Nat → Int} (h : chkF n X Y V = 0) : n ≤ 1000 := by
  unfold chkF at h
  split at h
  · cases h
  · omega

set_option maxRecDepth 100000 in
set_option maxHeartbeats 8000000 in
/-- chosen, with a function of two captured variables. -/
theorem chosen_near (A : Option Addr) (n cap : Nat) (X Y V : Nat → Int) (p : Nat → Bool) (L1 L2 : Nat) (w : World) (hcl : Cloud w A n X Y V)
    (HP : ∀ k, k < n → ∀ W, Below w.heap.size w W → Calls Try.prog 73 #[sp (X k) (Y k), .pointer (some ⟨L1, 0, none⟩), .pointer (some ⟨L2, 0, none⟩)] W fun e w' => e = .returned (.bool (p k)) ∧ Below W.heap.size W w') :
    Calls Try.prog 71 #[.slice A n cap, .func (.func 73) #[] #[.pointer (some ⟨L1, 0, none⟩), .pointer (some ⟨L2, 0, none⟩)]] w fun e w' =>
      ∃ v, e = .returned v ∧ Row w' v (if chkF n X Y V = 0 then selL p n else []) ∧ Below w.heap.size w w' := by
  have HK := Lib.hid (check_any A n cap X Y V w hcl)
  by_cases hok : chkF n X Y V = 0
  · rw [hok] at HK
    rw [if_pos hok]
    have hn := chkF_le hok
    have HCL := Lib.hid hcl
    have HPP := Lib.hid HP
    have HO := Lib.hid hok
    obtain ⟨i0_, hi0, hz0, hz1, hz2⟩ := info_parts Try.info3
    have hI0 := Lib.hid hi0
    have hZ0 := Lib.hid hz0
    have hZ1 := Lib.hid hz1
    have hZ2 := Lib.hid hz2
    clear hcl HP hok hi0 hz0 hz1 hz2
    go_enter Try.func71, Try.ntmps71
    go_wp2_with (go_at_call 22; (with_reducible refine HK.out.mono ?_); rintro e w1 ⟨rfl, hb1⟩)
    clear HK
    go_loopw [5, 13] (fun o i wr => ∃ (k : Nat) (v : Value), k ≤ n ∧ o = v ∧ i = .int .i64 k ∧ Hid (wr.ownsRow w.heap.size 3 1 v (selL p k).length (natV (selL p k))) ∧ Below w.heap.size w wr) (fun _ i _ => n + 1 - (intOf i).toNat)
    case atStart => exact ⟨0, .slice none 0 0, Nat.zero_le _, rfl, rfl, Lib.hid (World.ownsRow_nil _ _ _ _), hb1⟩
    case round =>
      clear hb1
      obtain ⟨k, v, hk, rfl, rfl, HO3, hB⟩ := hrel
      by_cases hlt : k < n
      · obtain ⟨b, off, e, hc0⟩ := HCL.out (by omega)
        subst e
        have i0 : (0 : Int) ≤ (k : Int) := Int.natCast_nonneg _
        have i1 : (k : Int) < (n : Int) := by omega
        have hbl := hc0.lt (by omega)
        obtain ⟨c0, c1, c2⟩ := (hc0.below hB hbl) k hlt
        have l1 : b < wr.heap.size := Nat.lt_of_lt_of_le hbl hB.size
        have hbd := selL_bd p k
        obtain ⟨z, hz⟩ : ∃ z, z = p k := ⟨_, rfl⟩
        have HZ := Lib.hid hz
        have HC1 := Lib.hid (fun W h => HPP.out k hlt W h)
        rw [← hz] at HC1
        have HS := Lib.hid (fun (W : World) => spot_any (X k) (Y k) (V k) W)
        clear hz hc0
        go_upto_region 7 with fail
        have hb4 : Below wr.heap.size wr (wr.alloc (.cells #[.int .i64 (X k), .int .i64 (Y k), .int .i64 (V k)] 69)) := (Below.refl _ wr).alloc (Nat.le_refl _) _
        have hq := BoxAt.new wr 69 #[.int .i64 (X k), .int .i64 (Y k), .int .i64 (V k)]
        obtain ⟨Lq, hLq⟩ : ∃ q, q = wr.heap.size := ⟨_, rfl⟩
        rw [← hLq] at hq ⊢
        have hBz := below_step hB hb4
        have HO4 := Lib.hid (HO3.out.alloc (.cells #[.int .i64 (X k), .int .i64 (Y k), .int .i64 (V k)] 69))
        clear hLq hb4 c0 c1 c2 l1 hB HO3
        generalize wr.alloc (.cells #[.int .i64 (X k), .int .i64 (Y k), .int .i64 (V k)] 69) = wx at *
        have k0 : wx.cell? ⟨Lq, 0, none⟩ = some (.int .i64 (X k)) := hq.cell 0
        have k1 : wx.cell? ⟨Lq, 1, none⟩ = some (.int .i64 (Y k)) := hq.cell 1
        have k2 : wx.cell? ⟨Lq, 2, none⟩ = some (.int .i64 (V k)) := hq.cell 2
        have l2 := hq.lt
        have HB := Lib.hid hBz
        clear hq hBz
        obtain ⟨Av, cv, hv⟩ := Row.form ⟨_, HO4.out⟩
        subst hv
        obtain ⟨q, hq⟩ : ∃ q, q = (selL p k).length := ⟨_, rfl⟩
        rw [← hq] at HO4 hbd ⊢
        have HQ := Lib.hid hq
        clear hq
        cases z with
        | false =>
          have HE : Hid (selL p (k + 1) = selL p k) := Lib.hid (by show (if p k then _ else _) = _; rw [← HZ.out]; rfl)
          go_wp2_with (first
            | (go_at_call 64; (with_reducible refine (HS.out _).mono ?_); rintro e w2 ⟨rfl, hb2⟩)
            | (go_at_call 73; (with_reducible refine (HC1.out _ (below_step HB.out hb2)).mono ?_); rintro e w3 ⟨rfl, hb3⟩))
          go_roundw
          case rel => exact ⟨k + 1, _, by omega, rfl, by go_num, Lib.hid (by rw [HE.out, ← HQ.out]; exact (HO4.out.kept (grown_of_below (below_step hb2 hb3)) (Classical.em _))), below_step HB.out (below_step hb2 hb3)⟩
          case measure => simp [intOf]; omega
        | true =>
          have HE : Hid (selL p (k + 1) = selL p k ++ [k]) := Lib.hid (by show (if p k then _ else _) = _; rw [← HZ.out]; rfl)
          go_wp2_with (first
            | (go_at_call 64; (with_reducible refine (HS.out _).mono ?_); rintro e w2 ⟨rfl, hb2⟩)
            | (go_at_call 73; (with_reducible refine (HC1.out _ (below_step HB.out hb2)).mono ?_); rintro e w3 ⟨rfl, hb3⟩)
            | (at_builtin; refine wpList_append_lies _ rfl _ _ 41 rfl w.heap.size 3 i0_ (.int .i64 0) 1 8 Try.underlying41 hI0.out hZ0.out hZ1.out hZ2.out rfl (by decide) (.slice Av q cv) q (natV (selL p k)) rfl ((HO4.out.kept (grown_of_below (below_step hb2 hb3)) (Classical.em _)).alloc _) ⟨w3.heap.size, 0, none⟩ 1 1 [.int .i64 (k : Int)] rfl rfl (World.news_of_block (cs := #[.int .i64 (k : Int)]) (t := 3) (fr := (0, 0)) (heap_alloc_new w3 _)) (by simp [Value.oneCell']) (by decide) (by unfold maxLen; omega) (by omega) (by have := (below_step HB.out (below_step hb2 hb3)).size; simp; omega) _ rfl ?_; intro gg cap1 w7 hown7 hgrow hat hlt7))
          have hbx := below_step HB.out (below_step hb2 hb3)
          have hz3 : w.heap.size ≤ w3.heap.size := hbx.size
          have HO7 : Hid (w7.ownsRow w.heap.size 3 1 (.slice (some ⟨gg, 0, none⟩) (q + 1) cap1) (selL p (k + 1)).length (natV (selL p (k + 1)))) := Lib.hid (by
            rw [HE.out, List.length_append, ← HQ.out, ← natV_snoc]
            exact hown7)
          have hB7 : Below w.heap.size w w7 := (hbx.alloc hz3 _).grown hgrow (by simp; omega) (fun g e => by have := (HO4.out.lt _ e).1; omega)
          clear hown7 hat
          go_wp2
          go_roundw
          case rel => exact ⟨k + 1, _, by omega, rfl, by go_num, HO7, hB7⟩
          case measure => simp [intOf]; omega
      · obtain rfl : k = n := by omega
        obtain ⟨A', c', rfl⟩ := Row.form ⟨_, HO3.out⟩
        go_wp2
        go_ret
        exact ⟨_, rfl, ⟨_, HO3.out⟩, hB⟩
  · have HN := Lib.hid hok
    obtain ⟨z, hz⟩ : ∃ z, z = chkF n X Y V := ⟨_, rfl⟩
    rw [← hz] at HK hok
    rw [if_neg HN.out]
    clear HP hcl hz
    go_enter Try.func71, Try.ntmps71
    go_wp2_with (go_at_call 22; (with_reducible refine HK.out.mono ?_); rintro e w1 ⟨rfl, hb1⟩)
    go_ret
    exact ⟨_, rfl, ⟨0, World.ownsRow_nil _ _ _ _⟩, hb1⟩
theorem nclo_any (x y : Int) (a1 a2 v : Int) (r : Bool) (L1 L2 : Nat) (w : World) (hr : seesF (a1, a2) (x, y) v = r) (h1 : BoxAt w L1 24 #[.int .i64 a1, .int .i64 a2]) (h2 : BoxAt w L2 2 #[.int .i64 v]) :
    Calls Try.prog 73 #[sp x y, .pointer (some ⟨L1, 0, none⟩), .pointer (some ⟨L2, 0, none⟩)] w fun e w' => e = .returned (.bool r) ∧ Below w.heap.size w w' := by
  have c0 : w.cell? ⟨L1, 0, none⟩ = some (.int .i64 a1) := h1.cell 0
  have c1 : w.cell? ⟨L1, 1, none⟩ = some (.int .i64 a2) := h1.cell 1
  have c2 : w.cell? ⟨L2, 0, none⟩ = some (.int .i64 v) := h2.cell 0
  have l1 := h1.lt
  have l2 := h2.lt
  have HS := Lib.hid (fun W => sees_raw a1 a2 x y v r W (Lib.hid hr))
  clear hr h1 h2
  go_enter Try.func73, Try.ntmps73
  go_wp2_with (go_at_call 74; (with_reducible refine (HS.out _).mono ?_); rintro e w1 ⟨rfl, hb1⟩)
  go_ret
  exact ⟨rfl, below_step ((Below.refl _ w).alloc (Nat.le_refl _) _) hb1⟩

def nearF (X Y V : Nat → Int) (n : Nat) (a1 a2 v : Int) : List Nat := if chkF n X Y V = 0 then selL (fun k => seesF (a1, a2) (X k, Y k) v) n else []
set_option maxRecDepth 100000 in
set_option maxHeartbeats 8000000 in
theorem near_any (A : Option Addr) (n cap : Nat) (X Y V : Nat → Int) (a1 a2 v : Int) (w : World) (hcl : Cloud w A n X Y V) :
    Calls Try.prog 30 #[.slice A n cap, sp a1 a2, .int .i64 v] w fun e w' => ∃ r, e = .returned r ∧ Row w' r (nearF X Y V n a1 a2 v) ∧ Below w.heap.size w w' := by
  have hb1 : Below w.heap.size w (w.alloc (.cells #[.int .i64 a1, .int .i64 a2] 24)) := (Below.refl _ w).alloc (Nat.le_refl _) _
  have hb2 : Below w.heap.size w ((w.alloc (.cells #[.int .i64 a1, .int .i64 a2] 24)).alloc (.cells #[.int .i64 v] 2)) := hb1.alloc (by simp) _
  have hx1 := (BoxAt.new w 24 #[.int .i64 a1, .int .i64 a2]).alloc (.cells #[.int .i64 v] 2)
  have hx2 : BoxAt ((w.alloc (.cells #[.int .i64 a1, .int .i64 a2] 24)).alloc (.cells #[.int .i64 v] 2)) (w.heap.size + 1) 2 #[.int .i64 v] := box_at (by simp) 2 _
  have HC := Lib.hid (chosen_near A n cap X Y V (fun k => seesF (a1, a2) (X k, Y k) v) w.heap.size (w.heap.size + 1) _ (hcl.below hb2) (fun k hk W hW => nclo_any (X k) (Y k) a1 a2 v _ _ _ W rfl (box_step hx1 hW) (box_step hx2 hW)))
  have HB2 := Lib.hid hb2
  clear hb1 hb2 hx1 hx2 hcl
  obtain ⟨F, hF⟩ : ∃ F, F = nearF X Y V n a1 a2 v := ⟨_, rfl⟩
  rw [show (if chkF n X Y V = 0 then selL (fun k => seesF (a1, a2) (X k, Y k) v) n else []) = F from hF.symm] at HC
  rw [← hF]
  clear hF
  show Calls Try.prog 30 #[.slice A n cap, .agg #[.int .i64 a1, .int .i64 a2], .int .i64 v] w _
  go_enter Try.func30, Try.ntmps30
  go_wp2_with (go_at_call 71; (with_reducible refine HC.out.mono ?_); rintro e w1 ⟨r, rfl, hr, hb⟩; obtain ⟨A', c', rfl⟩ := hr.form; have HR := Lib.hid hr; clear hr)
  go_ret
  exact ⟨_, rfl, HR.out, below_step HB2.out hb⟩
end Go.Proofs.Ytaehfildhmljeaa
