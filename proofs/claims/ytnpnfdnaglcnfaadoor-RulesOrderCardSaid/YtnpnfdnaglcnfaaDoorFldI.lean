/- fold at int64. -/
import Derived.Test.YtnpnfdnaglcnfaaDoorFld
namespace Go.Proofs.YtnpnfdnaglcnfaaDoor
open Go.RowKit Go.Shelf
attribute [local go_sem] Oper.semAt_some

set_option maxRecDepth 100000 in
set_option maxHeartbeats 8000000 in
theorem foldI_in {V : Type} (value : Nd → V → V → V) (z : V) (Rep : World → Value → V → Prop)  (f : Nat) (hf : 3 ≤ f) (A : Option Addr) (cap : Nat) (L : List Nd) (w : World) (hL : one 1 L = 0) (hm : L.length ≤ 1000000) (hA : NdsL w A L)
    (hz : ∀ W, Rep W (iv 0) z) (hSh : ∀ (W : World) (u : Value) (x : V), Rep W u x → ∃ y : Int, u = iv y) (hRK : ∀ (W W' : World) (u : Value) (x : V), Rep W u x → Kt W W' → Rep W' u x)
    (hC : ∀ (k : Nat) (n : Nd) (va vb : Value) (W : World), L.drop k = n :: L.drop (k + 1) → prt n.op ≤ (stk value z (L.drop (k + 1))).length → Below w.heap.size w W →
      Rep W va (if 1 ≤ prt n.op then (stk value z (L.drop (k + 1))).getD 0 z else z) → Rep W vb (if 2 ≤ prt n.op then (stk value z (L.drop (k + 1))).getD 1 z else z) →
      Calls Tryd.prog 72 (#[ndV n, va, vb] ++ #[]) W fun e w' => ∃ v, e = .returned v ∧ v.oneCell' = true ∧
        Rep w' v (value n (if 1 ≤ prt n.op then (stk value z (L.drop (k + 1))).getD 0 z else z) (if 2 ≤ prt n.op then (stk value z (L.drop (k + 1))).getD 1 z else z)) ∧ Below W.heap.size W w') :
    CallsIn Fence.wide f Tryd.prog 71 #[.slice A L.length cap, .func (.func 72) #[] #[]] w fun e w' => ∃ v, e = .returned v ∧ Rep w' v ((stk value z L).getD 0 z) ∧ Below w.heap.size w w' := by
  obtain ⟨m, hm'⟩ : ∃ m, m = L.length := ⟨_, rfl⟩
  rw [← hm'] at hm ⊢
  have HM := Lib.hid hm'
  have HA := Lib.hid hA
  have HC := Lib.hid hC
  have HL := Lib.hid hL
  have HZ := Lib.hid hz
  have HRK := Lib.hid hRK
  have HS1 := Lib.hid hSh
  clear hm' hA hC hL hz hRK hSh
  obtain ⟨B, hB⟩ : ∃ B, B = w.heap.size := ⟨_, rfl⟩
  refine callsIn_of_wp_marks Tryd.func71 rfl trivial ?_ rfl
  rw [wpIn_wide]
  simp only [Tryd.ntmps71, List.size_toArray, List.length_cons, List.length_nil, Nat.reduceAdd, Nat.reduceSub, Array.replicate_succ, Array.replicate_zero, List.push_toArray, List.append_toArray, List.nil_append, List.cons_append]
  go_wp2_with (go_at_call 99; (with_reducible refine (back_fn A m cap _).mono ?_); rintro e w1 ⟨rfl, rfl⟩)
  have HI0 : Hid (∀ W, W = ((w.alloc (.cells #[.func (.func 72) #[] #[]] 117)).alloc (.cells #[.slice none 0 0] 36)).alloc (.cells #[.slice A m cap] 22) →
      FI 117 36 2 B (B + 1) (B + 2) m cap (.func (.func 72) #[] #[]) A L (fun k => stk value z (L.drop k)) Rep w [] W ∧ W.heap.size = B + 3) := Lib.hid (by
    rintro W rfl
    rw [hB]
    have h1 := BoxAt.new w 117 #[.func (.func 72) #[] #[]]
    have h2 := BoxAt.new (w.alloc (.cells #[.func (.func 72) #[] #[]] 117)) 36 #[.slice none 0 0]
    have h3 := BoxAt.new ((w.alloc (.cells #[.func (.func 72) #[] #[]] 117)).alloc (.cells #[.slice none 0 0] 36)) 22 #[.slice A m cap]
    rw [World.size_alloc] at h2
    rw [World.size_alloc, World.size_alloc] at h3
    refine ⟨⟨_, [], h2.alloc _, World.ownsRow_nil _ _ _ _, (h1.alloc _).alloc _, h3, ?_, ?_⟩, by simp⟩
    · have e : L.drop (m - ([] : List Nat).length) = [] := by rw [show m - ([] : List Nat).length = L.length from HM.out]; exact drop_end L
      show Reps _ [] (stk value z _)
      rw [e]
      trivial
    · exact (((Below.refl _ w).alloc (Nat.le_refl _) _).alloc (by simp) _).alloc (by simp; omega) _)
  simp only [World.size_alloc, ← hB, Nat.add_assoc, Nat.reduceAdd]
  have hBw : w.heap.size = B := hB.symm
  have HBw := Lib.hid hBw
  clear hBw
  obtain ⟨hI0, hsz⟩ := HI0.out _ rfl
  clear HI0 hB
  generalize ((w.alloc (.cells #[.func (.func 72) #[] #[]] 117)).alloc (.cells #[.slice none 0 0] 36)).alloc (.cells #[.slice A m cap] 22) = WR at *
  refine (wpIn_wide (n := f)).1 ?_
  refine range_allR (F := Fence.wide) (P := Tryd.prog) (α := Nat) rfl (by omega) (gf := 115) (lb := #[.pointer (some ⟨B + 2, 0, none⟩)]) rfl trivial (enters_of Tryd.func115 (by kernel_rfl) rfl)
    (encs := fun x : Nat => #[iv x, ndV (ndF L x)]) (fun _ => rfl) (N := m) (xs := dnL m m) (fun _ _ => True) (fun _ _ => trivial)
    (FI 117 36 2 B (B + 1) (B + 2) m cap (.func (.func 72) #[] #[]) A L (fun k => stk value z (L.drop k)) Rep w) (fun _ _ _ _ _ _ _ _ _ _ => trivial) ?ia ?ip hI0 (fun pre x => x = m - 1 - pre.length ∧ pre.length < m)
    (fun x a' W => ∃ Bn, BoxAt W Bn 61 #[iv (ndF L x).op, iv (ndF L x).l, iv (ndF L x).r, iv (ndF L x).k, iv (ndF L x).lo, iv (ndF L x).hi] ∧ B + 2 < Bn ∧ a' = { tmps := #[.slice A m cap, .func (.func 72) #[] #[], undef, .pointer (some ⟨B, 0, none⟩), iv 0, .pointer (some ⟨B + 1, 0, none⟩), undef, .pointer (some ⟨Bn, 0, none⟩), undef, undef, undef, .slice A m cap, .func (.func 115) #[] #[.pointer (some ⟨B + 2, 0, none⟩)], iv x, ndV (ndF L x), undef, undef, undef, undef, undef, undef, undef, undef, undef, undef, undef, undef, undef, undef, undef, undef, undef, undef, undef, undef, undef, undef, undef, undef, undef, undef, undef, undef, undef, undef, undef, undef], defers := [] })
    ?hap ?seq ?assign ?body ?done
  case ia =>
    rintro pre W o ⟨v, us, h1, h2, h3, h4, h5, h6⟩
    exact ⟨v, us, h1.alloc _, h2.alloc _, h3.alloc _, h4.alloc _, h5.mono (fun u x h => HRK.out _ _ _ _ h (Kt.alloc _ _)), h6.alloc h6.size _⟩
  case ip =>
    rintro pre W l o o' ⟨v, us, h1, h2, h3, h4, h5, h6⟩ hl ho hc
    have hb : ∀ {q t cs}, BoxAt W q t cs → BoxAt (W.putObj l o') q t cs := fun {q t cs} h => by
      refine (World.putObj_heap_other ?_).trans h
      rintro rfl
      rw [show W.heap[q]? = _ from h] at ho
      cases ho
      cases hc
    refine ⟨v, us, hb h1, h2.kept (grownBy_putObj' W _ _) (.inr ?_), hb h3, hb h4, h5.mono (fun u x h => HRK.out _ _ _ _ h (Kt.put ho hc)), h6.trans (putObj_below (by have := HBw.out; omega) _)⟩
    intro e
    obtain ⟨_, cur, h7⟩ := row_cells h2 e
    rw [h7] at ho
    cases ho
    cases hc
  case hap =>
    rintro x a' W l o o' ⟨Bn, h1, h2, h3⟩ hl ho hc
    refine ⟨Bn, (World.putObj_heap_other ?_).trans h1, h2, h3⟩
    rintro rfl
    rw [show W.heap[Bn]? = _ from h1] at ho
    cases ho
    cases hc
  case seq =>
    intro o1 o2 W ho1 ho2 hb hsW hY hJ0
    refine back_in (f - 1) (by omega) (WR.heap.size + 1) (B + 2) cap A L m HM.out (by omega) (Btw (FI 117 36 2 B (B + 1) (B + 2) m cap (.func (.func 72) #[] #[]) A L (fun k => stk value z (L.drop k)) Rep w) WR.heap.size o1 o2) W ?_ ?_ hJ0
    · rintro pre A' ⟨⟨v, us, _, _, _, h4, _, h6⟩, _, _⟩
      exact ⟨h4, HA.out.below h6⟩
    · intro pre x A' hJ hR
      exact hY pre x A' hJ hR (by omega)
  case assign =>
    rintro l pre x W K hI hR hK
    replace hR := Lib.hid hR
    gi_wp2
    obtain ⟨v, us, h1, h2, h3, h4, h5, h6⟩ := hI
    exact hK _ _ ((KeepsOthers.alloc _ _).from _) trivial ⟨v, us, h1.alloc _, h2.alloc _, h3.alloc _, h4.alloc _, h5.mono (fun u x h => HRK.out _ _ _ _ h (Kt.alloc _ _)), h6.alloc h6.size _⟩ ⟨W.heap.size, BoxAt.new _ _ _, h4.lt, rfl⟩
  case body =>
    rintro l pre x a' W hI ⟨hx, hpl⟩ ⟨Bn, hbn, hBn, rfl⟩ hlen
    obtain ⟨v, us, h1, h2, h3, h4, h5, h6⟩ := hI
    have hmx : m - pre.length = x + 1 := by omega
    have hmx2 : Hid (m - (pre ++ [x]).length = x) := Lib.hid (by rw [List.length_append]; simp; omega)
    simp only [hmx] at h5
    obtain ⟨n, hn, hd⟩ := drop_at (L := L) (k := x) (by rw [← HM.out]; omega)
    have hnd : ndF L x = n := by unfold ndF; rw [hn]; rfl
    rw [hnd] at hbn ⊢
    have hp2 := prt_le n.op
    have hple : prt n.op ≤ us.length := by
      obtain ⟨m', h0⟩ := one_drop HL.out x (by rw [← HM.out]; omega)
      rw [hd] at h0
      obtain ⟨r, hr, _⟩ := one_prt h0
      rw [h5.len, stk_len value z hr]
      omega
    have H1 := Lib.hid h1
    have H2 := Lib.hid h2
    have H3 := Lib.hid h3
    have H4 := Lib.hid h4
    have H5 := Lib.hid h5
    have H6 := Lib.hid h6
    have HD := Lib.hid hd
    have HBn := Lib.hid hbn
    have c0 : W.cell? ⟨Bn, 0, none⟩ = some (iv n.op) := hbn.cell 0
    have l0 := hbn.lt
    clear h1 h2 h3 h4 h5 h6 hn hnd hd hbn
    have hlen2 : pre.length < m := hlen
    have HX := Lib.hid hx
    have HU : Hid (us.length ≤ m) := Lib.hid (by
      have h1 := stk_le value z (L.drop (x + 1))
      rw [List.length_drop] at h1
      have h2 := HM.out
      rw [H5.out.len]
      omega)
    clear hx hpl hlen hmx
    gi_wp2_with (refine ⟨trivial, fun _ => by omega, ?_⟩; gi_at_call 98; refine (CallsIn.inRound l (callsIn_wide.2 (parts_any _ _))).mono ?_; rintro e w1 ⟨rfl, rfl⟩)
    have hFL0 : Hid (∀ W1, W1 = W.alloc (.cells #[iv 0, iv 0] 149) → FL 117 36 2 149 B (B + 1) (B + 2) Bn W.heap.size (.func (.func 72) #[] #[]) (.slice A m cap) n (iv 0) us w W 0 W1) := Lib.hid (by
      rintro W1 rfl
      exact ⟨⟨v, H1.out.alloc _, H2.out.alloc _⟩, BoxAt.new _ _ _, H3.out.alloc _, H4.out.alloc _, HBn.out.alloc _, KeepsOthers.alloc _ _, Kt.alloc _ _, H6.out.alloc H6.out.size _⟩)
    have hFL := Lib.hid (hFL0.out _ rfl)
    obtain ⟨Bp, hBp⟩ : ∃ q, q = W.heap.size := ⟨_, rfl⟩
    rw [← hBp] at hFL ⊢
    have hwB : w.heap.size ≤ B := by have := HBw.out; omega
    have hwBp : w.heap.size ≤ Bp := by have := H4.out.lt; omega
    have HKp := Lib.hid H2.out
    clear hFL0 hBp c0 l0 H1 H2 H3 H4 H6 HBn
    generalize W.alloc (.cells #[iv 0, iv 0] 149) = W1 at *
    obtain ⟨p, hp⟩ : ∃ p, p = prt n.op := ⟨_, rfl⟩
    rw [← hp] at hp2 hple ⊢
    have HP := Lib.hid hp
    clear hp
    gi_loopw [18] (fun i wr => ∃ j : Nat, j ≤ p ∧ i = iv j ∧ Hid (FL 117 36 2 149 B (B + 1) (B + 2) Bn Bp (.func (.func 72) #[] #[]) (.slice A m cap) n (iv 0) us w W j wr)) (fun i _ => p - (intOf i).toNat)
    case atStart => exact ⟨0, Nat.zero_le _, rfl, hFL⟩
    case round =>
      obtain ⟨j, hj, rfl, HF⟩ := hrel
      by_cases hlt : j < p
      · have i0 : (0 : Int) ≤ (j : Int) := Int.natCast_nonneg _
        have i1 : (j : Int) < (p : Int) := by omega
        have i2 : (j : Int) < 2 := by omega
        have hF := HF.out.drew
        obtain ⟨g, c, u, k, hk, hb1, hc1, ⟨hg1, hkc, hug⟩, ⟨q1, q2, q3, cc0, cc1, hbp⟩, hF2⟩ := hF.step (by omega) (by omega) (by decide) (by decide) (by decide) (by decide) (by decide) (by decide) (by decide) (by decide) (by decide) (by decide) (by decide) (by omega) hwBp
        obtain ⟨uy, hus⟩ := HS1.out _ _ _ (H5.out.get j (iv 0) z (by omega))
        rw [hus] at hug
        obtain rfl := hug.symm
        clear hug
        have c1 : wr.cell? ⟨B + 1, 0, none⟩ = some (.slice (some ⟨g, 0, none⟩) (k + 1) c) := hb1.cell 0
        have l1 := hb1.lt
        have k0 : (0 : Int) ≤ (k : Int) := Int.natCast_nonneg _
        have hul : us.length ≤ m := HU.out
        have k3 : ¬ (k : Int) + 1 ≤ (k : Int) := by omega
        have k4 : ¬ c < k := by omega
        have k5 : (k : Int) ≤ (c : Int) := by omega
        have k1 : (k : Int) ≤ 1000000 := by omega
        gi_wp2
        have d1 : wr.drew.cell? ⟨B + 1, 0, none⟩ = some (.slice (some ⟨g, 0, none⟩) (k + 1) c) := c1
        have d2 : wr.drew.cell? ⟨g, k, none⟩ = some (iv uy) := hc1
        have l2 : B + 1 < wr.drew.heap.size := l1
        have l3 : g < wr.drew.heap.size := hg1
        obtain ⟨y0, d3⟩ : ∃ y0, wr.drew.cell? ⟨Bp, j, none⟩ = some y0 := by
          have hj2 : j = 0 ∨ j = 1 := by omega
          rcases hj2 with rfl | rfl
          · exact ⟨_, hbp.cell 0⟩
          · exact ⟨_, hbp.cell 1⟩
        have d4 : wr.drew.frozen? ⟨Bp, j, none⟩ = false := hbp.frozen j
        have l4 : Bp < wr.drew.heap.size := hbp.lt
        have hb2 : BoxAt (wr.drew.setCell ⟨Bp, j, none⟩ (iv uy)) (B + 1) 36 #[.slice (some ⟨g, 0, none⟩) (k + 1) c] := hb1.other q1 j _
        have d5 : (wr.drew.setCell ⟨Bp, j, none⟩ (iv uy)).cell? ⟨B + 1, 0, none⟩ = some (.slice (some ⟨g, 0, none⟩) (k + 1) c) := hb2.cell 0
        have d6 : (wr.drew.setCell ⟨Bp, j, none⟩ (iv uy)).frozen? ⟨B + 1, 0, none⟩ = false := hb2.frozen 0
        have l5 := hb2.lt
        have f1 : wr.frozen? ⟨B + 1, 0, none⟩ = false := hb1.frozen 0
        refine round_held (S := fun w' => w'.cell? ⟨g, k, none⟩ = some (iv uy)) (by kernel_rfl) (by kernel_rfl) d2 (fun hHeld => ?_)
        refine wpAnyH_take (i := 0) (oi := { dst := some 24, op := Op.move (Operand.tmp 9), type := 3, pos := "rules.go:34", after := #[], guard := none }) (v := iv j) rfl (by kernel_rfl) (by kernel_rfl) (by kernel_rfl) (fun _ _ _ h => h) (Or.inl ⟨by rfl, (by intro w0 hSw; (try dsimp only at hSw); go_simp)⟩) (by assumption) ?_
        (try simp only [Act.put, List.setIfInBounds_toArray, List.set_cons_zero, List.set_cons_succ])
        refine wpAnyH_take (i := 2) (oi := { dst := some 26, op := Op.move (Operand.tmp 10), type := 3, pos := "rules.go:34", after := #[], guard := none }) (v := iv k) rfl (by kernel_rfl) (by kernel_rfl) (by kernel_rfl) (fun _ _ _ h => h) (Or.inl ⟨by rfl, (by intro w0 hSw; (try dsimp only at hSw); go_simp)⟩) (by assumption) ?_
        (try simp only [Act.put, List.setIfInBounds_toArray, List.set_cons_zero, List.set_cons_succ])
        refine wpAnyH_take (i := 6) (oi := { dst := some 30, op := Op.move (Operand.tmp 10), type := 3, pos := "rules.go:34", after := #[], guard := none }) (v := iv k) rfl (by kernel_rfl) (by kernel_rfl) (by kernel_rfl) (fun _ _ _ h => h) (Or.inl ⟨by rfl, (by intro w0 hSw; (try dsimp only at hSw); go_simp)⟩) (by assumption) ?_
        (try simp only [Act.put, List.setIfInBounds_toArray, List.set_cons_zero, List.set_cons_succ])
        refine wpAnyH_ready (rs := [1, 5]) (by kernel_rfl) (by simp) ?_
        refine AllReadyH.cons (o := { dst := some 25, op := Op.load 36 (Operand.tmp 5), type := 36, pos := "rules.go:34", after := #[], guard := none }) rfl (fun K hK => ?_) (AllReadyH.cons (o := { dst := some 29, op := Op.load 36 (Operand.tmp 5), type := 36, pos := "rules.go:34", after := #[], guard := none }) rfl (fun K hK => ?_) AllReadyH.nil)
        · go_simp
          refine hK.out _ _ (by exact d2) (fun hHeld => ?_)
          clear hK K
          (try simp only [Act.put, List.setIfInBounds_toArray, List.set_cons_zero, List.set_cons_succ])
          refine wpAnyH_take (i := 3) (oi := { dst := some 27, op := Op.indexAddr 36 (Operand.tmp 25) (Operand.tmp 26), type := 0, pos := "rules.go:34", after := #[{ on := 1, ground := Ground.data }, { on := 2, ground := Ground.data }], guard := none }) (v := .pointer (some ⟨g, k, none⟩)) rfl (by kernel_rfl) (by kernel_rfl) (by kernel_rfl) (fun _ _ _ h => h) (Or.inl ⟨by rfl, (by intro w0 hSw; (try dsimp only at hSw); go_simp)⟩) (by assumption) ?_
          (try simp only [Act.put, List.setIfInBounds_toArray, List.set_cons_zero, List.set_cons_succ])
          refine wpAnyH_take (i := 4) (oi := { dst := some 28, op := Op.load 2 (Operand.tmp 27), type := 2, pos := "rules.go:34", after := #[{ on := 3, ground := Ground.data }], guard := none }) (v := iv uy) rfl (by kernel_rfl) (by kernel_rfl) (by kernel_rfl) (fun _ _ _ h => h) (Or.inl ⟨by rfl, (by intro w0 hSw; (try dsimp only at hSw); go_simp)⟩) (by assumption) ?_
          (try simp only [Act.put, List.setIfInBounds_toArray, List.set_cons_zero, List.set_cons_succ])
          refine wpAnyH_take (i := 8) (oi := { dst := some 32, op := Op.indexAddr 149 (Operand.tmp 8) (Operand.tmp 24), type := 0, pos := "rules.go:34", after := #[{ on := 0, ground := Ground.data }, { on := 0, ground := Ground.phase }, { on := 1, ground := Ground.phase }, { on := 2, ground := Ground.phase }, { on := 3, ground := Ground.phase }, { on := 4, ground := Ground.phase }, { on := 5, ground := Ground.textOnly Departure.lateStores }, { on := 6, ground := Ground.textOnly Departure.lateStores }, { on := 7, ground := Ground.textOnly Departure.lateStoresUnsure }], guard := none }) (v := .pointer (some ⟨Bp, j, none⟩)) rfl (by kernel_rfl) (by kernel_rfl) (by kernel_rfl) (fun _ _ _ h => h) (Or.inl ⟨by rfl, (by intro w0 hSw; (try dsimp only at hSw); go_simp)⟩) (by assumption) ?_
          (try simp only [Act.put, List.setIfInBounds_toArray, List.set_cons_zero, List.set_cons_succ])
          refine wpAnyH_ready (rs := [5, 9]) (by kernel_rfl) (by simp) ?_
          refine AllReadyH.cons (o := { dst := some 29, op := Op.load 36 (Operand.tmp 5), type := 36, pos := "rules.go:34", after := #[], guard := none }) rfl (fun K hK => ?_) (AllReadyH.cons (o := { dst := none, op := Op.store 2 (Operand.tmp 32) (Operand.tmp 28), type := 0, pos := "rules.go:34", after := #[{ on := 8, ground := Ground.data }, { on := 4, ground := Ground.data }, { on := 0, ground := Ground.phase }, { on := 1, ground := Ground.phase }, { on := 2, ground := Ground.phase }, { on := 3, ground := Ground.phase }, { on := 4, ground := Ground.phase }, { on := 5, ground := Ground.textOnly Departure.lateStores }, { on := 6, ground := Ground.textOnly Departure.lateStores }, { on := 7, ground := Ground.textOnly Departure.lateStoresUnsure }], guard := none }) rfl (fun K hK => ?_) AllReadyH.nil)
          · go_simp
            refine hK.out _ _ (by exact d2) (fun hHeld => ?_)
            clear hK K
            (try simp only [Act.put, List.setIfInBounds_toArray, List.set_cons_zero, List.set_cons_succ])
            refine wpAnyH_take (i := 7) (oi := { dst := some 31, op := Op.slice 36 (Operand.tmp 29) none (some (Operand.tmp 30)) none, type := 36, pos := "rules.go:34", after := #[{ on := 5, ground := Ground.data }, { on := 6, ground := Ground.data }], guard := none }) (v := .slice (some ⟨g, 0, none⟩) k c) rfl (by kernel_rfl) (by kernel_rfl) (by kernel_rfl) (fun _ _ _ h => h) (Or.inl ⟨by rfl, (by intro w0 hSw; (try dsimp only at hSw); go_simp)⟩) (by assumption) ?_
            (try simp only [Act.put, List.setIfInBounds_toArray, List.set_cons_zero, List.set_cons_succ])
            refine wpAnyH_ready (rs := [9]) (by kernel_rfl) (by simp) ?_
            refine AllReadyH.cons (o := { dst := none, op := Op.store 2 (Operand.tmp 32) (Operand.tmp 28), type := 0, pos := "rules.go:34", after := #[{ on := 8, ground := Ground.data }, { on := 4, ground := Ground.data }, { on := 0, ground := Ground.phase }, { on := 1, ground := Ground.phase }, { on := 2, ground := Ground.phase }, { on := 3, ground := Ground.phase }, { on := 4, ground := Ground.phase }, { on := 5, ground := Ground.textOnly Departure.lateStores }, { on := 6, ground := Ground.textOnly Departure.lateStores }, { on := 7, ground := Ground.textOnly Departure.lateStoresUnsure }], guard := none }) rfl (fun K hK => ?_) AllReadyH.nil
            go_simp
            refine hK.out _ _ (by exact (World.cell?_setCell_far _ _ _ _ (by show Bp ≠ g; omega)).trans d2) (fun hHeld => ?_)
            clear hK K
            (try simp only [Act.put, List.setIfInBounds_toArray, List.set_cons_zero, List.set_cons_succ])
            refine wpAnyH_ready (rs := [10]) (by kernel_rfl) (by simp) ?_
            refine AllReadyH.cons (o := { dst := none, op := Op.store 36 (Operand.tmp 5) (Operand.tmp 31), type := 0, pos := "rules.go:34", after := #[{ on := 7, ground := Ground.data }, { on := 9, ground := Ground.chain }, { on := 0, ground := Ground.phase }, { on := 1, ground := Ground.phase }, { on := 2, ground := Ground.phase }, { on := 3, ground := Ground.phase }, { on := 4, ground := Ground.phase }, { on := 5, ground := Ground.phase }, { on := 6, ground := Ground.phase }, { on := 7, ground := Ground.phase }, { on := 8, ground := Ground.phase }, { on := 9, ground := Ground.phase }], guard := none }) rfl (fun K hK => ?_) AllReadyH.nil
            go_simp
            refine hK.out _ _ (by exact (World.cell?_setCell_far _ _ _ _ (by show B + 1 ≠ g; omega)).trans ((World.cell?_setCell_far _ _ _ _ (by show Bp ≠ g; omega)).trans d2)) (fun hHeld => ?_)
            clear hK K
            (try simp only [Act.put, List.setIfInBounds_toArray, List.set_cons_zero, List.set_cons_succ])
            refine wpAnyH_done (by kernel_rfl) ?_ _
            refine OnlyK.normal ?_
            clear hHeld d1 d2 d3 d4 d5 d6 l1 l2 l3 l4 l5 f1 c1 hb1 hb2 hbp hc1
            have HF3 : Hid (FL 117 36 2 149 B (B + 1) (B + 2) Bn Bp (.func (.func 72) #[] #[]) (.slice A m cap) n (iv 0) us w W (j + 1) ((wr.setCell ⟨Bp, j, none⟩ (iv uy)).setCell ⟨B + 1, 0, none⟩ (.slice (some ⟨g, 0, none⟩) k c)).drew) := Lib.hid hF2
            clear hF2
            generalize ((wr.setCell ⟨Bp, j, none⟩ (iv uy)).setCell ⟨B + 1, 0, none⟩ (.slice (some ⟨g, 0, none⟩) k c)).drew = w9 at *
            gi_wp2
            go_roundw
            case rel => exact ⟨j + 1, by omega, by go_num, HF3⟩
            case measure => simp [intOf]; omega
          · go_simp
            refine hK.out _ _ (by exact (World.cell?_setCell_far _ _ _ _ (by show Bp ≠ g; omega)).trans d2) (fun hHeld => ?_)
            clear hK K
            (try simp only [Act.put, List.setIfInBounds_toArray, List.set_cons_zero, List.set_cons_succ])
            refine wpAnyH_ready (rs := [5]) (by kernel_rfl) (by simp) ?_
            refine AllReadyH.cons (o := { dst := some 29, op := Op.load 36 (Operand.tmp 5), type := 36, pos := "rules.go:34", after := #[], guard := none }) rfl (fun K hK => ?_) AllReadyH.nil
            go_simp
            refine hK.out _ _ (by exact (World.cell?_setCell_far _ _ _ _ (by show Bp ≠ g; omega)).trans d2) (fun hHeld => ?_)
            clear hK K
            (try simp only [Act.put, List.setIfInBounds_toArray, List.set_cons_zero, List.set_cons_succ])
            refine wpAnyH_take (i := 7) (oi := { dst := some 31, op := Op.slice 36 (Operand.tmp 29) none (some (Operand.tmp 30)) none, type := 36, pos := "rules.go:34", after := #[{ on := 5, ground := Ground.data }, { on := 6, ground := Ground.data }], guard := none }) (v := .slice (some ⟨g, 0, none⟩) k c) rfl (by kernel_rfl) (by kernel_rfl) (by kernel_rfl) (fun _ _ _ h => h) (Or.inl ⟨by rfl, (by intro w0 hSw; (try dsimp only at hSw); go_simp)⟩) (by assumption) ?_
            (try simp only [Act.put, List.setIfInBounds_toArray, List.set_cons_zero, List.set_cons_succ])
            refine wpAnyH_ready (rs := [10]) (by kernel_rfl) (by simp) ?_
            refine AllReadyH.cons (o := { dst := none, op := Op.store 36 (Operand.tmp 5) (Operand.tmp 31), type := 0, pos := "rules.go:34", after := #[{ on := 7, ground := Ground.data }, { on := 9, ground := Ground.chain }, { on := 0, ground := Ground.phase }, { on := 1, ground := Ground.phase }, { on := 2, ground := Ground.phase }, { on := 3, ground := Ground.phase }, { on := 4, ground := Ground.phase }, { on := 5, ground := Ground.phase }, { on := 6, ground := Ground.phase }, { on := 7, ground := Ground.phase }, { on := 8, ground := Ground.phase }, { on := 9, ground := Ground.phase }], guard := none }) rfl (fun K hK => ?_) AllReadyH.nil
            go_simp
            refine hK.out _ _ (by exact (World.cell?_setCell_far _ _ _ _ (by show B + 1 ≠ g; omega)).trans ((World.cell?_setCell_far _ _ _ _ (by show Bp ≠ g; omega)).trans d2)) (fun hHeld => ?_)
            clear hK K
            (try simp only [Act.put, List.setIfInBounds_toArray, List.set_cons_zero, List.set_cons_succ])
            refine wpAnyH_done (by kernel_rfl) ?_ _
            refine OnlyK.normal ?_
            clear hHeld d1 d2 d3 d4 d5 d6 l1 l2 l3 l4 l5 f1 c1 hb1 hb2 hbp hc1
            have HF3 : Hid (FL 117 36 2 149 B (B + 1) (B + 2) Bn Bp (.func (.func 72) #[] #[]) (.slice A m cap) n (iv 0) us w W (j + 1) ((wr.setCell ⟨Bp, j, none⟩ (iv uy)).setCell ⟨B + 1, 0, none⟩ (.slice (some ⟨g, 0, none⟩) k c)).drew) := Lib.hid hF2
            clear hF2
            generalize ((wr.setCell ⟨Bp, j, none⟩ (iv uy)).setCell ⟨B + 1, 0, none⟩ (.slice (some ⟨g, 0, none⟩) k c)).drew = w9 at *
            gi_wp2
            go_roundw
            case rel => exact ⟨j + 1, by omega, by go_num, HF3⟩
            case measure => simp [intOf]; omega
        · go_simp
          refine hK.out _ _ (by exact d2) (fun hHeld => ?_)
          clear hK K
          (try simp only [Act.put, List.setIfInBounds_toArray, List.set_cons_zero, List.set_cons_succ])
          refine wpAnyH_take (i := 7) (oi := { dst := some 31, op := Op.slice 36 (Operand.tmp 29) none (some (Operand.tmp 30)) none, type := 36, pos := "rules.go:34", after := #[{ on := 5, ground := Ground.data }, { on := 6, ground := Ground.data }], guard := none }) (v := .slice (some ⟨g, 0, none⟩) k c) rfl (by kernel_rfl) (by kernel_rfl) (by kernel_rfl) (fun _ _ _ h => h) (Or.inl ⟨by rfl, (by intro w0 hSw; (try dsimp only at hSw); go_simp)⟩) (by assumption) ?_
          (try simp only [Act.put, List.setIfInBounds_toArray, List.set_cons_zero, List.set_cons_succ])
          refine wpAnyH_ready (rs := [1]) (by kernel_rfl) (by simp) ?_
          refine AllReadyH.cons (o := { dst := some 25, op := Op.load 36 (Operand.tmp 5), type := 36, pos := "rules.go:34", after := #[], guard := none }) rfl (fun K hK => ?_) AllReadyH.nil
          go_simp
          refine hK.out _ _ (by exact d2) (fun hHeld => ?_)
          clear hK K
          (try simp only [Act.put, List.setIfInBounds_toArray, List.set_cons_zero, List.set_cons_succ])
          refine wpAnyH_take (i := 3) (oi := { dst := some 27, op := Op.indexAddr 36 (Operand.tmp 25) (Operand.tmp 26), type := 0, pos := "rules.go:34", after := #[{ on := 1, ground := Ground.data }, { on := 2, ground := Ground.data }], guard := none }) (v := .pointer (some ⟨g, k, none⟩)) rfl (by kernel_rfl) (by kernel_rfl) (by kernel_rfl) (fun _ _ _ h => h) (Or.inl ⟨by rfl, (by intro w0 hSw; (try dsimp only at hSw); go_simp)⟩) (by assumption) ?_
          (try simp only [Act.put, List.setIfInBounds_toArray, List.set_cons_zero, List.set_cons_succ])
          refine wpAnyH_take (i := 4) (oi := { dst := some 28, op := Op.load 2 (Operand.tmp 27), type := 2, pos := "rules.go:34", after := #[{ on := 3, ground := Ground.data }], guard := none }) (v := iv uy) rfl (by kernel_rfl) (by kernel_rfl) (by kernel_rfl) (fun _ _ _ h => h) (Or.inl ⟨by rfl, (by intro w0 hSw; (try dsimp only at hSw); go_simp)⟩) (by assumption) ?_
          (try simp only [Act.put, List.setIfInBounds_toArray, List.set_cons_zero, List.set_cons_succ])
          refine wpAnyH_take (i := 8) (oi := { dst := some 32, op := Op.indexAddr 149 (Operand.tmp 8) (Operand.tmp 24), type := 0, pos := "rules.go:34", after := #[{ on := 0, ground := Ground.data }, { on := 0, ground := Ground.phase }, { on := 1, ground := Ground.phase }, { on := 2, ground := Ground.phase }, { on := 3, ground := Ground.phase }, { on := 4, ground := Ground.phase }, { on := 5, ground := Ground.textOnly Departure.lateStores }, { on := 6, ground := Ground.textOnly Departure.lateStores }, { on := 7, ground := Ground.textOnly Departure.lateStoresUnsure }], guard := none }) (v := .pointer (some ⟨Bp, j, none⟩)) rfl (by kernel_rfl) (by kernel_rfl) (by kernel_rfl) (fun _ _ _ h => h) (Or.inl ⟨by rfl, (by intro w0 hSw; (try dsimp only at hSw); go_simp)⟩) (by assumption) ?_
          (try simp only [Act.put, List.setIfInBounds_toArray, List.set_cons_zero, List.set_cons_succ])
          refine wpAnyH_ready (rs := [9]) (by kernel_rfl) (by simp) ?_
          refine AllReadyH.cons (o := { dst := none, op := Op.store 2 (Operand.tmp 32) (Operand.tmp 28), type := 0, pos := "rules.go:34", after := #[{ on := 8, ground := Ground.data }, { on := 4, ground := Ground.data }, { on := 0, ground := Ground.phase }, { on := 1, ground := Ground.phase }, { on := 2, ground := Ground.phase }, { on := 3, ground := Ground.phase }, { on := 4, ground := Ground.phase }, { on := 5, ground := Ground.textOnly Departure.lateStores }, { on := 6, ground := Ground.textOnly Departure.lateStores }, { on := 7, ground := Ground.textOnly Departure.lateStoresUnsure }], guard := none }) rfl (fun K hK => ?_) AllReadyH.nil
          go_simp
          refine hK.out _ _ (by exact (World.cell?_setCell_far _ _ _ _ (by show Bp ≠ g; omega)).trans d2) (fun hHeld => ?_)
          clear hK K
          (try simp only [Act.put, List.setIfInBounds_toArray, List.set_cons_zero, List.set_cons_succ])
          refine wpAnyH_ready (rs := [10]) (by kernel_rfl) (by simp) ?_
          refine AllReadyH.cons (o := { dst := none, op := Op.store 36 (Operand.tmp 5) (Operand.tmp 31), type := 0, pos := "rules.go:34", after := #[{ on := 7, ground := Ground.data }, { on := 9, ground := Ground.chain }, { on := 0, ground := Ground.phase }, { on := 1, ground := Ground.phase }, { on := 2, ground := Ground.phase }, { on := 3, ground := Ground.phase }, { on := 4, ground := Ground.phase }, { on := 5, ground := Ground.phase }, { on := 6, ground := Ground.phase }, { on := 7, ground := Ground.phase }, { on := 8, ground := Ground.phase }, { on := 9, ground := Ground.phase }], guard := none }) rfl (fun K hK => ?_) AllReadyH.nil
          go_simp
          refine hK.out _ _ (by exact (World.cell?_setCell_far _ _ _ _ (by show B + 1 ≠ g; omega)).trans ((World.cell?_setCell_far _ _ _ _ (by show Bp ≠ g; omega)).trans d2)) (fun hHeld => ?_)
          clear hK K
          (try simp only [Act.put, List.setIfInBounds_toArray, List.set_cons_zero, List.set_cons_succ])
          refine wpAnyH_done (by kernel_rfl) ?_ _
          refine OnlyK.normal ?_
          clear hHeld d1 d2 d3 d4 d5 d6 l1 l2 l3 l4 l5 f1 c1 hb1 hb2 hbp hc1
          have HF3 : Hid (FL 117 36 2 149 B (B + 1) (B + 2) Bn Bp (.func (.func 72) #[] #[]) (.slice A m cap) n (iv 0) us w W (j + 1) ((wr.setCell ⟨Bp, j, none⟩ (iv uy)).setCell ⟨B + 1, 0, none⟩ (.slice (some ⟨g, 0, none⟩) k c)).drew) := Lib.hid hF2
          clear hF2
          generalize ((wr.setCell ⟨Bp, j, none⟩ (iv uy)).setCell ⟨B + 1, 0, none⟩ (.slice (some ⟨g, 0, none⟩) k c)).drew = w9 at *
          gi_wp2
          go_roundw
          case rel => exact ⟨j + 1, by omega, by go_num, HF3⟩
          case measure => simp [intOf]; omega
      · obtain rfl : j = p := by omega
        have i1 : ¬ (j : Int) < (j : Int) := by omega
        obtain ⟨⟨vv, g1, g2⟩, g3, g5, g6, g7, _⟩ := id HF.out
        obtain ⟨Av, cv, rfl⟩ := own_form g2
        obtain ⟨ca, hcad⟩ : ∃ q, q = (if 1 ≤ j then us.getD 0 (iv 0) else (iv 0)) := ⟨_, rfl⟩
        obtain ⟨cb, hcbd⟩ : ∃ q, q = (if 2 ≤ j then us.getD 1 (iv 0) else (iv 0)) := ⟨_, rfl⟩
        rw [← hcad, ← hcbd] at g3
        obtain ⟨qn, hKl⟩ : ∃ q, q = (us.drop j).length := ⟨_, rfl⟩
        rw [← hKl] at g1 g2
        have HKl := Lib.hid hKl
        have HSB : Hid (SB 117 149 B Bn Bp (.func (.func 72) #[] #[]) n ca cb wr) := Lib.hid ⟨g5, g7, g3⟩
        have HBX := Lib.hid g1
        have HRO := Lib.hid g2
        have hKle : qn ≤ 1000000 := by have := HU.out; rw [List.length_drop] at hKl; omega
        have c0 : wr.cell? ⟨B + 1, 0, none⟩ = some (.slice Av qn cv) := g1.cell 0
        have l0 := g1.lt
        have hra : Rep wr ca (if 1 ≤ j then (stk value z (L.drop (x + 1))).getD 0 z else z) := by
          rw [hcad]
          split
          · exact HRK.out _ _ _ _ (H5.out.get 0 _ _ (by omega)) HF.out.2.2.2.2.2.2.1
          · exact HZ.out _
        have hrb : Rep wr cb (if 2 ≤ j then (stk value z (L.drop (x + 1))).getD 1 z else z) := by
          rw [hcbd]
          split
          · exact HRK.out _ _ _ _ (H5.out.get 1 _ _ (by omega)) HF.out.2.2.2.2.2.2.1
          · exact HZ.out _
        have HCl : Hid (∀ W, Below wr.heap.size wr W → Calls Tryd.prog 72 #[ndV n, ca, cb] W fun e w' => ∃ v, e = .returned v ∧ v.oneCell' = true ∧ Rep w' v (value n (if 1 ≤ j then (stk value z (L.drop (x + 1))).getD 0 z else z) (if 2 ≤ j then (stk value z (L.drop (x + 1))).getD 1 z else z)) ∧ Below W.heap.size W w') := Lib.hid (fun W hW =>
          by
            have h := HC.out x n ca cb W HD.out (by rw [← HP.out, ← H5.out.len]; exact hple) (HF.out.2.2.2.2.2.2.2.trans (hW.mono HF.out.2.2.2.2.2.2.2.size)) (by rw [← HP.out]; exact HRK.out _ _ _ _ hra (Kt.of_below hW)) (by rw [← HP.out]; exact HRK.out _ _ _ _ hrb (Kt.of_below hW))
            rw [← HP.out] at h
            exact h)
        have HCad := Lib.hid hcad
        have HCbd := Lib.hid hcbd
        clear hcad hcbd
        obtain ⟨i0_, hi0, hy0, hy1, hy2⟩ := info_parts inf2
        have HI0 := Lib.hid hi0
        have HY0 := Lib.hid hy0
        have HY1 := Lib.hid hy1
        have HY2 := Lib.hid hy2
        clear g1 g2 g3 g5 g6 g7 hKl hra hrb hi0 hy0 hy1 hy2
        gi_wp2
        refine round_held (S := fun W' => W'.cell? ⟨B, 0, none⟩ = some (.func (.func 72) #[] #[]) ∧ W'.cell? ⟨Bn, 0, none⟩ = some (iv n.op) ∧ W'.cell? ⟨Bn, 1, none⟩ = some (iv n.l) ∧ W'.cell? ⟨Bn, 2, none⟩ = some (iv n.r) ∧ W'.cell? ⟨Bn, 3, none⟩ = some (iv n.k) ∧ W'.cell? ⟨Bn, 4, none⟩ = some (iv n.lo) ∧ W'.cell? ⟨Bn, 5, none⟩ = some (iv n.hi) ∧ W'.cell? ⟨Bp, 0, none⟩ = some ca ∧ W'.cell? ⟨Bp, 1, none⟩ = some cb) (by kernel_rfl) (by kernel_rfl) (by exact HSB.out.cells) (fun hHeld => ?_)
        refine wpAnyH_take (i := 1) (oi := { dst := some 35, op := Op.load 117 (Operand.tmp 3), type := 117, pos := "rules.go:36", after := #[], guard := none }) (v := .func (.func 72) #[] #[]) rfl (by kernel_rfl) (by kernel_rfl) (by kernel_rfl) (fun _ _ _ h => h) (Or.inl ⟨by rfl, (by intro w0 hSw; (try dsimp only at hSw); go_simp)⟩) (by assumption) ?_
        (try simp only [Act.put, List.setIfInBounds_toArray, List.set_cons_zero, List.set_cons_succ])
        refine wpAnyH_take (i := 2) (oi := { dst := some 36, op := Op.load 61 (Operand.tmp 7), type := 61, pos := "rules.go:36", after := #[], guard := none }) (v := ndV n) rfl (by kernel_rfl) (by kernel_rfl) (by kernel_rfl) (fun _ _ _ h => h) (Or.inl ⟨by rfl, (by intro w0 hSw; (try dsimp only at hSw); go_simp)⟩) (by assumption) ?_
        (try simp only [Act.put, List.setIfInBounds_toArray, List.set_cons_zero, List.set_cons_succ])
        refine wpAnyH_take (i := 3) (oi := { dst := some 37, op := Op.indexAddr 149 (Operand.tmp 8) (Operand.const (Value.int IntKind.i64 0)), type := 0, pos := "rules.go:36", after := #[], guard := none }) (v := .pointer (some ⟨Bp, 0, none⟩)) rfl (by kernel_rfl) (by kernel_rfl) (by kernel_rfl) (fun _ _ _ h => h) (Or.inl ⟨by rfl, (by intro w0 hSw; (try dsimp only at hSw); go_simp)⟩) (by assumption) ?_
        (try simp only [Act.put, List.setIfInBounds_toArray, List.set_cons_zero, List.set_cons_succ])
        refine wpAnyH_take (i := 4) (oi := { dst := some 38, op := Op.load 2 (Operand.tmp 37), type := 2, pos := "rules.go:36", after := #[{ on := 3, ground := Ground.data }], guard := none }) (v := ca) rfl (by kernel_rfl) (by kernel_rfl) (by kernel_rfl) (fun _ _ _ h => h) (Or.inl ⟨by rfl, (by intro w0 hSw; (try dsimp only at hSw); go_simp)⟩) (by assumption) ?_
        (try simp only [Act.put, List.setIfInBounds_toArray, List.set_cons_zero, List.set_cons_succ])
        refine wpAnyH_take (i := 5) (oi := { dst := some 39, op := Op.indexAddr 149 (Operand.tmp 8) (Operand.const (Value.int IntKind.i64 1)), type := 0, pos := "rules.go:36", after := #[], guard := none }) (v := .pointer (some ⟨Bp, 1, none⟩)) rfl (by kernel_rfl) (by kernel_rfl) (by kernel_rfl) (fun _ _ _ h => h) (Or.inl ⟨by rfl, (by intro w0 hSw; (try dsimp only at hSw); go_simp)⟩) (by assumption) ?_
        (try simp only [Act.put, List.setIfInBounds_toArray, List.set_cons_zero, List.set_cons_succ])
        refine wpAnyH_take (i := 6) (oi := { dst := some 40, op := Op.load 2 (Operand.tmp 39), type := 2, pos := "rules.go:36", after := #[{ on := 5, ground := Ground.data }], guard := none }) (v := cb) rfl (by kernel_rfl) (by kernel_rfl) (by kernel_rfl) (fun _ _ _ h => h) (Or.inl ⟨by rfl, (by intro w0 hSw; (try dsimp only at hSw); go_simp)⟩) (by assumption) ?_
        (try simp only [Act.put, List.setIfInBounds_toArray, List.set_cons_zero, List.set_cons_succ])
        refine wpAnyH_ready (rs := [0, 7]) (by kernel_rfl) (by simp) ?_
        refine AllReadyH.cons (o := { dst := some 34, op := Op.load 36 (Operand.tmp 5), type := 36, pos := "rules.go:36", after := #[], guard := none }) rfl (fun K hK => ?_) (AllReadyH.cons (o := { dst := some 41, op := Op.call { callee := Callee.value (Operand.tmp 35), args := #[Operand.tmp 36, Operand.tmp 38, Operand.tmp 40], argTypes := #[61, 2, 2] }, type := 2, pos := "rules.go:36", after := #[{ on := 1, ground := Ground.data }, { on := 2, ground := Ground.data }, { on := 4, ground := Ground.data }, { on := 6, ground := Ground.data }], guard := none }) rfl (fun K hK => ?_) AllReadyH.nil)
        · go_simp
          refine hK.out _ _ (by exact HSB.out.cells) (fun hHeld => ?_)
          clear hK K
          (try simp only [Act.put, List.setIfInBounds_toArray, List.set_cons_zero, List.set_cons_succ])
          refine wpAnyH_ready (rs := [7]) (by kernel_rfl) (by simp) ?_
          refine AllReadyH.cons (o := { dst := some 41, op := Op.call { callee := Callee.value (Operand.tmp 35), args := #[Operand.tmp 36, Operand.tmp 38, Operand.tmp 40], argTypes := #[61, 2, 2] }, type := 2, pos := "rules.go:36", after := #[{ on := 1, ground := Ground.data }, { on := 2, ground := Ground.data }, { on := 4, ground := Ground.data }, { on := 6, ground := Ground.data }], guard := none }) rfl (fun K hK => ?_) AllReadyH.nil
          go_simp
          go_at_call 72
          (with_reducible refine (HCl.out _ (Below.drew (Below.refl _ _))).mono ?_)
          rintro e w1 ⟨vr, rfl, hone, hrep, hb1⟩
          have HB1 : Hid (Below wr.heap.size wr w1) := Lib.hid ⟨hb1.os, hb1.tape, hb1.output, hb1.size, hb1.block⟩
          obtain ⟨vy, hvr⟩ := HS1.out _ _ _ hrep
          obtain rfl := hvr
          have HSB1 := Lib.hid (HSB.out.below HB1.out)
          have hx1 := box_step HBX.out HB1.out
          have c1 : w1.cell? ⟨B + 1, 0, none⟩ = some (.slice Av qn cv) := hx1.cell 0
          have l1 := hx1.lt
          have HR1 := Lib.hid (HRO.out.kept (grown_of_below HB1.out) (Classical.em _))
          have HRep := Lib.hid hrep
          clear hb1 hrep hone
          refine hK.out _ _ (by exact HSB1.out.cells) (fun hHeld => ?_)
          clear hK K
          (try simp only [Act.put, List.setIfInBounds_toArray, List.set_cons_zero, List.set_cons_succ])
          refine wpAnyH_ready (rs := [8]) (by kernel_rfl) (by simp) ?_
          refine AllReadyH.cons (o := { dst := some 42, op := Op.buildSlice 36 1 #[(0, Operand.tmp 41)], type := 36, pos := "rules.go:36", after := #[{ on := 7, ground := Ground.data }], guard := none }) rfl (fun K hK => ?_) AllReadyH.nil
          go_simp
          refine hK.out _ _ (by exact (HSB1.out.alloc _).cells) (fun hHeld => ?_)
          clear hK K
          (try simp only [Act.put, List.setIfInBounds_toArray, List.set_cons_zero, List.set_cons_succ])
          refine wpAnyH_ready (rs := [9]) (by kernel_rfl) (by simp) ?_
          refine AllReadyH.cons (o := { dst := some 43, op := Op.call { callee := Callee.builtin Builtin.append, args := #[Operand.tmp 34, Operand.tmp 42], argTypes := #[36, 36] }, type := 36, pos := "rules.go:36", after := #[{ on := 0, ground := Ground.data }, { on := 8, ground := Ground.data }, { on := 7, ground := Ground.chain }], guard := none }) rfl (fun K hK => ?_) AllReadyH.nil
          refine step_append_lies _ (by rfl) _ _ 36 (by rfl) (B + 2 + 1) 2 i0_ _ 1 8 Tryd.underlying36 HI0.out HY0.out HY1.out HY2.out rfl (by decide) (.slice Av qn cv) qn (us.drop j).reverse (by rfl) (HR1.out.alloc _) ⟨w1.heap.size, 0, none⟩ 1 1 [iv vy] (by rfl) (by rfl) (World.news_of_block (cs := #[iv vy]) (t := 2) (fr := (0, 0)) (World.alloc_heap_new _ _)) (by simp [Value.oneCell']) (by decide) (by unfold maxLen; omega) (by omega) (by simp; omega) _ rfl ?_
          intro gg cap1 w7 hown7 hgrow hat hlt7
          have HFin := Lib.hid (HF.out.fin HB1.out HBX.out HRO.out HKl.out hgrow hown7 (by decide) (by decide) (by decide) (by decide) (by decide) (by decide) (by decide) (by decide) (by decide) (by decide) (by decide) (by omega) (by omega))
          have HSB7 := Lib.hid HFin.out.1
          have hx7 := HFin.out.2.2.1
          clear hown7 hgrow hat hlt7
          refine hK.out _ _ (by rw [← HCad.out, ← HCbd.out] at HSB7; exact HSB7.out.cells) (fun hHeld => ?_)
          clear hK K
          (try simp only [Act.put, List.setIfInBounds_toArray, List.set_cons_zero, List.set_cons_succ])
          have c7 : w7.cell? ⟨B + 1, 0, none⟩ = some (.slice Av qn cv) := hx7.cell 0
          have f7 : w7.frozen? ⟨B + 1, 0, none⟩ = false := hx7.frozen 0
          have l7 := hx7.lt
          refine wpAnyH_ready (rs := [10]) (by kernel_rfl) (by simp) ?_
          refine AllReadyH.cons (o := { dst := none, op := Op.store 36 (Operand.tmp 5) (Operand.tmp 43), type := 0, pos := "rules.go:36", after := #[{ on := 9, ground := Ground.data }, { on := 9, ground := Ground.chain }, { on := 0, ground := Ground.phase }, { on := 1, ground := Ground.phase }, { on := 2, ground := Ground.phase }, { on := 3, ground := Ground.phase }, { on := 4, ground := Ground.phase }, { on := 5, ground := Ground.phase }, { on := 6, ground := Ground.phase }, { on := 7, ground := Ground.phase }, { on := 8, ground := Ground.phase }, { on := 9, ground := Ground.phase }], guard := none }) rfl (fun K hK => ?_) AllReadyH.nil
          go_simp
          refine hK.out _ _ (by rw [← HCad.out, ← HCbd.out] at HFin; exact HFin.out.2.1.cells) (fun hHeld => ?_)
          clear hK K
          (try simp only [Act.put, List.setIfInBounds_toArray, List.set_cons_zero, List.set_cons_succ])
          refine wpAnyH_done (by kernel_rfl) ?_ _
          refine OnlyK.normal ?_
          clear hHeld
          obtain ⟨_, _, _, e1, e2, e3, e4, e5, e6, e7, e8⟩ := HFin.out
          refine ⟨e1.from _, trivial, _, _, e4, e5, e6, e7, ?_, e8⟩
          have ehd : stk value z (L.drop (m - (pre ++ [x]).length)) = value n (if 1 ≤ j then (stk value z (L.drop (x + 1))).getD 0 z else z) (if 2 ≤ j then (stk value z (L.drop (x + 1))).getD 1 z else z) :: (stk value z (L.drop (x + 1))).drop j := by
            rw [hmx2.out, HD.out, HP.out]
            rfl
          show Reps _ _ (stk value z (L.drop (m - (pre ++ [x]).length)))
          rw [ehd]
          exact ⟨HRK.out _ _ _ _ HRep.out e3, (H5.out.drop j).mono (fun u y h => HRK.out _ _ _ _ h e2)⟩
        · go_simp
          go_at_call 72
          (with_reducible refine (HCl.out _ (Below.drew (Below.refl _ _))).mono ?_)
          rintro e w1 ⟨vr, rfl, hone, hrep, hb1⟩
          have HB1 : Hid (Below wr.heap.size wr w1) := Lib.hid ⟨hb1.os, hb1.tape, hb1.output, hb1.size, hb1.block⟩
          obtain ⟨vy, hvr⟩ := HS1.out _ _ _ hrep
          obtain rfl := hvr
          have HSB1 := Lib.hid (HSB.out.below HB1.out)
          have hx1 := box_step HBX.out HB1.out
          have c1 : w1.cell? ⟨B + 1, 0, none⟩ = some (.slice Av qn cv) := hx1.cell 0
          have l1 := hx1.lt
          have HR1 := Lib.hid (HRO.out.kept (grown_of_below HB1.out) (Classical.em _))
          have HRep := Lib.hid hrep
          clear hb1 hrep hone
          refine hK.out _ _ (by exact HSB1.out.cells) (fun hHeld => ?_)
          clear hK K
          (try simp only [Act.put, List.setIfInBounds_toArray, List.set_cons_zero, List.set_cons_succ])
          refine wpAnyH_ready (rs := [0, 8]) (by kernel_rfl) (by simp) ?_
          refine AllReadyH.cons (o := { dst := some 34, op := Op.load 36 (Operand.tmp 5), type := 36, pos := "rules.go:36", after := #[], guard := none }) rfl (fun K hK => ?_) (AllReadyH.cons (o := { dst := some 42, op := Op.buildSlice 36 1 #[(0, Operand.tmp 41)], type := 36, pos := "rules.go:36", after := #[{ on := 7, ground := Ground.data }], guard := none }) rfl (fun K hK => ?_) AllReadyH.nil)
          · go_simp
            refine hK.out _ _ (by exact HSB1.out.cells) (fun hHeld => ?_)
            clear hK K
            (try simp only [Act.put, List.setIfInBounds_toArray, List.set_cons_zero, List.set_cons_succ])
            refine wpAnyH_ready (rs := [8]) (by kernel_rfl) (by simp) ?_
            refine AllReadyH.cons (o := { dst := some 42, op := Op.buildSlice 36 1 #[(0, Operand.tmp 41)], type := 36, pos := "rules.go:36", after := #[{ on := 7, ground := Ground.data }], guard := none }) rfl (fun K hK => ?_) AllReadyH.nil
            go_simp
            refine hK.out _ _ (by exact (HSB1.out.alloc _).cells) (fun hHeld => ?_)
            clear hK K
            (try simp only [Act.put, List.setIfInBounds_toArray, List.set_cons_zero, List.set_cons_succ])
            refine wpAnyH_ready (rs := [9]) (by kernel_rfl) (by simp) ?_
            refine AllReadyH.cons (o := { dst := some 43, op := Op.call { callee := Callee.builtin Builtin.append, args := #[Operand.tmp 34, Operand.tmp 42], argTypes := #[36, 36] }, type := 36, pos := "rules.go:36", after := #[{ on := 0, ground := Ground.data }, { on := 8, ground := Ground.data }, { on := 7, ground := Ground.chain }], guard := none }) rfl (fun K hK => ?_) AllReadyH.nil
            refine step_append_lies _ (by rfl) _ _ 36 (by rfl) (B + 2 + 1) 2 i0_ _ 1 8 Tryd.underlying36 HI0.out HY0.out HY1.out HY2.out rfl (by decide) (.slice Av qn cv) qn (us.drop j).reverse (by rfl) (HR1.out.alloc _) ⟨w1.heap.size, 0, none⟩ 1 1 [iv vy] (by rfl) (by rfl) (World.news_of_block (cs := #[iv vy]) (t := 2) (fr := (0, 0)) (World.alloc_heap_new _ _)) (by simp [Value.oneCell']) (by decide) (by unfold maxLen; omega) (by omega) (by simp; omega) _ rfl ?_
            intro gg cap1 w7 hown7 hgrow hat hlt7
            have HFin := Lib.hid (HF.out.fin HB1.out HBX.out HRO.out HKl.out hgrow hown7 (by decide) (by decide) (by decide) (by decide) (by decide) (by decide) (by decide) (by decide) (by decide) (by decide) (by decide) (by omega) (by omega))
            have HSB7 := Lib.hid HFin.out.1
            have hx7 := HFin.out.2.2.1
            clear hown7 hgrow hat hlt7
            refine hK.out _ _ (by rw [← HCad.out, ← HCbd.out] at HSB7; exact HSB7.out.cells) (fun hHeld => ?_)
            clear hK K
            (try simp only [Act.put, List.setIfInBounds_toArray, List.set_cons_zero, List.set_cons_succ])
            have c7 : w7.cell? ⟨B + 1, 0, none⟩ = some (.slice Av qn cv) := hx7.cell 0
            have f7 : w7.frozen? ⟨B + 1, 0, none⟩ = false := hx7.frozen 0
            have l7 := hx7.lt
            refine wpAnyH_ready (rs := [10]) (by kernel_rfl) (by simp) ?_
            refine AllReadyH.cons (o := { dst := none, op := Op.store 36 (Operand.tmp 5) (Operand.tmp 43), type := 0, pos := "rules.go:36", after := #[{ on := 9, ground := Ground.data }, { on := 9, ground := Ground.chain }, { on := 0, ground := Ground.phase }, { on := 1, ground := Ground.phase }, { on := 2, ground := Ground.phase }, { on := 3, ground := Ground.phase }, { on := 4, ground := Ground.phase }, { on := 5, ground := Ground.phase }, { on := 6, ground := Ground.phase }, { on := 7, ground := Ground.phase }, { on := 8, ground := Ground.phase }, { on := 9, ground := Ground.phase }], guard := none }) rfl (fun K hK => ?_) AllReadyH.nil
            go_simp
            refine hK.out _ _ (by rw [← HCad.out, ← HCbd.out] at HFin; exact HFin.out.2.1.cells) (fun hHeld => ?_)
            clear hK K
            (try simp only [Act.put, List.setIfInBounds_toArray, List.set_cons_zero, List.set_cons_succ])
            refine wpAnyH_done (by kernel_rfl) ?_ _
            refine OnlyK.normal ?_
            clear hHeld
            obtain ⟨_, _, _, e1, e2, e3, e4, e5, e6, e7, e8⟩ := HFin.out
            refine ⟨e1.from _, trivial, _, _, e4, e5, e6, e7, ?_, e8⟩
            have ehd : stk value z (L.drop (m - (pre ++ [x]).length)) = value n (if 1 ≤ j then (stk value z (L.drop (x + 1))).getD 0 z else z) (if 2 ≤ j then (stk value z (L.drop (x + 1))).getD 1 z else z) :: (stk value z (L.drop (x + 1))).drop j := by
              rw [hmx2.out, HD.out, HP.out]
              rfl
            show Reps _ _ (stk value z (L.drop (m - (pre ++ [x]).length)))
            rw [ehd]
            exact ⟨HRK.out _ _ _ _ HRep.out e3, (H5.out.drop j).mono (fun u y h => HRK.out _ _ _ _ h e2)⟩
          · go_simp
            refine hK.out _ _ (by exact (HSB1.out.alloc _).cells) (fun hHeld => ?_)
            clear hK K
            (try simp only [Act.put, List.setIfInBounds_toArray, List.set_cons_zero, List.set_cons_succ])
            have c2 : (w1.alloc (.cells #[iv vy] 2)).cell? ⟨B + 1, 0, none⟩ = some (.slice Av qn cv) := (hx1.alloc _).cell 0
            have l2 := (hx1.alloc (.cells #[iv vy] 2)).lt
            refine wpAnyH_ready (rs := [0]) (by kernel_rfl) (by simp) ?_
            refine AllReadyH.cons (o := { dst := some 34, op := Op.load 36 (Operand.tmp 5), type := 36, pos := "rules.go:36", after := #[], guard := none }) rfl (fun K hK => ?_) AllReadyH.nil
            go_simp
            refine hK.out _ _ (by exact (HSB1.out.alloc _).cells) (fun hHeld => ?_)
            clear hK K
            (try simp only [Act.put, List.setIfInBounds_toArray, List.set_cons_zero, List.set_cons_succ])
            refine wpAnyH_ready (rs := [9]) (by kernel_rfl) (by simp) ?_
            refine AllReadyH.cons (o := { dst := some 43, op := Op.call { callee := Callee.builtin Builtin.append, args := #[Operand.tmp 34, Operand.tmp 42], argTypes := #[36, 36] }, type := 36, pos := "rules.go:36", after := #[{ on := 0, ground := Ground.data }, { on := 8, ground := Ground.data }, { on := 7, ground := Ground.chain }], guard := none }) rfl (fun K hK => ?_) AllReadyH.nil
            refine step_append_lies _ (by rfl) _ _ 36 (by rfl) (B + 2 + 1) 2 i0_ _ 1 8 Tryd.underlying36 HI0.out HY0.out HY1.out HY2.out rfl (by decide) (.slice Av qn cv) qn (us.drop j).reverse (by rfl) (HR1.out.alloc _) ⟨w1.heap.size, 0, none⟩ 1 1 [iv vy] (by rfl) (by rfl) (World.news_of_block (cs := #[iv vy]) (t := 2) (fr := (0, 0)) (World.alloc_heap_new _ _)) (by simp [Value.oneCell']) (by decide) (by unfold maxLen; omega) (by omega) (by simp; omega) _ rfl ?_
            intro gg cap1 w7 hown7 hgrow hat hlt7
            have HFin := Lib.hid (HF.out.fin HB1.out HBX.out HRO.out HKl.out hgrow hown7 (by decide) (by decide) (by decide) (by decide) (by decide) (by decide) (by decide) (by decide) (by decide) (by decide) (by decide) (by omega) (by omega))
            have HSB7 := Lib.hid HFin.out.1
            have hx7 := HFin.out.2.2.1
            clear hown7 hgrow hat hlt7
            refine hK.out _ _ (by rw [← HCad.out, ← HCbd.out] at HSB7; exact HSB7.out.cells) (fun hHeld => ?_)
            clear hK K
            (try simp only [Act.put, List.setIfInBounds_toArray, List.set_cons_zero, List.set_cons_succ])
            have c7 : w7.cell? ⟨B + 1, 0, none⟩ = some (.slice Av qn cv) := hx7.cell 0
            have f7 : w7.frozen? ⟨B + 1, 0, none⟩ = false := hx7.frozen 0
            have l7 := hx7.lt
            refine wpAnyH_ready (rs := [10]) (by kernel_rfl) (by simp) ?_
            refine AllReadyH.cons (o := { dst := none, op := Op.store 36 (Operand.tmp 5) (Operand.tmp 43), type := 0, pos := "rules.go:36", after := #[{ on := 9, ground := Ground.data }, { on := 9, ground := Ground.chain }, { on := 0, ground := Ground.phase }, { on := 1, ground := Ground.phase }, { on := 2, ground := Ground.phase }, { on := 3, ground := Ground.phase }, { on := 4, ground := Ground.phase }, { on := 5, ground := Ground.phase }, { on := 6, ground := Ground.phase }, { on := 7, ground := Ground.phase }, { on := 8, ground := Ground.phase }, { on := 9, ground := Ground.phase }], guard := none }) rfl (fun K hK => ?_) AllReadyH.nil
            go_simp
            refine hK.out _ _ (by rw [← HCad.out, ← HCbd.out] at HFin; exact HFin.out.2.1.cells) (fun hHeld => ?_)
            clear hK K
            (try simp only [Act.put, List.setIfInBounds_toArray, List.set_cons_zero, List.set_cons_succ])
            refine wpAnyH_done (by kernel_rfl) ?_ _
            refine OnlyK.normal ?_
            clear hHeld
            obtain ⟨_, _, _, e1, e2, e3, e4, e5, e6, e7, e8⟩ := HFin.out
            refine ⟨e1.from _, trivial, _, _, e4, e5, e6, e7, ?_, e8⟩
            have ehd : stk value z (L.drop (m - (pre ++ [x]).length)) = value n (if 1 ≤ j then (stk value z (L.drop (x + 1))).getD 0 z else z) (if 2 ≤ j then (stk value z (L.drop (x + 1))).getD 1 z else z) :: (stk value z (L.drop (x + 1))).drop j := by
              rw [hmx2.out, HD.out, HP.out]
              rfl
            show Reps _ _ (stk value z (L.drop (m - (pre ++ [x]).length)))
            rw [ehd]
            exact ⟨HRK.out _ _ _ _ HRep.out e3, (H5.out.drop j).mono (fun u y h => HRK.out _ _ _ _ h e2)⟩
  case done =>
    rintro W ⟨v, us, h1, h2, h3, h4, h5, h6⟩ hK
    have e0 : L.drop (m - (dnL m m).length) = L := by rw [dnL_len, Nat.sub_self]; rfl
    simp only [e0] at h5
    have hl1 : us.length = 0 + 1 := by rw [h5.len, stk_len value z HL.out]
    obtain ⟨g, c, u, rest, rfl, rfl, hr, hc, hg1, hg2, _⟩ := row_at h2 hl1
    have hres : Hid (Rep (W.putObj WR.heap.size (.deferred none)) u ((stk value z L).getD 0 z) ∧ Below w.heap.size w (W.putObj WR.heap.size (.deferred none))) := Lib.hid ⟨HRK.out _ _ _ _ (h5.get 0 u z (by simp)) (Kt.put hK rfl), h6.trans (putObj_below (by have := HBw.out; omega) _)⟩
    have c1 : W.cell? ⟨B + 1, 0, none⟩ = some (.slice (some ⟨g, 0, none⟩) (0 + 1) c) := h1.cell 0
    have l1 := h1.lt
    clear h1 h2 h3 h4 h5 h6
    go_wp2
    refine ⟨by simp, .inl ⟨_, _, rfl, run_takeDeferred hK, ?_⟩⟩
    refine ⟨u, ?_, _, rfl, hres.out⟩
    exact results_tmp (show Tryd.f71.results = #[.tmp 4] from rfl) _ _ _
end Go.Proofs.YtnpnfdnaglcnfaaDoor
