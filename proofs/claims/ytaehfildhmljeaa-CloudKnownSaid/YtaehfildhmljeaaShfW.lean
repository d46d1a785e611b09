/- Shift of a cloud. -/
import Derived.Test.YtaehfildhmljeaaShfA
namespace Go.Proofs.Ytaehfildhmljeaa
open Go.RowKit Go.Shelf

theorem own_form {W : World} {base e s k : Nat} {v : Value} {xs : List Value} (h : W.ownsRow base e s v k xs) : ∃ A c, v = .slice A k c := by
  by_cases h0 : k = 0
  · rcases h.2 with ⟨rfl, h2⟩ | ⟨g, cap, cur, rfl, _⟩
    · exact ⟨none, 0, by rw [h0]⟩
    · exact ⟨_, _, rfl⟩
  · obtain ⟨g, c, rfl, _⟩ := h.form (by omega)
    exact ⟨_, _, rfl⟩
theorem own_cloud {W : World} {base k cap : Nat} {A : Option Addr} {X Y V : Nat → Int} (h : W.ownsRow base 69 3 (.slice A k cap) k (cellsP X Y V k)) : k ≤ cap ∧ Cloud W A k X Y V := by
  rcases id h.2 with ⟨h1, h2⟩ | ⟨g, c, cur, h1, _, _, h3, _⟩
  · cases h1
    exact ⟨Nat.le_refl _, fun h => absurd h (by omega)⟩
  · obtain ⟨rfl, rfl⟩ : A = some ⟨g, 0, none⟩ ∧ cap = c := by simpa using h1
    exact ⟨h3, fun _ => ⟨g, 0, rfl, Clo.of_own h⟩⟩
set_option maxRecDepth 100000 in
set_option maxHeartbeats 8000000 in
theorem shift_any (A : Option Addr) (n cap : Nat) (X Y V : Nat → Int) (a b : Int) (w : World) (hcl : Cloud w A n X Y V) :
    Calls Try.prog 20 #[.slice A n cap, .agg #[.int .i64 a, .int .i64 b]] w (ShPost n X Y V a b w) := by
  have hB : Below w.heap.size w (w.alloc (.cells #[.int .i64 a, .int .i64 b] 24)) := (Below.refl _ w).alloc (Nat.le_refl _) _
  have HK := Lib.hid (check_any A n cap X Y V _ (hcl.below hB))
  by_cases hok : chkF n X Y V = 0
  · have HO := Lib.hid hok
    rw [hok] at HK
    cases hnb : nearB a b with
    | false =>
      have HN : Hid (nearB a b = false) := Lib.hid hnb
      have HS := Lib.hid (shN_far hok hnb)
      have hbx := BoxAt.new w 24 #[.int .i64 a, .int .i64 b]
      clear hcl hok hnb
      go_enter Try.func20, Try.ntmps20
      go_wp2_with (first
        | (go_at_call 22; (with_reducible refine HK.out.mono ?_); rintro e w1 ⟨rfl, hb1⟩; replace hB := below_step hB hb1; have hbx1 := box_step hbx hb1; have d0 : w1.cell? ⟨w.heap.size, 0, none⟩ = some (.int .i64 a) := hbx1.cell 0; have d1 : w1.cell? ⟨w.heap.size, 1, none⟩ = some (.int .i64 b) := hbx1.cell 1; have d2 := hbx1.lt)
        | (go_at_call 58; (with_reducible refine (vshift_any a b false _ HN).mono ?_); rintro e w2 ⟨rfl, hb2⟩; replace hB := below_step hB hb2))
      exact bodyPost_ret (v := .tuple #[.slice none 0 0, .int .i64 2]) (by simp [results, Try.results20, go_sem]) rfl (ShPost.nil HS.out hB)
    | true =>
      have HN : Hid (nearB a b = true) := Lib.hid hnb
      obtain ⟨a1, a2, a3, a4⟩ := near_of hnb
      have hbx := BoxAt.new w 24 #[.int .i64 a, .int .i64 b]
      have HCL := Lib.hid hcl
      have hn := by
        have h := hok
        unfold chkF at h
        split at h
        · cases h
        · exact (show n ≤ 1000 by omega)
      obtain ⟨i0_, hi0, hz0, hz1, hz2⟩ := info_parts Try.info69
      have hI0 := Lib.hid hi0
      have hZ0 := Lib.hid hz0
      have hZ1 := Lib.hid hz1
      have hZ2 := Lib.hid hz2
      have HBY := Lib.hid hbx
      have HA := Lib.hid (And.intro (And.intro a1 a2) (And.intro a3 a4))
      obtain ⟨L3, hL3⟩ : ∃ q, q = w.heap.size := ⟨_, rfl⟩
      have HL3 := Lib.hid hL3
      clear hcl hok hnb hi0 hz0 hz1 hz2 hbx a1 a2 a3 a4
      go_enter Try.func20, Try.ntmps20
      go_upto_region 6 with (first
        | (go_at_call 22; (with_reducible refine HK.out.mono ?_); rintro e w1 ⟨rfl, hb1⟩; replace hB := below_step hB hb1; have HBY1 := Lib.hid (box_step HBY.out hb1); have d0 : w1.cell? ⟨w.heap.size, 0, none⟩ = some (.int .i64 a) := HBY1.out.cell 0; have d1 : w1.cell? ⟨w.heap.size, 1, none⟩ = some (.int .i64 b) := HBY1.out.cell 1; have d2 := HBY1.out.lt)
        | (go_at_call 58; (with_reducible refine (vshift_any a b true _ HN).mono ?_); rintro e w2 ⟨rfl, hb2⟩; replace hB := below_step hB hb2; have HBY2 := Lib.hid (box_step HBY1.out hb2)))
      rw [← hL3] at HBY2 d0 d1 d2 ⊢
      have HB2 := Lib.hid hB
      clear HK HBY HBY1 d0 d1 d2 hb1 hb2 hB hL3
      go_wp2
      go_loopw [7, 21] (fun o i wr => ∃ (k : Nat) (v : Value), k ≤ n ∧ o = v ∧ i = .int .i64 k ∧ Hid (wr.ownsRow (w.heap.size + 1) 69 3 v k (cellsP (fun i => X i + a) (fun i => Y i + b) V k)) ∧ Hid (BoxAt wr L3 24 #[.int .i64 a, .int .i64 b]) ∧ Hid (allB (fun i => vldB (X i + a) (Y i + b)) k = true) ∧ Hid (Below w.heap.size w wr)) (fun _ i _ => n + 1 - (intOf i).toNat)
      case atStart => exact ⟨0, .slice none 0 0, Nat.zero_le _, rfl, rfl, Lib.hid (World.ownsRow_nil _ _ _ _), HBY2, Lib.hid rfl, HB2⟩
      case round =>
        clear HBY2 HB2
        obtain ⟨k, v, hk, rfl, rfl, HR, HBY, HT, HB⟩ := hrel
        by_cases hlt : k < n
        · obtain ⟨blk, off, e, hc0⟩ := HCL.out (by omega)
          subst e
          obtain ⟨ox, oy, _, _⟩ := ok_at HO.out hlt
          have HOX := Lib.hid ox
          have HOY := Lib.hid oy
          have i0 : (0 : Int) ≤ (k : Int) := Int.natCast_nonneg _
          have i1 : (k : Int) < (n : Int) := by omega
          have hbl := hc0.lt (by omega)
          have l1 : blk < wr.heap.size := Nat.lt_of_lt_of_le hbl HB.out.size
          obtain ⟨c0, c1, c2⟩ := (hc0.below HB.out hbl) k hlt
          clear hc0 ox oy
          go_upto_region 10 with fail
          have hb4 : Below wr.heap.size wr (wr.alloc (.cells #[.int .i64 (X k), .int .i64 (Y k), .int .i64 (V k)] 69)) := (Below.refl _ wr).alloc (Nat.le_refl _) _
          have hq := BoxAt.new wr 69 #[.int .i64 (X k), .int .i64 (Y k), .int .i64 (V k)]
          have HBY4 := Lib.hid (HBY.out.alloc (.cells #[.int .i64 (X k), .int .i64 (Y k), .int .i64 (V k)] 69))
          have HR4 := Lib.hid (HR.out.alloc (.cells #[.int .i64 (X k), .int .i64 (Y k), .int .i64 (V k)] 69))
          have HB4 := Lib.hid (below_step HB.out hb4)
          obtain ⟨Lq, hLq⟩ : ∃ q, q = wr.heap.size := ⟨_, rfl⟩
          rw [← hLq] at hq ⊢
          clear hLq hb4 c0 c1 c2 l1 HB HR HBY
          generalize wr.alloc (.cells #[.int .i64 (X k), .int .i64 (Y k), .int .i64 (V k)] 69) = wx at *
          have k0 : wx.cell? ⟨Lq, 0, none⟩ = some (.int .i64 (X k)) := hq.cell 0
          have k1 : wx.cell? ⟨Lq, 1, none⟩ = some (.int .i64 (Y k)) := hq.cell 1
          have k2 : wx.cell? ⟨Lq, 2, none⟩ = some (.int .i64 (V k)) := hq.cell 2
          have d0 : wx.cell? ⟨L3, 0, none⟩ = some (.int .i64 a) := HBY4.out.cell 0
          have d1 : wx.cell? ⟨L3, 1, none⟩ = some (.int .i64 b) := HBY4.out.cell 1
          have l2 := hq.lt
          have l3 := HBY4.out.lt
          have HQ := Lib.hid hq
          clear hq
          obtain ⟨Av, cv, hv⟩ := own_form HR4.out
          subst hv
          go_upto_region 11 with (go_at_call 59; (with_reducible refine (moved_any _ _ _ _ _ _ HOX.out HOY.out HA.out.1.1 HA.out.1.2 HA.out.2.1 HA.out.2.2).mono ?_); rintro e w3 ⟨rfl, hb3⟩)
          have HBY5 := Lib.hid ((box_step HBY4.out hb3).alloc (.cells #[.int .i64 (X k + a), .int .i64 (Y k + b)] 24))
          have HR5 := Lib.hid ((HR4.out.kept (grown_of_below hb3) (Classical.em _)).alloc (.cells #[.int .i64 (X k + a), .int .i64 (Y k + b)] 24))
          have HQ5 := Lib.hid ((box_step HQ.out hb3).alloc (.cells #[.int .i64 (X k + a), .int .i64 (Y k + b)] 24))
          have hm := BoxAt.new w3 24 #[.int .i64 (X k + a), .int .i64 (Y k + b)]
          have HB5 := Lib.hid ((below_step HB4.out hb3).alloc (by have := (below_step HB4.out hb3).size; exact this) (.cells #[.int .i64 (X k + a), .int .i64 (Y k + b)] 24))
          obtain ⟨Lm, hLm⟩ : ∃ q, q = w3.heap.size := ⟨_, rfl⟩
          rw [← hLm] at hm ⊢
          clear hLm hb3 HB4 HR4 HBY4 HQ k0 k1 k2 d0 d1 l2 l3
          generalize w3.alloc (.cells #[.int .i64 (X k + a), .int .i64 (Y k + b)] 24) = wy at *
          have m0 : wy.cell? ⟨Lm, 0, none⟩ = some (.int .i64 (X k + a)) := hm.cell 0
          have m1 : wy.cell? ⟨Lm, 1, none⟩ = some (.int .i64 (Y k + b)) := hm.cell 1
          have l4 := hm.lt
          have HM := Lib.hid hm
          clear hm
          obtain ⟨p, hp⟩ : ∃ p, p = X k + a := ⟨_, rfl⟩
          obtain ⟨q, hq⟩ : ∃ q, q = Y k + b := ⟨_, rfl⟩
          obtain ⟨t, ht⟩ : ∃ t, t = V k := ⟨_, rfl⟩
          have HP := Lib.hid hp
          have HPQ := Lib.hid hq
          have HPT := Lib.hid ht
          rw [← hp, ← hq] at HM
          rw [← hp] at m0
          rw [← hq] at m1
          rw [← ht] at HQ5
          rw [← hp, ← hq, ← ht]
          clear hp hq ht
          obtain ⟨z, hz⟩ : ∃ z, z = vldB p q := ⟨_, rfl⟩
          have HZ : Hid (vldB p q = z) := Lib.hid hz.symm
          clear hz
          have hBx := Below.refl wy.heap.size wy
          cases z with
          | false =>
            have HS := Lib.hid (shN_out HO.out HN.out hlt (by rw [← HP.out, ← HPQ.out]; exact HZ.out))
            go_wp2_with (go_at_call 60; (with_reducible refine (one_vspot _ _ _ _ false _ (BoxAt.new _ 24 _) HZ).mono ?_); rintro e w5 ⟨rfl, hb5⟩; replace hBx := below_step2 hBx hb5)
            exact bodyPost_ret (v := .tuple #[.slice none 0 0, .int .i64 2]) (by simp [results, Try.results20, go_sem]) rfl (ShPost.nil HS.out (below_step HB5.out hBx))
          | true =>
            have HT2 : Hid (allB (fun i => vldB (X i + a) (Y i + b)) (k + 1) = true) := Lib.hid (by
              show (allB (fun i => vldB (X i + a) (Y i + b)) k && vldB (X k + a) (Y k + b)) = true
              rw [HT.out, ← HP.out, ← HPQ.out, HZ.out]; rfl)
            go_upto_region 13 with (go_at_call 60; (with_reducible refine (one_vspot _ _ _ _ true _ (BoxAt.new _ 24 _) HZ).mono ?_); rintro e w5 ⟨rfl, hb5⟩; replace hBx := below_step2 hBx hb5)
            have HM6 := Lib.hid (box_step HM.out hBx)
            have HQ6 := Lib.hid (box_step HQ5.out hBx)
            have HBY6 := Lib.hid (box_step HBY5.out hBx)
            have HR6 := Lib.hid (HR5.out.kept (grown_of_below hBx) (Classical.em _))
            have HB6 := Lib.hid (below_step HB5.out hBx)
            have m0 : w5.cell? ⟨Lm, 0, none⟩ = some (.int .i64 p) := HM6.out.cell 0
            have m1 : w5.cell? ⟨Lm, 1, none⟩ = some (.int .i64 q) := HM6.out.cell 1
            have m2 : w5.cell? ⟨Lq, 2, none⟩ = some (.int .i64 t) := HQ6.out.cell 2
            have l5 := HM6.out.lt
            have l6 := HQ6.out.lt
            have hsz : w.heap.size + 1 ≤ w5.heap.size := by have := HBY6.out.lt; have := HL3.out; omega
            clear hBx hb5 HM HQ5 HBY5 HR5 HB5 l4
            go_wp2_with (at_builtin; refine wpList_append_lies _ rfl _ _ 22 rfl (w.heap.size + 1) 69 i0_ _ 3 24 Try.underlying22 hI0.out hZ0.out hZ1.out hZ2.out rfl (by decide) (.slice Av k cv) k (cellsP (fun i => X i + a) (fun i => Y i + b) V k) rfl (HR6.out.alloc _) ⟨w5.heap.size, 0, none⟩ 1 1 [.int .i64 p, .int .i64 q, .int .i64 t] rfl rfl (World.news_of_block (cs := #[.int .i64 p, .int .i64 q, .int .i64 t]) (t := 69) (fr := (0, 0)) (heap_alloc_new w5 _)) (by simp [Value.oneCell']) (by decide) (by unfold maxLen; omega) (by omega) (by simp; omega) _ rfl ?_; intro gg cap1 w7 hown7 hgrow hat hlt7)
            have hlo : ∀ g, (Value.slice Av k cv).ownBlock = some g → w.heap.size + 1 ≤ g := fun g e => (HR6.out.lt _ e).1
            have HO7 : Hid (w7.ownsRow (w.heap.size + 1) 69 3 (.slice (some ⟨gg, 0, none⟩) (k + 1) cap1) (k + 1) (cellsP (fun i => X i + a) (fun i => Y i + b) V (k + 1))) := Lib.hid (by
              show w7.ownsRow (w.heap.size + 1) 69 3 (.slice (some ⟨gg, 0, none⟩) (k + 1) cap1) (k + 1) (cellsP (fun i => X i + a) (fun i => Y i + b) V k ++ [.int .i64 (X k + a), .int .i64 (Y k + b), .int .i64 (V k)])
              rw [← HP.out, ← HPQ.out, ← HPT.out]
              exact hown7)
            have HBY7 : Hid (BoxAt w7 L3 24 #[.int .i64 a, .int .i64 b]) := Lib.hid ((HBY6.out.alloc _).grown hgrow (fun e => by have := hlo _ e.symm; have := HL3.out; omega))
            have HB7 : Hid (Below w.heap.size w w7) := Lib.hid ((HB6.out.alloc (by omega) _).grown hgrow (by simp; omega) (fun g e => by have := hlo _ e; omega))
            clear hown7 hat
            go_wp2
            go_roundw
            case rel => exact ⟨k + 1, _, by omega, rfl, by go_num, HO7, HBY7, HT2, HB7⟩
            case measure => simp [intOf]; omega
        · obtain rfl : k = n := by omega
          have HS := Lib.hid (shN_ok HO.out HN.out HT.out)
          obtain ⟨Av, cv, hv⟩ := own_form HR.out
          subst hv
          obtain ⟨hc, hC⟩ := own_cloud HR.out
          have HCC := Lib.hid hC
          have HC2 := Lib.hid hc
          clear hC hc
          go_wp2
          exact bodyPost_ret (v := .tuple #[.slice Av k cv, .int .i64 0]) (by simp [results, Try.results20, go_sem]) rfl (by unfold ShPost; rw [HS.out]; exact ⟨Av, cv, rfl, HC2.out, HCC.out, HB.out⟩)
  · have HN := Lib.hid hok
    obtain ⟨z, hz⟩ : ∃ z, z = chkF n X Y V := ⟨_, rfl⟩
    have HS := Lib.hid (shN_bad (a := a) (b := b) hz.symm (by rw [hz]; exact hok))
    rw [← hz] at HK hok
    clear hcl hz
    go_enter Try.func20, Try.ntmps20
    go_wp2_with (go_at_call 22; (with_reducible refine HK.out.mono ?_); rintro e w1 ⟨rfl, hb1⟩; replace hB := below_step hB hb1)
    exact bodyPost_ret (v := .tuple #[.slice none 0 0, .int .i64 z]) (by simp [results, Try.results20, go_sem]) rfl (ShPost.nil HS.out hB)
end Go.Proofs.Ytaehfildhmljeaa
