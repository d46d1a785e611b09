/- The reference's Shift of a cloud. -/
import Derived.Test.YtaehfildhmljeaaShfW
import Derived.Deep.RegionHeld3
namespace Go.Proofs.Ytaehfildhmljeaa
open Go.RowKit Go.Shelf

set_option maxRecDepth 100000 in
set_option maxHeartbeats 8000000 in
theorem rshift_any (A : Option Addr) (n cap : Nat) (X Y V : Nat → Int) (a b : Int) (w : World) (hcl : Cloud w A n X Y V) :
    Calls Try.prog 21 #[.slice A n cap, .agg #[.int .i64 a, .int .i64 b]] w (ShPost n X Y V a b w) := by
  have hB : Below w.heap.size w (w.alloc (.cells #[.int .i64 a, .int .i64 b] 24)) := (Below.refl _ w).alloc (Nat.le_refl _) _
  have HK := Lib.hid (rcheck_any A n cap X Y V _ (hcl.below hB))
  by_cases hok : chkF n X Y V = 0
  · have HO := Lib.hid hok
    rw [hok] at HK
    cases hnb : nearB a b with
    | false =>
      have HN : Hid ((!nearB a b) = true) := Lib.hid (by rw [hnb]; rfl)
      have HS := Lib.hid (shN_far hok hnb)
      have hbx := BoxAt.new w 24 #[.int .i64 a, .int .i64 b]
      clear hcl hok hnb
      go_enter Try.func21, Try.ntmps21
      go_wp2_with (first
        | (go_at_call 23; (with_reducible refine HK.out.mono ?_); rintro e w1 ⟨rfl, hb1⟩; replace hB := below_step hB hb1; have hbx1 := box_step hbx hb1; have d0 : w1.cell? ⟨w.heap.size, 0, none⟩ = some (.int .i64 a) := hbx1.cell 0; have d1 : w1.cell? ⟨w.heap.size, 1, none⟩ = some (.int .i64 b) := hbx1.cell 1; have d2 := hbx1.lt)
        | (go_at_call 61; (with_reducible refine (far_any a b true _ HN).mono ?_); rintro e w2 ⟨rfl, hb2⟩; replace hB := below_step hB hb2))
      exact bodyPost_ret (v := .tuple #[.slice none 0 0, .int .i64 2]) (by simp [results, Try.results21, go_sem]) rfl (ShPost.nil HS.out hB)
    | true =>
      have HN : Hid (nearB a b = true) := Lib.hid hnb
      have HN2 : Hid ((!nearB a b) = false) := Lib.hid (by rw [hnb]; rfl)
      obtain ⟨a1, a2, a3, a4⟩ := near_of hnb
      have hbx := BoxAt.new w 24 #[.int .i64 a, .int .i64 b]
      have HCL := Lib.hid hcl
      have hn := by
        have h := hok
        unfold chkF at h
        split at h
        · cases h
        · exact (show n ≤ 1000 by omega)
      obtain ⟨i0_, hi0, hz0, hz1, hz2⟩ := info_parts Try.info69
      have hI0 := Lib.hid hi0
      have hZ0 := Lib.hid hz0
      have hZ1 := Lib.hid hz1
      have hZ2 := Lib.hid hz2
      have HBY := Lib.hid hbx
      have HA := Lib.hid (And.intro (And.intro a1 a2) (And.intro a3 a4))
      obtain ⟨L3, hL3⟩ : ∃ q, q = w.heap.size := ⟨_, rfl⟩
      have HL3 := Lib.hid hL3
      clear hcl hok hnb hi0 hz0 hz1 hz2 hbx a1 a2 a3 a4
      go_enter Try.func21, Try.ntmps21
      go_upto_region 6 with (first
        | (go_at_call 23; (with_reducible refine HK.out.mono ?_); rintro e w1 ⟨rfl, hb1⟩; replace hB := below_step hB hb1; have HBY1 := Lib.hid (box_step HBY.out hb1); have d0 : w1.cell? ⟨w.heap.size, 0, none⟩ = some (.int .i64 a) := HBY1.out.cell 0; have d1 : w1.cell? ⟨w.heap.size, 1, none⟩ = some (.int .i64 b) := HBY1.out.cell 1; have d2 := HBY1.out.lt)
        | (go_at_call 61; (with_reducible refine (far_any a b false _ HN2).mono ?_); rintro e w2 ⟨rfl, hb2⟩; replace hB := below_step hB hb2; have HBY2 := Lib.hid (box_step HBY1.out hb2)))
      rw [← hL3] at HBY2 d0 d1 d2 ⊢
      have HB2 := Lib.hid hB
      clear HK HBY HBY1 d0 d1 d2 hb1 hb2 hB hL3
      go_wp2
      go_loopw [7, 8] (fun o i wr => ∃ (k : Nat) (v : Value), k ≤ n ∧ o = v ∧ i = .int .i64 k ∧ Hid (wr.ownsRow (w.heap.size + 1) 69 3 v k (cellsP (fun i => X i + a) (fun i => Y i + b) V k)) ∧ Hid (BoxAt wr L3 24 #[.int .i64 a, .int .i64 b]) ∧ Hid (allB (fun i => vldB (X i + a) (Y i + b)) k = true) ∧ Hid (Below w.heap.size w wr)) (fun _ i _ => n + 1 - (intOf i).toNat)
      case atStart => exact ⟨0, .slice none 0 0, Nat.zero_le _, rfl, rfl, Lib.hid (World.ownsRow_nil _ _ _ _), HBY2, Lib.hid rfl, HB2⟩
      case round =>
        clear HBY2 HB2
        obtain ⟨k, v, hk, rfl, rfl, HR, HBY, HT, HB⟩ := hrel
        by_cases hlt : k < n
        · obtain ⟨blk, off, e, hc0⟩ := HCL.out (by omega)
          subst e
          obtain ⟨ox, oy, _, _⟩ := ok_at HO.out hlt
          have i0 : (0 : Int) ≤ (k : Int) := Int.natCast_nonneg _
          have i1 : (k : Int) < (n : Int) := by omega
          have hbl := hc0.lt (by omega)
          have l1 : blk < wr.heap.size := Nat.lt_of_lt_of_le hbl HB.out.size
          obtain ⟨c0, c1, c2⟩ := (hc0.below HB.out hbl) k hlt
          have d0 : wr.cell? ⟨L3, 0, none⟩ = some (.int .i64 a) := HBY.out.cell 0
          have d1 : wr.cell? ⟨L3, 1, none⟩ = some (.int .i64 b) := HBY.out.cell 1
          have l3 := HBY.out.lt
          obtain ⟨p, hp⟩ : ∃ p, p = X k + a := ⟨_, rfl⟩
          obtain ⟨q, hq⟩ : ∃ q, q = Y k + b := ⟨_, rfl⟩
          obtain ⟨t, ht⟩ : ∃ t, t = V k := ⟨_, rfl⟩
          have HP := Lib.hid hp
          have HPQ := Lib.hid hq
          have HPT := Lib.hid ht
          obtain ⟨ox1, ox2⟩ := ox
          obtain ⟨oy1, oy2⟩ := oy
          have e1 : IntKind.i64.wrap (X k + a) = p := by rw [hp]; exact IntWalk.i64_in _ (by have := HA.out; omega)
          have e2 : IntKind.i64.wrap (Y k + b) = q := by rw [hq]; exact IntWalk.i64_in _ (by have := HA.out; omega)
          rw [← ht] at c2
          obtain ⟨z, hz⟩ : ∃ z, z = vldB p q := ⟨_, rfl⟩
          have HZ : Hid (vp (p, q) = z) := Lib.hid hz.symm
          have HZ2 : Hid (vldB p q = z) := Lib.hid hz.symm
          clear hc0 hp hq ht hz ox1 ox2 oy1 oy2
          obtain ⟨Av, cv, hv⟩ := own_form HR.out
          subst hv
          go_upto_region 10 with fail
          go_cut [9] from 23 to 44 (fun v w' => ∃ g, v = .pointer (some ⟨g, 0, none⟩) ∧ BoxAt w' g 69 #[.int .i64 p, .int .i64 q, .int .i64 t] ∧ Below wr.heap.size wr w')
          case first =>
            go_region_held3 (fun w' => w'.cell? ⟨L3, 0, none⟩ = some (.int .i64 a) ∧ w'.cell? ⟨L3, 1, none⟩ = some (.int .i64 b) ∧ w'.cell? ⟨blk, off + k * 3, none⟩ = some (.int .i64 (X k)) ∧ w'.cell? ⟨blk, off + k * 3 + 1, none⟩ = some (.int .i64 (Y k)) ∧ w'.cell? ⟨blk, off + k * 3 + 2, none⟩ = some (.int .i64 t))
              (first | exact ⟨d0, d1, c0, c1, c2⟩ | go_keep)
              (fail)
            all_goals go_wp2
            all_goals go_meet
            exact ⟨_, rfl, BoxAt.drew (BoxAt.new _ _ _), Below.drew ((Below.refl _ wr).alloc (Nat.le_refl _) _)⟩
          case rest =>
            obtain ⟨wy, rfl⟩ : ∃ x : World, x = wc := ⟨_, rfl⟩
            obtain ⟨Lm, rfl, hm, hby⟩ := hcut
            have HBY5 := Lib.hid (box_step HBY.out hby)
            have HR5 := Lib.hid (HR.out.kept (grown_of_below hby) (Classical.em _))
            have HB5 := Lib.hid (below_step HB.out hby)
            have m0 : wy.cell? ⟨Lm, 0, none⟩ = some (.int .i64 p) := hm.cell 0
            have m1 : wy.cell? ⟨Lm, 1, none⟩ = some (.int .i64 q) := hm.cell 1
            have m2 : wy.cell? ⟨Lm, 2, none⟩ = some (.int .i64 t) := hm.cell 2
            have l4 := hm.lt
            have HM := Lib.hid hm
            have hBx := Below.refl wy.heap.size wy
            clear hm hby HBY HR HB c0 c1 c2 d0 d1 l3 l1 e1 e2
            cases z with
            | false =>
              have HS := Lib.hid (shN_out HO.out HN.out hlt (by rw [← HP.out, ← HPQ.out]; exact HZ2.out))
              go_wp2_with (first
                | (go_at_call 63; (with_reducible refine (rspot_any _ _ _ _).mono ?_); rintro e w4 ⟨rfl, hb4⟩; replace hBx := below_step hBx hb4)
                | (go_at_call 62; (with_reducible refine (rvalid_any _ _ false _ HZ).mono ?_); rintro e w5 ⟨rfl, hb5⟩; replace hBx := below_step hBx hb5))
              exact bodyPost_ret (v := .tuple #[.slice none 0 0, .int .i64 2]) (by simp [results, Try.results21, go_sem]) rfl (ShPost.nil HS.out (below_step HB5.out hBx))
            | true =>
              have HT2 : Hid (allB (fun i => vldB (X i + a) (Y i + b)) (k + 1) = true) := Lib.hid (by
                show (allB (fun i => vldB (X i + a) (Y i + b)) k && vldB (X k + a) (Y k + b)) = true
                rw [HT.out, ← HP.out, ← HPQ.out, HZ2.out]; rfl)
              go_upto_region 13 with (first
                | (go_at_call 63; (with_reducible refine (rspot_any _ _ _ _).mono ?_); rintro e w4 ⟨rfl, hb4⟩; replace hBx := below_step hBx hb4)
                | (go_at_call 62; (with_reducible refine (rvalid_any _ _ true _ HZ).mono ?_); rintro e w5 ⟨rfl, hb5⟩; replace hBx := below_step hBx hb5))
              have HM6 := Lib.hid (box_step HM.out hBx)
              have HBY6 := Lib.hid (box_step HBY5.out hBx)
              have HR6 := Lib.hid (HR5.out.kept (grown_of_below hBx) (Classical.em _))
              have HB6 := Lib.hid (below_step HB5.out hBx)
              have m0 : w5.cell? ⟨Lm, 0, none⟩ = some (.int .i64 p) := HM6.out.cell 0
              have m1 : w5.cell? ⟨Lm, 1, none⟩ = some (.int .i64 q) := HM6.out.cell 1
              have m2 : w5.cell? ⟨Lm, 2, none⟩ = some (.int .i64 t) := HM6.out.cell 2
              have l5 := HM6.out.lt
              have hsz : w.heap.size + 1 ≤ w5.heap.size := by have := HBY6.out.lt; have := HL3.out; omega
              clear hBx hb4 hb5 HM HBY5 HR5 HB5 l4
              go_wp2_with (at_builtin; refine wpList_append_lies _ rfl _ _ 22 rfl (w.heap.size + 1) 69 i0_ _ 3 24 Try.underlying22 hI0.out hZ0.out hZ1.out hZ2.out rfl (by decide) (.slice Av k cv) k (cellsP (fun i => X i + a) (fun i => Y i + b) V k) rfl (HR6.out.alloc _) ⟨w5.heap.size, 0, none⟩ 1 1 [.int .i64 p, .int .i64 q, .int .i64 t] rfl rfl (World.news_of_block (cs := #[.int .i64 p, .int .i64 q, .int .i64 t]) (t := 69) (fr := (0, 0)) (heap_alloc_new w5 _)) (by simp [Value.oneCell']) (by decide) (by unfold maxLen; omega) (by omega) (by simp; omega) _ rfl ?_; intro gg cap1 w7 hown7 hgrow hat hlt7)
              have hlo : ∀ g, (Value.slice Av k cv).ownBlock = some g → w.heap.size + 1 ≤ g := fun g e => (HR6.out.lt _ e).1
              have HO7 : Hid (w7.ownsRow (w.heap.size + 1) 69 3 (.slice (some ⟨gg, 0, none⟩) (k + 1) cap1) (k + 1) (cellsP (fun i => X i + a) (fun i => Y i + b) V (k + 1))) := Lib.hid (by
                show w7.ownsRow (w.heap.size + 1) 69 3 (.slice (some ⟨gg, 0, none⟩) (k + 1) cap1) (k + 1) (cellsP (fun i => X i + a) (fun i => Y i + b) V k ++ [.int .i64 (X k + a), .int .i64 (Y k + b), .int .i64 (V k)])
                rw [← HP.out, ← HPQ.out, ← HPT.out]
                exact hown7)
              have HBY7 : Hid (BoxAt w7 L3 24 #[.int .i64 a, .int .i64 b]) := Lib.hid ((HBY6.out.alloc _).grown hgrow (fun e => by have := hlo _ e.symm; have := HL3.out; omega))
              have HB7 : Hid (Below w.heap.size w w7) := Lib.hid ((HB6.out.alloc (by omega) _).grown hgrow (by simp; omega) (fun g e => by have := hlo _ e; omega))
              clear hown7 hat
              go_wp2
              go_roundw
              case rel => exact ⟨k + 1, _, by omega, rfl, by go_num, HO7, HBY7, HT2, HB7⟩
              case measure => simp [intOf]; omega
        · obtain rfl : k = n := by omega
          have HS := Lib.hid (shN_ok HO.out HN.out HT.out)
          obtain ⟨Av, cv, hv⟩ := own_form HR.out
          subst hv
          obtain ⟨hc, hC⟩ := own_cloud HR.out
          have HCC := Lib.hid hC
          have HC2 := Lib.hid hc
          clear hC hc
          go_wp2
          exact bodyPost_ret (v := .tuple #[.slice Av k cv, .int .i64 0]) (by simp [results, Try.results21, go_sem]) rfl (by unfold ShPost; rw [HS.out]; exact ⟨Av, cv, rfl, HC2.out, HCC.out, HB.out⟩)
  · have HN := Lib.hid hok
    obtain ⟨z, hz⟩ : ∃ z, z = chkF n X Y V := ⟨_, rfl⟩
    have HS := Lib.hid (shN_bad (a := a) (b := b) hz.symm (by rw [hz]; exact hok))
    rw [← hz] at HK hok
    clear hcl hz
    go_enter Try.func21, Try.ntmps21
    go_wp2_with (go_at_call 23; (with_reducible refine HK.out.mono ?_); rintro e w1 ⟨rfl, hb1⟩; replace hB := below_step hB hb1)
    exact bodyPost_ret (v := .tuple #[.slice none 0 0, .int .i64 z]) (by simp [results, Try.results21, go_sem]) rfl (ShPost.nil HS.out hB)
end Go.Proofs.Ytaehfildhmljeaa
