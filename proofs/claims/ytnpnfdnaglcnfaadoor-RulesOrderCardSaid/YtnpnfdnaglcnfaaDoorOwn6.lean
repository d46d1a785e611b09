/- Rule and Trace: what they return is the caller's own. -/
import Derived.Test.YtnpnfdnaglcnfaaDoorRul
import Derived.Test.YtnpnfdnaglcnfaaDoorTcm
namespace Go.Proofs.YtnpnfdnaglcnfaaDoor
open Go.RowKit Go.Shelf

set_option maxHeartbeats 1000000 in
/-- A formula made of numbers. -/
theorem rule_own (A : Option Addr) (cap : Nat) (l : List Int) (width most : Int) (w : World) (hl : l.length ≤ 9223372036854775807) (hA : NumL w A l) (hw1 : 1 ≤ width) (hw2 : width ≤ 12) (hm1 : 0 ≤ most) (hm2 : most ≤ 20) :
    Calls Tryd.prog 27 #[.slice A l.length cap, iv width, iv most] w fun e w' => ∃ (x : Fm) (A' : Option Addr) (c' : Nat), (x.wf ∧ x.ok width ∧ x.hor ≤ most * 3 ∧ x.flat.length ≤ 15) ∧ e = .returned (.slice A' x.flat.length c') ∧ w'.ownsRow w.heap.size 61 6 (.slice A' x.flat.length c') x.flat.length (ndC x.flat) ∧ Below w.heap.size w w' := by
  have hP := part_all w w.heap.size A cap l width most ⟨Nat.le_refl _, hA, hl⟩ hw1 hw2 hm1 hm2 3 (Nat.le_refl _) (w.alloc (.cells #[.slice A l.length cap, iv 0] 93)) (.slice none 0 0) [] 0 3 rfl rfl
    ⟨⟨0, Nat.zero_le _, BoxAt.new w 93 _⟩, (Below.refl _ w).alloc (Nat.le_refl _) _⟩ (World.ownsRow_nil _ _ _ _) (by decide)
  have HP := Lib.hid hP
  clear hP hA
  generalize l.length = N at *
  go_enter Tryd.func27, Tryd.ntmps27
  go_wp2_with (go_at_call 52; (with_reducible refine HP.out.mono ?_); rintro e w9 hpo; obtain ⟨K9, A9, c9, x9, rfl, hx, hk1, hk2, hn, hr⟩ := hpo.form2)
  go_ret
  rw [List.nil_append] at hr hk2
  obtain ⟨h1, h2, h3, h4⟩ := hx
  subst hk2
  have h5 : x9.flat.length ≤ 15 := by omega
  exact ⟨x9, A9, c9, ⟨h1, h2, h3, h5⟩, rfl, hr, hn.2⟩
set_option maxRecDepth 100000 in
set_option maxHeartbeats 8000000 in
theorem trace_own (A : Option Addr) (cap : Nat) (l : List Int) (width most : Int) (w : World) (hA : NumL w A l) (hw1 : 0 ≤ width) (hw2 : width ≤ 12) (hm1 : 0 ≤ most) (hm2 : most ≤ 400) :
    Calls Tryd.prog 28 #[.slice A l.length cap, iv width, iv most] w fun e w' => ∃ (t : List (List Int)) (C : Option Addr) (c : Nat), TrOk width most t ∧ e = .returned (.slice C t.length c) ∧ t.length ≤ c ∧ OwnT w' w.heap.size (.slice C t.length c) t ∧ Below w.heap.size w w' := by
  have HA := Lib.hid hA
  have HM := Lib.hid (fun n W => mod_any n 1073741824 (by decide) (by decide) W)
  obtain ⟨N, hN⟩ : ∃ N, N = l.length := ⟨_, rfl⟩
  rw [← hN]
  have HN := Lib.hid hN
  obtain ⟨B, hB⟩ : ∃ B, B = w.heap.size := ⟨_, rfl⟩
  have HBw := Lib.hid hB
  obtain ⟨i0_, hi0, hz0, hz1, hz2⟩ := info_parts inf36
  have HI0 := Lib.hid hi0
  have HZ0 := Lib.hid hz0
  have HZ1 := Lib.hid hz1
  have HZ2 := Lib.hid hz2
  obtain ⟨i1_, hj0, hy0, hy1, hy2⟩ := info_parts inf2
  have HJ0 := Lib.hid hj0
  have HY0 := Lib.hid hy0
  have HY1 := Lib.hid hy1
  have HY2 := Lib.hid hy2
  have nn : (0 : Int) ≤ (N : Int) := Int.natCast_nonneg _
  clear hA hN hB hi0 hz0 hz1 hz2 hj0 hy0 hy1 hy2
  go_enter Tryd.func28, Tryd.ntmps28
  go_wp2
  go_loopw [7, 8] (fun ov i wr => ∃ (k : Nat) (t : List (List Int)), k ≤ N ∧ (k : Int) ≤ most ∧ i = iv k ∧ t.length = k ∧ Hid (∀ r ∈ t, (r.length : Int) = width ∧ ∀ v ∈ r, -3 ≤ v ∧ v ≤ 6) ∧ Hid (OwnT wr B ov t) ∧ Hid (Below w.heap.size w wr)) (fun _ i _ => N - (intOf i).toNat)
  case atStart => exact ⟨0, [], Nat.zero_le _, hm1, rfl, rfl, Lib.hid (fun r h => by cases h), Lib.hid (OwnT.nil _ _), Lib.hid (Below.refl _ _)⟩
  case round =>
    obtain ⟨k, t, hk, hkm, rfl, htk, HV, HO, HB⟩ := hrel
    rename World => wo
    obtain ⟨Ao, co, hov⟩ := HO.out.form
    subst hov
    rw [htk] at HO ⊢
    have i0 : (0 : Int) ≤ (k : Int) := Int.natCast_nonneg _
    have HT := Lib.hid htk
    by_cases hlt : k < N
    · have i1 : (k : Int) < (N : Int) := by omega
      by_cases hlm : (k : Int) < most
      · obtain ⟨y, hn, hd⟩ := drop_at (L := l) (k := k) (by rw [← HN.out]; exact hlt)
        obtain ⟨b, off, rfl, c0⟩ := (HA.out.below HB.out).at hn
        have l0 : b < wo.heap.size := World.block_lt_of_cell? wo _ c0
        clear hn hd htk
        go_wp2_with (go_at_call 32; (with_reducible refine (HM.out _ _).mono ?_); rintro e w1 ⟨nz, rfl, z0, z1, hw⟩; obtain rfl := hw.symm)
        have HBr : Hid (w.heap.size ≤ wo.heap.size) := Lib.hid HB.out.size
        have HOw := Lib.hid (fun W (h : Below wo.heap.size wo W) => HO.out.below h)
        go_loopw [9, 10, 11] (fun nv rv jv wk => ∃ (n : Int) (j : Nat) (r : List Int), nv = iv n ∧ 0 ≤ n ∧ n < 1073741824 ∧ jv = iv j ∧ (j : Int) ≤ width ∧ r.length = j ∧ Hid (∀ v ∈ r, -3 ≤ v ∧ v ≤ 6) ∧ Hid (wk.ownsRow wo.heap.size 2 1 rv j (r.map fun x => iv x)) ∧ Hid (Below wo.heap.size wo wk)) (fun _ _ jv _ => (width - intOf jv).toNat)
        case atStart => exact ⟨nz, 0, [], rfl, z0, z1, rfl, hw1, rfl, Lib.hid (fun r h => by cases h), Lib.hid (World.ownsRow_nil _ _ _ _), Lib.hid (Below.refl _ _)⟩
        case round =>
          obtain ⟨n, j, r, rfl, n0, n1, rfl, hjw, hrl, HRV, HRO, HRB⟩ := hrel
          have j0 : (0 : Int) ≤ (j : Int) := Int.natCast_nonneg _
          obtain ⟨Ar, cr, hrv⟩ := own_form HRO.out
          subst hrv
          have HRL := Lib.hid hrl
          clear hrl
          by_cases hjl : (j : Int) < width
          · have q0 : 0 ≤ n % 10 := by omega
            have q1 : n % 10 < 10 := by omega
            have q2 : 0 ≤ n / 10 := by omega
            have q3 : n / 10 < 1073741824 := by omega
            have q5 : n % 10 - 3 ≤ 6 := by omega
            have q6 : -3 ≤ n % 10 - 3 := by omega
            have HRA := Lib.hid (HRO.out.alloc (.cells #[iv (n % 10 - 3)] 2))
            have hsz := HRB.out.size
            have hso := HBr.out
            go_wp2_with (at_builtin; refine wpList_append_lies _ rfl _ _ 36 rfl wo.heap.size 2 i1_ _ 1 8 Tryd.underlying36 HJ0.out HY0.out HY1.out HY2.out rfl (by decide) (.slice Ar j cr) j (r.map fun x => iv x) rfl HRA.out ⟨wr.heap.size, 0, none⟩ 1 1 [iv (n % 10 - 3)] rfl rfl (World.news_of_block (cs := #[iv (n % 10 - 3)]) (t := 2) (fr := (0, 0)) (World.alloc_heap_new wr (.cells #[iv (n % 10 - 3)] 2))) (by simp [Value.oneCell']) (by decide) (by unfold maxLen; omega) (by omega) (by simp; omega) _ rfl ?_; intro gg cap1 w8 hown8 hgrow hat hlt8)
            have HB8 : Hid (Below wo.heap.size wo w8) := Lib.hid ((HRB.out.alloc HRB.out.size _).grown hgrow (by have := HRB.out.size; simp; omega) (fun j e => (HRA.out.lt j e).1))
            clear q0 q1 hsz hso hlt8 hat
            refine ⟨⟨n / 10, j + 1, r ++ [n % 10 - 3], by go_num, q2, q3, by go_num, by omega, by rw [List.length_append, HRL.out]; rfl, Lib.hid (fun v hv => ?_), Lib.hid (by rw [List.map_append]; exact hown8), HB8⟩, by simp [intOf]; omega⟩
            rcases List.mem_append.1 hv with hv | hv
            · exact HRV.out v hv
            · obtain rfl : v = n % 10 - 3 := by simpa using hv
              exact ⟨q6, q5⟩
          · obtain rfl : width = j := by omega
            obtain ⟨us, hro, hre⟩ := HOw.out _ HRB.out
            rw [HT.out] at hro
            have HRo := Lib.hid (hro.alloc (.cells #[.slice Ar j cr] 36))
            have HRe := Lib.hid (hre.mono fun u r h => h.kt (Kt2.of_below ((Below.refl _ wr).alloc (Nat.le_refl _) (.cells #[.slice Ar j cr] 36))))
            have HU : Hid (RowB (wr.alloc (.cells #[.slice Ar j cr] 36)) (.slice Ar j cr) r) := Lib.hid ((row_b (by rw [HRL.out]; exact HRO.out)).kt (Kt2.of_below ((Below.refl _ wr).alloc (Nat.le_refl _) _)))
            have HBq := Lib.hid (below_step HB.out HRB.out)
            have hBs : B ≤ wr.heap.size := by have h1 := HBq.out.size; have h2 := HBw.out; omega
            clear hro hre
            go_wp2_with (at_builtin; refine wpList_append_lies _ rfl _ _ 23 rfl B 36 i0_ _ 1 24 Tryd.underlying23 HI0.out HZ0.out HZ1.out HZ2.out rfl (by decide) (.slice Ao k co) k us rfl HRo.out ⟨wr.heap.size, 0, none⟩ 1 1 [.slice Ar j cr] rfl rfl (World.news_of_block (cs := #[.slice Ar j cr]) (t := 36) (fr := (0, 0)) (World.alloc_heap_new wr (.cells #[.slice Ar j cr] 36))) (by simp [Value.oneCell']) (by decide) (by unfold maxLen; omega) (by omega) (by simp; omega) _ rfl ?_; intro gg cap1 w8 hown8 hgrow hat hlt8)
            have HB8 : Hid (Below w.heap.size w w8) := Lib.hid ((HBq.out.alloc HBq.out.size _).grown hgrow (by have := HBq.out.size; simp; omega) (fun j e => by have h1 := (HRo.out.lt j e).1; have h2 := HBw.out; omega))
            refine ⟨⟨k + 1, t ++ [r], by omega, by omega, by go_num, by rw [List.length_append, HT.out]; rfl, Lib.hid (fun s hs => ?_), Lib.hid ?_, HB8⟩, by simp [intOf]; omega⟩
            · rcases List.mem_append.1 hs with hs | hs
              · exact HV.out s hs
              · obtain rfl : s = r := by simpa using hs
                exact ⟨by rw [HRL.out], HRV.out⟩
            · have hg := OwnT.grown (base := B) (t := t) (r := r) (by rw [HT.out]; exact HRo.out) HRe.out HU.out hgrow (by rw [HT.out]; exact hown8)
              rw [HT.out] at hg
              exact hg
      · have i2 : ¬ (k : Int) < most := by omega
        clear htk
        go_wp2
        go_ret
        exact ⟨t, ⟨by rw [HT.out]; exact hkm, HV.out⟩, Ao, co, by rw [HT.out]; rfl, by rw [HT.out]; exact HO.out.cap_le HT.out, (by rw [HT.out, ← HBw.out]; exact HO.out), HB.out⟩
    · have i1 : ¬ (k : Int) < (N : Int) := by omega
      clear htk
      go_wp2
      go_ret
      exact ⟨t, ⟨by rw [HT.out]; exact hkm, HV.out⟩, Ao, co, by rw [HT.out]; rfl, by rw [HT.out]; exact HO.out.cap_le HT.out, (by rw [HT.out, ← HBw.out]; exact HO.out), HB.out⟩
end Go.Proofs.YtnpnfdnaglcnfaaDoor
