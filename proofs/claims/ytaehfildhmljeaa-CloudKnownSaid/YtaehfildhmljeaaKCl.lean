/- The kit's Cloud: a valid cloud made of numbers. -/
import Derived.Test.YtaehfildhmljeaaFlo
import Derived.Test.YtaehfildhmljeaaPtsL
import Derived.Test.YtaehfildhmljeaaShfW
import Derived.StillTailTactics
namespace Go.Proofs.Ytaehfildhmljeaa
open Go.RowKit Go.Shelf

theorem mod64_big (n m : Int) (w : World) (hm : 0 < m) (hm' : m ≤ 4611686018427387904) : Calls Try.prog 55 #[.int .i64 n, .int .i64 m] w fun e w' => e = .returned (.int .i64 (n % m)) ∧ w = w' := by
  have hm0 : ¬ m = 0 := by omega
  obtain ⟨h1, h2, h3, h4⟩ := tmod_cases n m hm
  obtain ⟨r, hr⟩ : ∃ r, r = n % m := ⟨_, rfl⟩
  rw [← hr] at h1 h2 ⊢
  clear hr
  obtain ⟨t, ht⟩ : ∃ t, n.tmod m = t := ⟨_, rfl⟩
  rw [ht] at h1 h2 h3 h4
  rcases Int.lt_or_le t 0 with h | h
  · have E := Lib.hid (h1 h)
    clear h1 h2
    go_enter Try.func55, Try.ntmps55
    go_wp2
    go_ret
    exact ⟨congrArg (fun z => Ending.returned (.int .i64 z)) E.out.symm, rfl⟩
  · have E := Lib.hid (h2 h)
    clear h1 h2
    go_enter Try.func55, Try.ntmps55
    go_wp2
    go_ret
    exact ⟨congrArg (fun z => Ending.returned (.int .i64 z)) E.out.symm, rfl⟩
theorem wrap_in (n : Int) (h1 : -9223372036854775808 ≤ n) (h2 : n ≤ 9223372036854775807) : IntKind.i64.wrap n = n := by
  simp only [IntKind.wrap, IntKind.bits, IntKind.signed]; simp; split <;> omega
/-- A slice of numbers. -/
def Nums (w : World) (A : Option Addr) (n : Nat) (S : Nat → Int) : Prop := 0 < n → ∃ b off, A = some ⟨b, off, none⟩ ∧ ∀ i, i < n → w.cell? ⟨b, off + i, none⟩ = some (.int .i64 (S i))
theorem Nums.below {w w' : World} {A : Option Addr} {n : Nat} {S : Nat → Int} (h : Nums w A n S) (hb : Below w.heap.size w w') : Nums w' A n S := fun hn => by
  obtain ⟨b, off, e, hp⟩ := h hn
  have hlt := World.block_lt_of_cell? w _ (hp 0 hn)
  exact ⟨b, off, e, fun i hi => (hb.cell (p := ⟨b, off + i, none⟩) hlt).trans (hp i hi)⟩
def kN (a : Int) : Int := a % 1099511627776
def kX (span a : Int) : Int := kN a % (2 * span + 1) - span
def kY (span a : Int) : Int := (kN a / 131072) % (2 * span + 1) - span
def kV (a : Int) : Int := kN a / 17179869184 * 50
theorem kN_bd (a : Int) : 0 ≤ kN a ∧ kN a < 1099511627776 := by unfold kN; omega
theorem kV_bd (a : Int) : 0 ≤ kV a ∧ kV a ≤ 3150 := by have := kN_bd a; unfold kV; omega
theorem kX_bd {span : Int} (h : 1 ≤ span) (a : Int) : -span ≤ kX span a ∧ kX span a ≤ span := by
  unfold kX
  have h1 := Int.emod_nonneg (kN a) (show 2 * span + 1 ≠ 0 by omega)
  have h2 := Int.emod_lt_of_pos (kN a) (show 0 < 2 * span + 1 by omega)
  omega
theorem kY_bd {span : Int} (h : 1 ≤ span) (a : Int) : -span ≤ kY span a ∧ kY span a ≤ span := by
  unfold kY
  have h1 := Int.emod_nonneg (kN a / 131072) (show 2 * span + 1 ≠ 0 by omega)
  have h2 := Int.emod_lt_of_pos (kN a / 131072) (show 0 < 2 * span + 1 by omega)
  omega
theorem kcl_ok {span : Int} (h : 1 ≤ span) (h2 : span ≤ 3000) (S : Nat → Int) {n : Nat} (hn : n ≤ 40) : chkF n (fun i => kX span (S i)) (fun i => kY span (S i)) (fun i => kV (S i)) = 0 := by
  unfold chkF
  rw [if_neg (by omega), if_pos]
  refine allB_of fun i _ => ?_
  have a := kX_bd h (S i)
  have b := kY_bd h (S i)
  have c := kV_bd (S i)
  unfold okP
  rw [Bool.and_eq_true, vldB_iff]
  unfold okc
  simp
  omega

set_option maxRecDepth 100000 in
set_option maxHeartbeats 8000000 in
theorem kcloud_any (A : Option Addr) (n cap : Nat) (S : Nat → Int) (span : Int) (h1 : 1 ≤ span) (h2 : span ≤ 3000) (w : World) (hs : Nums w A n S) :
    Calls Try.prog 54 #[.slice A n cap, .int .i64 span] w fun e w' => ∃ B c, e = .returned (.slice B (min n 40) c) ∧ min n 40 ≤ c ∧ Cloud w' B (min n 40) (fun i => kX span (S i)) (fun i => kY span (S i)) (fun i => kV (S i)) ∧ Below w.heap.size w w' := by
  obtain ⟨i0_, hi0, hz0, hz1, hz2⟩ := info_parts Try.info69
  have hI0 := Lib.hid hi0
  have hZ0 := Lib.hid hz0
  have hZ1 := Lib.hid hz1
  have hZ2 := Lib.hid hz2
  have HN := Lib.hid hs
  clear hi0 hz0 hz1 hz2 hs
  obtain ⟨Bs, hBs⟩ : ∃ z, z = w.heap.size := ⟨_, rfl⟩
  have HBs := Lib.hid hBs
  clear hBs
  go_enter Try.func54, Try.ntmps54
  go_wp2
  go_loopw [5, 6] (fun o iv wr => ∃ (k : Nat) (v : Value), k ≤ min n 40 ∧ o = v ∧ iv = .int .i64 k ∧ Hid (wr.ownsRow Bs 69 3 v k (cellsP (fun i => kX span (S i)) (fun i => kY span (S i)) (fun i => kV (S i)) k)) ∧ Hid (Below w.heap.size w wr)) (fun _ iv _ => min n 40 - (intOf iv).toNat)
  case atStart => exact ⟨0, _, Nat.zero_le _, rfl, rfl, Lib.hid (World.ownsRow_nil _ _ _ _), Lib.hid (Below.refl _ _)⟩
  case round =>
    obtain ⟨k, v, hk, rfl, rfl, HR, HB⟩ := hrel
    by_cases hlt : k < min n 40
    · have k1 : (k : Int) < (n : Int) := by omega
      have k2 : (k : Int) < 40 := by omega
      have k0 : (0 : Int) ≤ (k : Int) := Int.natCast_nonneg _
      obtain ⟨b, off, e, hp⟩ := (HN.out.below HB.out) (by omega)
      subst e
      have c0 := hp k (by omega)
      have l0 := World.block_lt_of_cell? wr _ c0
      obtain ⟨Av, cv, hv⟩ := own_form HR.out
      subst hv
      have HM := Lib.hid (fun W => mod64_big (S k) 1099511627776 W (by omega) (by omega))
      have hkn := kN_bd (S k)
      clear hp
      go_upto_region 6 with (go_at_call 55; (with_reducible refine (HM.out _).mono ?_); rintro e w1 ⟨rfl, rfl⟩)
      obtain ⟨v, hv⟩ : ∃ v, v = S k % 1099511627776 := ⟨_, rfl⟩
      have HV := Lib.hid hv
      have hkn2 : 0 ≤ v ∧ v < 1099511627776 := by rw [hv]; exact hkn
      rw [← hv]
      clear hv hkn
      obtain ⟨v0, v1⟩ := hkn2
      have m0 : ¬ 2 * span + 1 = 0 := by omega
      have e1 : v.tmod (2 * span + 1) = v % (2 * span + 1) := Int.tmod_eq_emod_of_nonneg v0
      have e2 : v.tdiv 131072 = v / 131072 := Int.tdiv_eq_ediv_of_nonneg v0
      have v2 : 0 ≤ v / 131072 := by omega
      have e3 : (v / 131072).tmod (2 * span + 1) = (v / 131072) % (2 * span + 1) := Int.tmod_eq_emod_of_nonneg v2
      have e4 : v.tdiv 17179869184 = v / 17179869184 := Int.tdiv_eq_ediv_of_nonneg v0
      have a1 := Int.emod_nonneg v (show 2 * span + 1 ≠ 0 by omega)
      have a2 := Int.emod_lt_of_pos v (show 0 < 2 * span + 1 by omega)
      have a3 := Int.emod_nonneg (v / 131072) (show 2 * span + 1 ≠ 0 by omega)
      have a4 := Int.emod_lt_of_pos (v / 131072) (show 0 < 2 * span + 1 by omega)
      have HV3 : Hid (v % (2 * span + 1) - span = kX span (S k) ∧ (v / 131072) % (2 * span + 1) - span = kY span (S k) ∧ v / 17179869184 * 50 = kV (S k)) := Lib.hid (by
        unfold kX kY kV kN
        rw [← HV.out]
        exact ⟨rfl, rfl, rfl⟩)
      have hbs := HBs.out
      have hsz := HB.out.size
      have HO : Hid (wr.drew.ownsRow Bs 69 3 (.slice Av k cv) k (cellsP (fun i => kX span (S i)) (fun i => kY span (S i)) (fun i => kV (S i)) k)) := HR
      have HB2 : Hid (Below w.heap.size w wr.drew) := Lib.hid (Below.drew HB.out)
      have w1 : IntKind.i64.wrap (2 * span) = 2 * span := wrap_in _ (by omega) (by omega)
      have w2 : IntKind.i64.wrap (2 * span + 1) = 2 * span + 1 := wrap_in _ (by omega) (by omega)
      have w3 : IntKind.i64.wrap (v / 131072) = v / 131072 := wrap_in _ (by omega) (by omega)
      have w4 : IntKind.i64.wrap (v % (2 * span + 1) - span) = v % (2 * span + 1) - span := wrap_in _ (by omega) (by omega)
      have w5 : IntKind.i64.wrap (v / 131072 % (2 * span + 1) - span) = v / 131072 % (2 * span + 1) - span := wrap_in _ (by omega) (by omega)
      have w6 : IntKind.i64.wrap (v / 17179869184) = v / 17179869184 := wrap_in _ (by omega) (by omega)
      have w7 : IntKind.i64.wrap (v / 17179869184 * 50) = v / 17179869184 * 50 := wrap_in _ (by omega) (by omega)
      go_region_held3 (fun w' => True) (first | trivial | go_keep)
        ((refine step_append_lies _ (by rfl) _ _ 22 (by rfl) Bs 69 i0_ _ 3 24 Try.underlying22 hI0.out hZ0.out hZ1.out hZ2.out rfl (by decide) (.slice Av k cv) k (cellsP (fun i => kX span (S i)) (fun i => kY span (S i)) (fun i => kV (S i)) k) (by rfl) (HO.out.alloc _) ⟨wr.heap.size, 0, none⟩ 1 1 [.int .i64 (v % (2 * span + 1) - span), .int .i64 ((v / 131072) % (2 * span + 1) - span), .int .i64 (v / 17179869184 * 50)] (by rfl) (by rfl) (World.news_of_block (cs := #[.int .i64 (v % (2 * span + 1) - span), .int .i64 ((v / 131072) % (2 * span + 1) - span), .int .i64 (v / 17179869184 * 50)]) (t := 69) (fr := (0, 0)) (heap_alloc_new _ _)) (by simp [Value.oneCell']) (by decide) (by unfold maxLen; omega) (by omega) (by simp; omega) _ rfl ?_; intro gg cap1 w7 hown7 hgrow hat hlt7))
      all_goals go_wp2
      have HO7 : Hid (w7.ownsRow Bs 69 3 (.slice (some ⟨gg, 0, none⟩) (k + 1) cap1) (k + 1) (cellsP (fun i => kX span (S i)) (fun i => kY span (S i)) (fun i => kV (S i)) (k + 1))) := Lib.hid (by
        rw [cellsP, ← HV3.out.1, ← HV3.out.2.1, ← HV3.out.2.2]
        exact hown7)
      have HB7 : Hid (Below w.heap.size w w7) := Lib.hid ((HB.out.alloc hsz _).drew.grown hgrow (by simp; omega) (fun b e => by have := (HR.out.lt b e).1; omega))
      exact ⟨⟨k + 1, _, by omega, rfl, by go_num, HO7, HB7⟩, by simp [intOf]; omega⟩
    · obtain rfl : k = min n 40 := by omega
      obtain ⟨Av, cv, hv⟩ := own_form HR.out
      subst hv
      obtain ⟨hc, hCl⟩ := own_cloud HR.out
      have HCC := Lib.hid hCl
      have HC2 := Lib.hid hc
      clear hCl hc
      obtain ⟨q, hq⟩ : ∃ q, q = min n 40 := ⟨_, rfl⟩
      rw [← hq] at HC2 HCC ⊢
      have HQ := Lib.hid hq
      by_cases hqn : q < n
      · have q1 : (q : Int) < (n : Int) := by omega
        have q2 : ¬ (q : Int) < 40 := by omega
        clear hq HR
        go_wp2
        exact bodyPost_ret (v := .slice Av q cv) (by simp [results, Try.results54, go_sem]) rfl (by rw [← HQ.out]; exact ⟨Av, cv, rfl, HC2.out, HCC.out, HB.out⟩)
      · have q1 : ¬ (q : Int) < (n : Int) := by omega
        clear hq HR
        go_wp2
        exact bodyPost_ret (v := .slice Av q cv) (by simp [results, Try.results54, go_sem]) rfl (by rw [← HQ.out]; exact ⟨Av, cv, rfl, HC2.out, HCC.out, HB.out⟩)
theorem lspot_any (x y v : Int) (w : World) : Calls Try.prog 57 #[.agg #[.int .i64 x, .int .i64 y, .int .i64 v]] w fun e w' => e = .returned (sp x y) ∧ Below w.heap.size w w' := by
  go_enter Try.func57, Try.ntmps57
  go_wp2
  exact bodyPost_ret (v := sp x y) (by simp [results, Try.results57, go_sem]) rfl ⟨rfl, by
    repeat (first | exact Below.refl _ _ | refine Below.setCell ?_ (by first | omega | (simp; omega) | simp) _ | refine Below.alloc ?_ (by first | omega | (simp; omega) | simp) _)⟩
end Go.Proofs.Ytaehfildhmljeaa
