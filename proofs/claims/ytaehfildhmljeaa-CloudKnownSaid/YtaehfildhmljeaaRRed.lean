/- The reference's Reduce of a valid cloud, the size in range. -/
import Derived.Test.YtaehfildhmljeaaRedW
import Derived.Test.YtaehfildhmljeaaRCll
import Derived.Test.YtaehfildhmljeaaRBd
namespace Go.Proofs.Ytaehfildhmljeaa
open Go.RowKit Go.Shelf

/-- No point ahead of i among the first k is in its cell. -/
def nonF (C : Nat → Int × Int) (i k : Nat) : Bool := allB (fun j => !(decide (C j = C i) && decide (j < i))) k
theorem nonF_all {C : Nat → Int × Int} {i n : Nat} (hi : i < n) : nonF C i n = fstB C i := by
  cases hf : fstB C i with
  | true =>
    refine allB_of fun j hj => ?_
    by_cases h : j < i
    · simp [fstB_iff.1 hf j h]
    · simp [h]
  | false =>
    have : ∃ j, j < i ∧ C j = C i := by
      refine Classical.byContradiction fun hn => ?_
      have : fstB C i = true := fstB_iff.2 (fun j hj e => hn ⟨j, hj, e⟩)
      rw [hf] at this; cases this
    obtain ⟨j, hj, e⟩ := this
    exact allB_false (show j < n by omega) (by simp [e, hj])
theorem nonF_other {C : Nat → Int × Int} {i k : Nat} (h : C k ≠ C i) : nonF C i (k + 1) = nonF C i k := by
  unfold nonF
  rw [allB]
  simp [h]
theorem nonF_same {C : Nat → Int × Int} {i k : Nat} (h : C k = C i) : nonF C i (k + 1) = (nonF C i k && decide (i ≤ k)) := by
  unfold nonF
  rw [allB]
  by_cases hk : k < i
  · simp [h, hk, Nat.not_le.2 hk]
  · simp [h, hk, Nat.not_lt.1 hk]
/-- What the reference has kept of the first i points. -/
abbrev keptR (C : Nat → Int × Int) (n : Nat) (X Y V : Nat → Int) (i : Nat) : List Value := cellsP (fun a => X (nthF C n a)) (fun a => Y (nthF C n a)) (fun a => mxF C V (nthF C n a) n) (rnk C i)
theorem keptR_new {C : Nat → Int × Int} {n k : Nat} {X Y V : Nat → Int} (hk : k < n) (hf : fstB C k = true) : keptR C n X Y V (k + 1) = keptR C n X Y V k ++ [.int .i64 (X k), .int .i64 (Y k), .int .i64 (mxF C V k n)] := by
  unfold keptR
  rw [rnk_fst hf, cellsP, nth_of hf n hk]

set_option maxRecDepth 100000 in
set_option maxHeartbeats 16000000 in
theorem rreduce_good (A : Option Addr) (n cap : Nat) (X Y V : Nat → Int) (s : Int) (hok : chkF n X Y V = 0) (s1 : 1 ≤ s) (s2 : s ≤ 16777216) (w : World) (hcl : Cloud w A n X Y V) :
    Calls Try.prog 38 #[.slice A n cap, .int .i64 s] w (RedAll n X Y V s w) := by
  have hg : gridF n X Y V s = 0 := by unfold gridF; rw [hok, if_neg (by simp), if_pos ⟨s1, s2⟩]
  have hn : n ≤ 1000 := by
    have h := hok
    unfold chkF at h
    split at h
    · cases h
    · omega
  have HK := Lib.hid (rcheck_any A n cap X Y V w hcl)
  rw [hok] at HK
  have HSz := Lib.hid (fun W => sized_any s true (by simp [s1, s2]) W)
  obtain ⟨C, hC⟩ : ∃ C, C = redC X Y s := ⟨_, rfl⟩
  have HC := Lib.hid hC
  have HOK := Lib.hid (fun k (hk : k < n) => ok_at hok hk)
  have HCL := Lib.hid hcl
  have HG := Lib.hid hg
  obtain ⟨i0_, hi0, hz0, hz1, hz2⟩ := info_parts Try.info69
  have hI0 := Lib.hid hi0
  have hZ0 := Lib.hid hz0
  have hZ1 := Lib.hid hz1
  have hZ2 := Lib.hid hz2
  clear hi0 hz0 hz1 hz2 hcl hok hg hC
  go_enter Try.func38, Try.ntmps38
  go_upto_region 7 with (first
    | (go_at_call 23; (with_reducible refine HK.out.mono ?_); rintro e w1 ⟨rfl, hb1⟩)
    | (go_at_call 69; (with_reducible refine (HSz.out _).mono ?_); rintro e w2 ⟨rfl, hb2⟩))
  have HB0 := Lib.hid (below_step hb1 hb2)
  have hwB := HB0.out.size
  clear hb1 hb2 HK HSz
  obtain ⟨Bs, hBs⟩ : ∃ z, z = w.heap.size := ⟨_, rfl⟩
  have I : ∃ (i : Nat) (v : Value), i ≤ n ∧ (Value.slice none 0 0) = v ∧ (Value.int .i64 0) = .int .i64 i ∧ Hid (w2.ownsRow Bs 69 3 v (rnk C i) (keptR C n X Y V i)) ∧ Hid (Below w.heap.size w w2) :=
    ⟨0, _, Nat.zero_le _, rfl, rfl, Lib.hid (World.ownsRow_nil _ _ _ _), HB0⟩
  have HBs := Lib.hid hBs
  clear HB0 hBs
  go_wp2
  go_loopw [7, 8] (fun o iv wr => ∃ (i : Nat) (v : Value), i ≤ n ∧ o = v ∧ iv = .int .i64 i ∧ Hid (wr.ownsRow Bs 69 3 v (rnk C i) (keptR C n X Y V i)) ∧ Hid (Below w.heap.size w wr)) (fun _ iv _ => n - (intOf iv).toNat)
  case atStart => exact I
  case round =>
    clear I
    obtain ⟨i, v, hi, rfl, rfl, HR, HB⟩ := hrel
    by_cases hlt : i < n
    · obtain ⟨blk, off, e, hc0⟩ := HCL.out (by omega)
      subst e
      have i0 : (0 : Int) ≤ (i : Int) := Int.natCast_nonneg _
      have i1 : (i : Int) < (n : Int) := by omega
      have hbl := hc0.lt (by omega)
      have l1 : blk < wr.heap.size := Nat.lt_of_lt_of_le hbl HB.out.size
      have HCr := Lib.hid (hc0.below HB.out hbl)
      obtain ⟨c0, c1, c2⟩ := HCr.out i hlt
      obtain ⟨Av, cv, hv⟩ := own_form HR.out
      subst hv
      clear hc0
      go_upto_region 12 with fail
      have hbp := BoxAt.new wr 69 #[.int .i64 (X i), .int .i64 (Y i), .int .i64 (V i)]
      have hb3 : Below wr.heap.size wr (wr.alloc (.cells #[.int .i64 (X i), .int .i64 (Y i), .int .i64 (V i)] 69)) := (Below.refl _ wr).alloc (Nat.le_refl _) _
      obtain ⟨Lp, hLp⟩ : ∃ z, z = wr.heap.size := ⟨_, rfl⟩
      rw [← hLp] at hbp ⊢
      have HR3 := Lib.hid (HR.out.kept (grown_of_below hb3) (Classical.em _))
      have HB3 := Lib.hid (below_step HB.out hb3)
      have HCl3 := Lib.hid (HCr.out.below hb3 l1)
      have hLpw : w.heap.size ≤ Lp := by rw [hLp]; exact HB.out.size
      have hbLp : blk < Lp := by rw [hLp]; exact l1
      have HLow : Hid (∀ b, (Value.slice Av (rnk C i) cv).ownBlock = some b → b < Lp) := Lib.hid (fun b e => by rw [hLp]; exact (HR.out.lt b e).2)
      clear c0 c1 c2 l1 hLp hb3 HR HB HCr
      obtain ⟨wo, rfl⟩ : ∃ x : World, x = wr := ⟨_, rfl⟩
      generalize wo.alloc (.cells #[.int .i64 (X i), .int .i64 (Y i), .int .i64 (V i)] 69) = w3 at *
      have l3 := hbp.lt
      have I : ∃ (k : Nat) (b : Bool), k ≤ n ∧ (Value.bool true) = .bool b ∧ (Value.int .i64 0) = .int .i64 k ∧ Hid (nonF C i k = b) ∧ Hid (BoxAt w3 Lp 69 #[.int .i64 (X i), .int .i64 (Y i), .int .i64 (mxF C V i k)]) ∧ Hid (w3.grownBy w3 (some Lp)) :=
        ⟨0, true, Nat.zero_le _, rfl, rfl, Lib.hid rfl, Lib.hid hbp, Lib.hid ⟨rfl, rfl, rfl, Nat.le_refl _, fun _ _ _ => rfl⟩⟩
      clear hbp
      go_wp2
      go_loopw [9, 11] (fun fv kv wr => ∃ (k : Nat) (b : Bool), k ≤ n ∧ fv = .bool b ∧ kv = .int .i64 k ∧ Hid (nonF C i k = b) ∧ Hid (BoxAt wr Lp 69 #[.int .i64 (X i), .int .i64 (Y i), .int .i64 (mxF C V i k)]) ∧ Hid (w3.grownBy wr (some Lp))) (fun _ kv _ => n - (intOf kv).toNat)
      case atStart => exact I
      case round =>
        clear I
        obtain ⟨k, b, hk, rfl, rfl, HN, HP, HGr⟩ := hrel
        have hne0 : ¬ (some blk = some Lp) := by simp; omega
        by_cases hltk : k < n
        · have k0 : (0 : Int) ≤ (k : Int) := Int.natCast_nonneg _
          have k1 : (k : Int) < (n : Int) := by omega
          have l2 : blk < w3.heap.size := by omega
          have HCw : Hid (∀ W, Below wr.heap.size wr W → Clo W blk off n X Y V) := Lib.hid (fun W hW => by
            intro q hq
            obtain ⟨a, b, c⟩ := HCl3.out q hq
            have hb : ∀ o, W.cell? ⟨blk, o, none⟩ = w3.cell? ⟨blk, o, none⟩ := fun o => by
              have h1 : wr.cell? ⟨blk, o, none⟩ = w3.cell? ⟨blk, o, none⟩ := by unfold World.cell?; rw [HGr.out.block blk l2 hne0]
              exact (hW.cell (p := ⟨blk, o, none⟩) (Nat.lt_of_lt_of_le l2 HGr.out.size)).trans h1
            exact ⟨(hb _).trans a, (hb _).trans b, (hb _).trans c⟩)
          have l1 : blk < wr.heap.size := Nat.lt_of_lt_of_le l2 HGr.out.size
          obtain ⟨p0, p1, p2, p3, p4, p5⟩ : _ ∧ _ ∧ _ ∧ _ ∧ _ ∧ _ := (show wr.cell? ⟨blk, off + i * 3, none⟩ = some (.int .i64 (X i)) ∧ wr.cell? ⟨blk, off + i * 3 + 1, none⟩ = some (.int .i64 (Y i)) ∧ wr.cell? ⟨blk, off + i * 3 + 2, none⟩ = some (.int .i64 (V i)) ∧
            wr.cell? ⟨blk, off + k * 3, none⟩ = some (.int .i64 (X k)) ∧ wr.cell? ⟨blk, off + k * 3 + 1, none⟩ = some (.int .i64 (Y k)) ∧ wr.cell? ⟨blk, off + k * 3 + 2, none⟩ = some (.int .i64 (V k)) from
            ⟨(HCw.out wr (Below.refl _ _) i hlt).1, (HCw.out wr (Below.refl _ _) i hlt).2.1, (HCw.out wr (Below.refl _ _) i hlt).2.2, (HCw.out wr (Below.refl _ _) k hltk).1, (HCw.out wr (Below.refl _ _) k hltk).2.1, (HCw.out wr (Below.refl _ _) k hltk).2.2⟩)
          have hBx : Below wr.heap.size wr wr.drew := (Below.refl _ wr).drew
          have HCi := Lib.hid (fun W => rcell_any (X i) (Y i) (V i) s W (HOK.out i hlt).1 (HOK.out i hlt).2.1 s1 s2)
          have HCk := Lib.hid (fun W => rcell_any (X k) (Y k) (V k) s W (HOK.out k hltk).1 (HOK.out k hltk).2.1 s1 s2)
          obtain ⟨pi, hpi⟩ : ∃ p, p = X i / s := ⟨_, rfl⟩
          obtain ⟨qi, hqi⟩ : ∃ q, q = Y i / s := ⟨_, rfl⟩
          obtain ⟨pk, hpk⟩ : ∃ p, p = X k / s := ⟨_, rfl⟩
          obtain ⟨qk, hqk⟩ : ∃ q, q = Y k / s := ⟨_, rfl⟩
          rw [← hpi, ← hqi] at HCi
          rw [← hpk, ← hqk] at HCk
          have HCeq : Hid (C k = C i ↔ (pk = pi ∧ qk = qi)) := Lib.hid (by rw [HC.out]; unfold redC; rw [← hpi, ← hqi, ← hpk, ← hqk]; simp)
          clear hpi hqi hpk hqk
          have HPQ : Hid (∀ W, Below wr.heap.size wr W → W.cell? ⟨blk, off + i * 3, none⟩ = some (.int .i64 (X i)) ∧ W.cell? ⟨blk, off + i * 3 + 1, none⟩ = some (.int .i64 (Y i)) ∧ W.cell? ⟨blk, off + i * 3 + 2, none⟩ = some (.int .i64 (V i)) ∧
            W.cell? ⟨blk, off + k * 3, none⟩ = some (.int .i64 (X k)) ∧ W.cell? ⟨blk, off + k * 3 + 1, none⟩ = some (.int .i64 (Y k)) ∧ W.cell? ⟨blk, off + k * 3 + 2, none⟩ = some (.int .i64 (V k))) := Lib.hid (fun W hW =>
            ⟨(HCw.out W hW i hlt).1, (HCw.out W hW i hlt).2.1, (HCw.out W hW i hlt).2.2, (HCw.out W hW k hltk).1, (HCw.out W hW k hltk).2.1, (HCw.out W hW k hltk).2.2⟩)
          obtain ⟨r, hr⟩ : ∃ r, r = decide (C k = C i) := ⟨_, rfl⟩
          have HRr := Lib.hid hr
          clear hr
          go_upto_region 15 with fail
          go_cut [48] from 36 to 48 (fun v wz => v = .bool (!r) ∧ Below wr.heap.size wr wz)
          case first =>
            rcases Classical.em (pk = pi) with e1 | e1
            · rcases Classical.em (qk = qi) with e2 | e2
              · have hr : r = true := by rw [HRr.out]; exact decide_eq_true (HCeq.out.2 ⟨e1, e2⟩)
                subst e1
                subst e2
                subst hr
                go_region_held3 (fun W => W.cell? ⟨blk, off + i * 3, none⟩ = some (.int .i64 (X i)) ∧ W.cell? ⟨blk, off + i * 3 + 1, none⟩ = some (.int .i64 (Y i)) ∧ W.cell? ⟨blk, off + i * 3 + 2, none⟩ = some (.int .i64 (V i)) ∧
                  W.cell? ⟨blk, off + k * 3, none⟩ = some (.int .i64 (X k)) ∧ W.cell? ⟨blk, off + k * 3 + 1, none⟩ = some (.int .i64 (Y k)) ∧ W.cell? ⟨blk, off + k * 3 + 2, none⟩ = some (.int .i64 (V k)))
                  (first | exact HPQ.out _ hBx | go_keep)
                  (first
                    | (go_at_call 70; (with_reducible refine (HCk.out _).mono ?_); rintro e wa ⟨rfl, hba⟩; replace hBx := below_step hBx hba)
                    | (go_at_call 70; (with_reducible refine (HCi.out _).mono ?_); rintro e wb ⟨rfl, hbb⟩; replace hBx := below_step hBx hbb))
                all_goals go_wp2
                all_goals go_meet
                all_goals exact ⟨rfl, by first | exact hBx | exact below_drewN hBx _⟩
              · have hr : r = false := by rw [HRr.out]; exact decide_eq_false (fun h => e2 (HCeq.out.1 h).2)
                subst e1
                subst hr
                have e3 : (qk == qi) = false := by simp [e2]
                go_region_held3 (fun W => W.cell? ⟨blk, off + i * 3, none⟩ = some (.int .i64 (X i)) ∧ W.cell? ⟨blk, off + i * 3 + 1, none⟩ = some (.int .i64 (Y i)) ∧ W.cell? ⟨blk, off + i * 3 + 2, none⟩ = some (.int .i64 (V i)) ∧
                  W.cell? ⟨blk, off + k * 3, none⟩ = some (.int .i64 (X k)) ∧ W.cell? ⟨blk, off + k * 3 + 1, none⟩ = some (.int .i64 (Y k)) ∧ W.cell? ⟨blk, off + k * 3 + 2, none⟩ = some (.int .i64 (V k)))
                  (first | exact HPQ.out _ hBx | go_keep)
                  (first
                    | (go_at_call 70; (with_reducible refine (HCk.out _).mono ?_); rintro e wa ⟨rfl, hba⟩; replace hBx := below_step hBx hba)
                    | (go_at_call 70; (with_reducible refine (HCi.out _).mono ?_); rintro e wb ⟨rfl, hbb⟩; replace hBx := below_step hBx hbb))
                all_goals go_wp2
                all_goals go_meet
                all_goals exact ⟨rfl, by first | exact hBx | exact below_drewN hBx _⟩
            · have hr : r = false := by rw [HRr.out]; exact decide_eq_false (fun h => e1 (HCeq.out.1 h).1)
              subst hr
              have e3 : (pk == pi) = false := by simp [e1]
              go_region_held3 (fun W => W.cell? ⟨blk, off + i * 3, none⟩ = some (.int .i64 (X i)) ∧ W.cell? ⟨blk, off + i * 3 + 1, none⟩ = some (.int .i64 (Y i)) ∧ W.cell? ⟨blk, off + i * 3 + 2, none⟩ = some (.int .i64 (V i)) ∧
                W.cell? ⟨blk, off + k * 3, none⟩ = some (.int .i64 (X k)) ∧ W.cell? ⟨blk, off + k * 3 + 1, none⟩ = some (.int .i64 (Y k)) ∧ W.cell? ⟨blk, off + k * 3 + 2, none⟩ = some (.int .i64 (V k)))
                (first | exact HPQ.out _ hBx | go_keep)
                (first
                  | (go_at_call 70; (with_reducible refine (HCk.out _).mono ?_); rintro e wa ⟨rfl, hba⟩; replace hBx := below_step hBx hba)
                  | (go_at_call 70; (with_reducible refine (HCi.out _).mono ?_); rintro e wb ⟨rfl, hbb⟩; replace hBx := below_step hBx hbb))
              all_goals go_wp2
              all_goals go_meet
              all_goals exact ⟨rfl, by first | exact hBx | exact below_drewN hBx _⟩
          case rest =>
            obtain ⟨wz, rfl⟩ : ∃ x : World, x = wc := ⟨_, rfl⟩
            obtain ⟨rfl, hbz⟩ := hcut
            have HP2 := Lib.hid (box_step HP.out hbz)
            have HG2 : Hid (w3.grownBy wz (some Lp)) := Lib.hid (only_trans HGr.out (only_below hbz))
            have HT : Hid (Clo wz blk off n X Y V) := Lib.hid (HCw.out wz hbz)
            have l4 : blk < wz.heap.size := Nat.lt_of_lt_of_le l1 hbz.size
            clear hbz p0 p1 p2 p3 p4 p5 l1 HPQ HCw HP HGr hBx HCi HCk HCeq
            cases r with
            | false =>
              have hne : C k ≠ C i := fun e => by have h := HRr.out; rw [decide_eq_true e] at h; cases h
              have HN2 : Hid (nonF C i (k + 1) = b) := Lib.hid ((nonF_other hne).trans HN.out)
              have HP3 : Hid (BoxAt wz Lp 69 #[.int .i64 (X i), .int .i64 (Y i), .int .i64 (mxF C V i (k + 1))]) := Lib.hid (by rw [mxF, if_neg hne]; exact HP2.out)
              clear hne
              go_wp2
              go_roundw
              case rel => exact ⟨k + 1, b, by omega, rfl, by go_num, HN2, HP3, HG2⟩
              case measure => simp [intOf]; omega
            | true =>
              have heq : C k = C i := by have h := HRr.out; exact of_decide_eq_true h.symm
              have HN2 : Hid (nonF C i (k + 1) = (b && decide (i ≤ k))) := Lib.hid ((nonF_same heq).trans (by rw [HN.out]))
              have hmx : mxF C V i (k + 1) = max (mxF C V i k) (V k) := by rw [mxF, if_pos heq]
              obtain ⟨u, hu⟩ : ∃ u, u = mxF C V i k := ⟨_, rfl⟩
              rw [← hu] at HP2 hmx
              obtain ⟨t, ht⟩ : ∃ t, t = V k := ⟨_, rfl⟩
              have p2 := (HT.out k hltk).2.2
              rw [← ht] at p2 hmx
              have HMX := Lib.hid hmx
              have u2 := HP2.out.cell 2
              have u3 := HP2.out.frozen 2
              have u4 := HP2.out.lt
              replace u2 : wz.cell? ⟨Lp, 2, none⟩ = some (.int .i64 u) := u2
              clear heq hu ht hmx
              go_upto_region 16 with fail
              go_cut [9] from 49 to 54 (fun v wy => v = .bool (b && decide (i ≤ k)) ∧ wy = wz)
              case first =>
                cases b with
                | false =>
                  go_wp2
                  go_meet
                  exact ⟨rfl, rfl⟩
                | true =>
                  by_cases hik : i ≤ k
                  · have h1 : ¬ (k : Int) < (i : Int) := by omega
                    have h2 : (i : Int) ≤ (k : Int) := by omega
                    go_wp2
                    go_meet
                    exact ⟨by simp [hik], rfl⟩
                  · have h1 : (k : Int) < (i : Int) := by omega
                    have h2 : ¬ (i : Int) ≤ (k : Int) := by omega
                    go_wp2
                    go_meet
                    exact ⟨by simp [hik], rfl⟩
              case rest =>
                obtain ⟨rfl, rfl⟩ := hcut
                have HST : Hid (∀ x, x = max u t → BoxAt (wc.drew.setCell ⟨Lp, 2, none⟩ (.int .i64 x)) Lp 69 #[.int .i64 (X i), .int .i64 (Y i), .int .i64 (mxF C V i (k + 1))] ∧ w3.grownBy (wc.drew.setCell ⟨Lp, 2, none⟩ (.int .i64 x)) (some Lp)) := Lib.hid (fun x hx => by
                  rw [HMX.out, ← hx]
                  exact ⟨HP2.out.drew.set 2 (.int .i64 x), only_trans (only_trans HG2.out (only_drew _ _)) (only_set _ _ _ _)⟩)
                obtain ⟨bb, hbb⟩ : ∃ bb, bb = (b && decide (i ≤ k)) := ⟨_, rfl⟩
                rw [← hbb] at HN2 ⊢
                clear hbb
                rcases Int.lt_or_le u t with a0 | a0
                · have b0 : ¬ t ≤ u := by omega
                  have HE := Lib.hid (HST.out t (by omega))
                  go_upto_region 17 with fail
                  go_still_tail 9, (by kernel_rfl)
                  change wpList _ _ _ _ _ wc.drew
                  have g0 : wc.drew.cell? ⟨Lp, 2, none⟩ = some (.int .i64 u) := u2
                  have j0 : wc.drew.frozen? ⟨Lp, 2, none⟩ = false := u3
                  have l5 : Lp < wc.drew.heap.size := u4
                  clear u2 u3 u4 p2 l4 HST HP2 HG2 HT
                  generalize wc.drew = wx at *
                  go_wp2
                  go_roundw
                  case rel => exact ⟨k + 1, bb, by omega, rfl, by go_num, HN2, Lib.hid HE.out.1, Lib.hid HE.out.2⟩
                  case measure => simp [intOf]; omega
                · have b0 : ¬ u < t := by omega
                  have HE := Lib.hid (HST.out u (by omega))
                  go_upto_region 17 with fail
                  go_still_tail 9, (by kernel_rfl)
                  change wpList _ _ _ _ _ wc.drew
                  have g0 : wc.drew.cell? ⟨Lp, 2, none⟩ = some (.int .i64 u) := u2
                  have j0 : wc.drew.frozen? ⟨Lp, 2, none⟩ = false := u3
                  have l5 : Lp < wc.drew.heap.size := u4
                  clear u2 u3 u4 p2 l4 HST HP2 HG2 HT
                  generalize wc.drew = wx at *
                  go_wp2
                  go_roundw
                  case rel => exact ⟨k + 1, bb, by omega, rfl, by go_num, HN2, Lib.hid HE.out.1, Lib.hid HE.out.2⟩
                  case measure => simp [intOf]; omega
        · obtain rfl : k = n := by omega
          have k1 : ¬ (k : Int) < (k : Int) := by omega
          have HF : Hid (fstB C i = b) := Lib.hid ((nonF_all hlt).symm.trans HN.out)
          have HR4 : Hid (wr.ownsRow Bs 69 3 (.slice Av (rnk C i) cv) (rnk C i) (keptR C k X Y V i)) := Lib.hid (HR3.out.kept HGr.out (by
            cases hb : (Value.slice Av (rnk C i) cv).ownBlock with
            | none => exact Or.inl rfl
            | some q => exact Or.inr (fun e => by obtain rfl := Option.some.inj e; have := HLow.out q hb; omega)))
          have HB4 : Hid (Below w.heap.size w wr) := Lib.hid (HB3.out.grown HGr.out HB3.out.size (fun q e => by obtain rfl := Option.some.inj e; exact hLpw))
          have hm := rnk_le (C := C) i
          cases b with
          | false =>
            have HRk := Lib.hid (rnk_not HF.out)
            have HR5 : Hid (wr.ownsRow Bs 69 3 (.slice Av (rnk C i) cv) (rnk C (i + 1)) (keptR C k X Y V (i + 1))) := Lib.hid (by unfold keptR; rw [HRk.out]; exact HR4.out)
            go_wp2
            go_roundw
            case rel => exact ⟨i + 1, _, by omega, rfl, by go_num, HR5, HB4⟩
            case measure => simp [intOf]; omega
          | true =>
            have HRk := Lib.hid (rnk_fst HF.out)
            have HRow := Lib.hid (keptR_new (n := k) (X := X) (Y := Y) (V := V) hlt HF.out)
            obtain ⟨u, hu⟩ : ∃ u, u = mxF C V i k := ⟨_, rfl⟩
            rw [← hu] at HP HRow
            obtain ⟨m, hme⟩ : ∃ m, m = rnk C i := ⟨_, rfl⟩
            rw [← hme] at hm HRk HR4 ⊢
            have u0 : wr.cell? ⟨Lp, 0, none⟩ = some (.int .i64 (X i)) := HP.out.cell 0
            have u1 : wr.cell? ⟨Lp, 1, none⟩ = some (.int .i64 (Y i)) := HP.out.cell 1
            have u2 : wr.cell? ⟨Lp, 2, none⟩ = some (.int .i64 u) := HP.out.cell 2
            have u4 := HP.out.lt
            have hsz := HB4.out.size
            have hbs := HBs.out
            clear hu hme
            go_wp2_with (at_builtin; refine wpList_append_lies _ rfl _ _ 22 rfl Bs 69 i0_ _ 3 24 Try.underlying22 hI0.out hZ0.out hZ1.out hZ2.out rfl (by decide) (.slice Av m cv) m (keptR C k X Y V i) rfl (HR4.out.alloc _) ⟨wr.heap.size, 0, none⟩ 1 1 [.int .i64 (X i), .int .i64 (Y i), .int .i64 u] rfl rfl (World.news_of_block (cs := #[.int .i64 (X i), .int .i64 (Y i), .int .i64 u]) (t := 69) (fr := (0, 0)) (heap_alloc_new wr _)) (by simp [Value.oneCell']) (by decide) (by unfold maxLen; omega) (by omega) (by simp; omega) _ rfl ?_; intro gg cap1 w7 hown7 hgrow hat hlt7)
            have HO7 : Hid (w7.ownsRow Bs 69 3 (.slice (some ⟨gg, 0, none⟩) (m + 1) cap1) (rnk C (i + 1)) (keptR C k X Y V (i + 1))) := Lib.hid (by rw [HRk.out, HRow.out]; exact hown7)
            have HB7 : Hid (Below w.heap.size w w7) := Lib.hid ((HB4.out.alloc (by omega) _).grown hgrow (by simp; omega) (fun b e => by have := (HR4.out.lt b e).1; omega))
            clear hown7 hgrow hat hlt7 u0 u1 u2 u4
            go_roundw
            case rel => exact ⟨i + 1, _, by omega, rfl, by go_num, HO7, HB7⟩
            case measure => simp [intOf]; omega
    · obtain rfl : i = n := by omega
      have i1 : ¬ (i : Int) < (i : Int) := by omega
      obtain ⟨Av, cv, hv⟩ := own_form HR.out
      subst hv
      obtain ⟨hc, hCl⟩ := own_cloud HR.out
      have HCC := Lib.hid hCl
      have HC2 := Lib.hid hc
      clear hCl hc
      go_wp2
      exact bodyPost_ret (v := .tuple #[.slice Av (rnk C i) cv, .int .i64 0]) (by simp [results, Try.results38, go_sem]) rfl (by
        unfold RedAll
        rw [HG.out, if_pos rfl, ← HC.out]
        exact ⟨Av, cv, rfl, HC2.out, HCC.out, HB.out⟩)
end Go.Proofs.Ytaehfildhmljeaa
