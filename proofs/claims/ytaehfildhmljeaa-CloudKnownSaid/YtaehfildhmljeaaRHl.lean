/- The reference's Hull of a valid cloud that has points. -/
import Derived.Test.YtaehfildhmljeaaCor
import Derived.Test.YtaehfildhmljeaaRChC
import Derived.Test.YtaehfildhmljeaaRef1
import Derived.Deep.CutBlock
import Derived.BigQuiet
namespace Go.Proofs.Ytaehfildhmljeaa
open Go.RowKit Go.Shelf

/-- What Hull gives. -/
def HulAll (n : Nat) (X Y V : Nat → Int) (w : World) (e : Ending) (w' : World) : Prop :=
  ∃ v base, e = .returned v ∧ w'.ownsRow base 24 2 v (if chkF n X Y V = 0 then hulL (celL (spF X Y) n) else []).length (ptV (if chkF n X Y V = 0 then hulL (celL (spF X Y) n) else [])) ∧ Below w.heap.size w w'
theorem box_two {W : World} {g : Nat} {t : TypeId} {a b c d : Value} (h : BoxAt W g t #[a, b]) : BoxAt ((W.setCell ⟨g, 0, none⟩ c).setCell ⟨g, 1, none⟩ d) g t #[c, d] := (h.set 0 c).set 1 d

theorem wrapK_in (C : Nat → Pt) (a : Pt) : ∀ k, wrapK C a k = a ∨ ∃ i, i < k ∧ C i = wrapK C a k := by
  intro k
  induction k with
  | zero => exact Or.inl rfl
  | succ k ih =>
    have e : wrapK C a (k + 1) = selS a (wrapK C a k) (C k) := rfl
    rw [e]
    unfold selS
    split
    · rcases ih with h | ⟨i, hi, h⟩
      · exact Or.inl h
      · exact Or.inr ⟨i, by omega, h⟩
    · exact Or.inr ⟨k, by omega, rfl⟩
def lenV : Value → Nat
  | .slice _ n _ => n
  | _ => 0
set_option maxRecDepth 100000 in
set_option maxHeartbeats 16000000 in
theorem rhull_good (A : Option Addr) (n cap : Nat) (X Y V : Nat → Int) (hok : chkF n X Y V = 0) (hn0 : 0 < n) (w : World) (hcl : Cloud w A n X Y V) :
    Calls Try.prog 43 #[.slice A n cap] w (HulAll n X Y V w) := by
  have hn : n ≤ 1000 := chkF_le hok
  have HK := Lib.hid (rcheck_any A n cap X Y V w hcl)
  rw [hok] at HK
  obtain ⟨C, hC⟩ : ∃ C, C = spF X Y := ⟨_, rfl⟩
  have HC : Hid (∀ i, C i = (X i, Y i)) := Lib.hid (fun i => by rw [hC]; rfl)
  have HOK : Hid (∀ i, i < n → vp (X i, Y i) = true) := Lib.hid (fun i hi => by
    obtain ⟨o1, o2, _⟩ := ok_at hok hi
    exact (vp_iff _).2 ⟨o1, o2⟩)
  have HCL := Lib.hid hcl
  have HGr : Hid (∀ v base w', w'.ownsRow base 24 2 v (hulL (celL C n)).length (ptV (hulL (celL C n))) → Below w.heap.size w w' → HulAll n X Y V w (.returned v) w') := Lib.hid (fun v base w' h1 h2 => by
    unfold HulAll
    rw [if_pos hok, ← hC]
    exact ⟨v, base, rfl, h1, h2⟩)
  obtain ⟨F, f1, f2, f3, f4, f5, f6⟩ := round_list (C := C) hn0
  obtain ⟨P, hP⟩ : ∃ P, P = hulL (celL C n) := ⟨_, rfl⟩
  have hPl : P.length ≤ 2000 := by
    rw [hP]
    have h1 := hulL_len (celL C n)
    have h2 := celL_len (C := C) n
    omega
  rw [← hP] at f1 f2 f4 f6 HGr
  obtain ⟨m, hm⟩ : ∃ m, m = P.length := ⟨_, rfl⟩
  rw [← hm] at f1 f2 f4 f6 hPl
  have HF1 := Lib.hid f1
  have HF2 := Lib.hid f2
  have HF3 := Lib.hid f3
  have HF5 := Lib.hid f5
  have HF6 := Lib.hid f6
  have HMl := Lib.hid hm
  obtain ⟨i0_, hi0, hz0, hz1, hz2⟩ := info_parts Try.info24
  have hI0 := Lib.hid hi0
  have hZ0 := Lib.hid hz0
  have hZ1 := Lib.hid hz1
  have hZ2 := Lib.hid hz2
  obtain ⟨blk, off, e, hc0⟩ := hcl hn0
  subst e
  have hbl := hc0.lt hn0
  have HC0 := Lib.hid hc0
  have hn1 : ((n : Int) == 0) = false := by rw [beq_eq_false_iff_ne]; omega
  have hn2 : (0 : Int) < (n : Int) := by omega
  have hn3 : ¬ (n : Int) = 0 := by omega
  clear hi0 hz0 hz1 hz2 hcl hok hC hP hm f1 f2 f3 f5 f6 hc0
  go_enter Try.func43, Try.ntmps43
  go_upto_region 3 with (go_at_call 23; (with_reducible refine HK.out.mono ?_); rintro e w1 ⟨rfl, hb1⟩)
  obtain ⟨c0, c1, c2⟩ := (HC0.out.below hb1 hbl) 0 hn0
  simp only [Nat.zero_mul, Nat.add_zero] at c0 c1 c2
  have l1 : blk < w1.heap.size := Nat.lt_of_lt_of_le hbl hb1.size
  go_upto_region 4 with (go_at_call 63; (with_reducible refine (rspot_any _ _ _ _).mono ?_); rintro e w2 ⟨rfl, hb2⟩)
  have hb3 := below_step hb1 hb2
  have hb4 : Below w2.heap.size w2 (w2.alloc (.cells #[.int .i64 (X 0), .int .i64 (Y 0)] 24)) := (Below.refl _ w2).alloc (Nat.le_refl _) _
  have hbx := BoxAt.new w2 24 #[.int .i64 (X 0), .int .i64 (Y 0)]
  obtain ⟨L3, hL3⟩ : ∃ z, z = w2.heap.size := ⟨_, rfl⟩
  rw [← hL3] at hbx ⊢
  have hL3w : w.heap.size ≤ L3 := by rw [hL3]; exact hb3.size
  have HB4 := Lib.hid (below_step hb3 hb4)
  clear c0 c1 c2 l1 hL3 hb1 hb2 hb3 hb4 HK
  generalize w2.alloc (.cells #[.int .i64 (X 0), .int .i64 (Y 0)] 24) = w4 at *
  have I : ∃ i : Nat, 1 ≤ i ∧ i ≤ n ∧ (Value.int .i64 1) = .int .i64 i ∧ Hid (BoxAt w4 L3 24 #[.int .i64 (mnF C i).1, .int .i64 (mnF C i).2]) ∧ Hid (Below w.heap.size w w4) :=
    ⟨1, Nat.le_refl _, hn0, rfl, Lib.hid (by rw [mnF_one, HC.out]; exact hbx), HB4⟩
  clear hbx HB4
  go_wp2
  go_loopw [4] (fun iv wr => ∃ i : Nat, 1 ≤ i ∧ i ≤ n ∧ iv = .int .i64 i ∧ Hid (BoxAt wr L3 24 #[.int .i64 (mnF C i).1, .int .i64 (mnF C i).2]) ∧ Hid (Below w.heap.size w wr)) (fun iv _ => n + 1 - (intOf iv).toNat)
  case atStart => exact I
  case round =>
    clear I
    obtain ⟨i, hi1, hi, rfl, HB3, HB⟩ := hrel
    have i0 : (0 : Int) ≤ (i : Int) := Int.natCast_nonneg _
    by_cases hlt : i < n
    · have i1 : (i : Int) < (n : Int) := by omega
      have l1 : blk < wr.heap.size := Nat.lt_of_lt_of_le hbl HB.out.size
      obtain ⟨c0, c1, c2⟩ := (HC0.out.below HB.out hbl) i hlt
      have HMn : Hid (mnF C (i + 1) = if befB (X i, Y i) (mnF C i) then (X i, Y i) else mnF C i) := Lib.hid (by rw [← HC.out i]; rfl)
      obtain ⟨⟨m1, m2⟩, hmn⟩ : ∃ z, z = mnF C i := ⟨_, rfl⟩
      rw [← hmn] at HB3 HMn
      have d0 : wr.cell? ⟨L3, 0, none⟩ = some (.int .i64 m1) := HB3.out.cell 0
      have d1 : wr.cell? ⟨L3, 1, none⟩ = some (.int .i64 m2) := HB3.out.cell 1
      have d2 := HB3.out.lt
      obtain ⟨x, hx⟩ : ∃ x, x = X i := ⟨_, rfl⟩
      obtain ⟨y, hy⟩ : ∃ y, y = Y i := ⟨_, rfl⟩
      obtain ⟨t, ht⟩ : ∃ t, t = V i := ⟨_, rfl⟩
      rw [← hx, ← hy] at HMn
      rw [← hx] at c0
      rw [← hy] at c1
      rw [← ht] at c2
      have HX := Lib.hid (And.intro hx (And.intro hy ht))
      obtain ⟨r, hr⟩ : ∃ r, befB (x, y) (m1, m2) = r := ⟨_, rfl⟩
      rw [hr] at HMn
      have HBf := Lib.hid (fun W => before_any x y m1 m2 r (Lib.hid hr) W)
      have HPQ : Hid (∀ W, Below wr.heap.size wr W → W.cell? ⟨blk, off + i * 3, none⟩ = some (.int .i64 x) ∧ W.cell? ⟨blk, off + i * 3 + 1, none⟩ = some (.int .i64 y) ∧ W.cell? ⟨blk, off + i * 3 + 2, none⟩ = some (.int .i64 t) ∧
          W.cell? ⟨L3, 0, none⟩ = some (.int .i64 m1) ∧ W.cell? ⟨L3, 1, none⟩ = some (.int .i64 m2)) := Lib.hid (fun W hW =>
        ⟨(hW.cell (p := ⟨blk, off + i * 3, none⟩) l1).trans c0, (hW.cell (p := ⟨blk, off + i * 3 + 1, none⟩) l1).trans c1, (hW.cell (p := ⟨blk, off + i * 3 + 2, none⟩) l1).trans c2,
          (hW.cell (p := ⟨L3, 0, none⟩) d2).trans d0, (hW.cell (p := ⟨L3, 1, none⟩) d2).trans d1⟩)
      have hBx : Below wr.heap.size wr wr.drew := (Below.refl _ wr).drew
      clear hmn hx hy ht hr
      go_upto_region 7 with fail
      go_cut [35] from 29 to 35 (fun v wz => v = .bool r ∧ Below wr.heap.size wr wz)
      case first =>
        go_region_held3 (fun W => W.cell? ⟨blk, off + i * 3, none⟩ = some (.int .i64 x) ∧ W.cell? ⟨blk, off + i * 3 + 1, none⟩ = some (.int .i64 y) ∧ W.cell? ⟨blk, off + i * 3 + 2, none⟩ = some (.int .i64 t) ∧
            W.cell? ⟨L3, 0, none⟩ = some (.int .i64 m1) ∧ W.cell? ⟨L3, 1, none⟩ = some (.int .i64 m2))
          (first | exact HPQ.out _ hBx | go_keep)
          (first
            | (go_at_call 63; (with_reducible refine (rspot_any _ _ _ _).mono ?_); rintro e wa ⟨rfl, hba⟩; replace hBx := below_step hBx hba)
            | (go_at_call 85; (with_reducible refine (HBf.out _).mono ?_); rintro e wb ⟨rfl, hbb⟩; replace hBx := below_step hBx hbb))
        all_goals go_wp2
        all_goals go_meet
        all_goals exact ⟨rfl, hBx⟩
      case rest =>
        obtain ⟨wz, rfl⟩ : ∃ x : World, x = wc := ⟨_, rfl⟩
        obtain ⟨rfl, hbz⟩ := hcut
        have hz := HPQ.out wz hbz
        obtain ⟨c0, c1, c2, e0, e1⟩ := hz
        have l1' : blk < wz.heap.size := Nat.lt_of_lt_of_le l1 hbz.size
        have HBz := Lib.hid (below_step HB.out hbz)
        have HB3z := Lib.hid (box_step HB3.out hbz)
        clear hbz HPQ hBx HB HB3 d0 d1 d2
        cases r with
        | false =>
          have HM2 : Hid (BoxAt wz L3 24 #[.int .i64 (mnF C (i + 1)).1, .int .i64 (mnF C (i + 1)).2]) := Lib.hid (by rw [HMn.out]; exact HB3z.out)
          clear HB3z e0 e1 c0 c1 c2
          go_wp2
          go_roundw
          case rel => exact ⟨i + 1, by omega, by omega, by go_num, HM2, HBz⟩
          case measure => simp [intOf]; omega
        | true =>
          go_upto_region 8 with fail
          go_wp2_with (go_at_call 63; (with_reducible refine (rspot_any _ _ _ _).mono ?_); rintro e w6 ⟨rfl, hb6⟩; have HB6 := Lib.hid (box_step HB3z.out hb6); have e2 : w6.cell? ⟨L3, 0, none⟩ = some (.int .i64 m1) := HB6.out.cell 0; have e3 : w6.cell? ⟨L3, 1, none⟩ = some (.int .i64 m2) := HB6.out.cell 1; have e4 : w6.frozen? ⟨L3, 0, none⟩ = false := HB6.out.frozen 0; have e5 : w6.frozen? ⟨L3, 1, none⟩ = false := HB6.out.frozen 1; have HB6w := Lib.hid (below_step HBz.out hb6))
          have HM2 : Hid (BoxAt ((w6.setCell ⟨L3, 0, none⟩ (.int .i64 x)).setCell ⟨L3, 1, none⟩ (.int .i64 y)) L3 24 #[.int .i64 (mnF C (i + 1)).1, .int .i64 (mnF C (i + 1)).2]) := Lib.hid (by rw [HMn.out]; exact box_two HB6.out)
          have HB7 : Hid (Below w.heap.size w ((w6.setCell ⟨L3, 0, none⟩ (.int .i64 x)).setCell ⟨L3, 1, none⟩ (.int .i64 y))) := Lib.hid ((HB6w.out.setCell (p := ⟨L3, 0, none⟩) hL3w _).setCell (p := ⟨L3, 1, none⟩) hL3w _)
          go_roundw
          case rel => exact ⟨i + 1, by omega, by omega, by go_num, HM2, HB7⟩
          case measure => simp [intOf]; omega
    · obtain rfl : i = n := by omega
      have i1 : ¬ (i : Int) < (i : Int) := by omega
      obtain ⟨lo, hlo⟩ : ∃ z, z = mnF C i := ⟨_, rfl⟩
      rw [← hlo] at HB3 HF3 HF6
      obtain ⟨lo1, lo2⟩ := lo
      have d0 : wr.cell? ⟨L3, 0, none⟩ = some (.int .i64 lo1) := HB3.out.cell 0
      have d1 : wr.cell? ⟨L3, 1, none⟩ = some (.int .i64 lo2) := HB3.out.cell 1
      have d2 := HB3.out.lt
      obtain ⟨Bs, hBs⟩ : ∃ z, z = L3 + 1 := ⟨_, rfl⟩
      have HBs := Lib.hid hBs
      have hFt : F.take 1 = [(lo1, lo2)] := by
        have h := HF3.out
        cases F with
        | nil => simp at h
        | cons a r => obtain rfl : a = (lo1, lo2) := by simpa using h
                      rfl
      have I0 : Hid ((wr.alloc (.cells #[.int .i64 lo1, .int .i64 lo2] 24)).ownsRow Bs 24 2 (.slice (some ⟨wr.heap.size, 0, none⟩) 1 1) (0 + 1) (ptV (F.take (0 + 1))) ∧ BoxAt (wr.alloc (.cells #[.int .i64 lo1, .int .i64 lo2] 24)) L3 24 #[.int .i64 lo1, .int .i64 lo2] ∧ Below w.heap.size w (wr.alloc (.cells #[.int .i64 lo1, .int .i64 lo2] 24))) := Lib.hid (by
        refine ⟨?_, HB3.out.alloc _, below_step HB.out ((Below.refl _ wr).alloc (Nat.le_refl _) _)⟩
        rw [Nat.zero_add, hFt]
        exact ⟨rfl, .inr ⟨wr.heap.size, 1, _, rfl, by rw [hBs]; exact HB3.out.lt, heap_alloc_new wr _, Nat.le_refl _, by unfold maxLen; omega, rfl, rfl⟩⟩)
      clear hlo hFt hBs HB3 HB
      go_upto_region 10 with fail
      have I : ∃ (j : Nat) (v : Value), j + 1 ≤ m ∧ (Value.slice (some ⟨wr.heap.size, 0, none⟩) 1 1) = v ∧ lenV v = j + 1 ∧ Hid ((wr.alloc (.cells #[.int .i64 lo1, .int .i64 lo2] 24)).ownsRow Bs 24 2 v (j + 1) (ptV (F.take (j + 1)))) ∧ Hid (BoxAt (wr.alloc (.cells #[.int .i64 lo1, .int .i64 lo2] 24)) L3 24 #[.int .i64 lo1, .int .i64 lo2]) ∧ Hid (Below w.heap.size w (wr.alloc (.cells #[.int .i64 lo1, .int .i64 lo2] 24))) :=
        ⟨0, _, f4, rfl, rfl, Lib.hid I0.out.1, Lib.hid I0.out.2.1, Lib.hid I0.out.2.2⟩
      clear I0 d0 d1 d2
      generalize wr.alloc (.cells #[.int .i64 lo1, .int .i64 lo2] 24) = w9 at *
      go_wp2
      go_loopw [5] (fun o wr => ∃ (j : Nat) (v : Value), j + 1 ≤ m ∧ o = v ∧ lenV v = j + 1 ∧ Hid (wr.ownsRow Bs 24 2 v (j + 1) (ptV (F.take (j + 1)))) ∧ Hid (BoxAt wr L3 24 #[.int .i64 lo1, .int .i64 lo2]) ∧ Hid (Below w.heap.size w wr)) (fun o _ => m + 1 - lenV o)
      case atStart => exact I
      case round =>
        clear I
        obtain ⟨j, v, hj, rfl, _, HR, HB3, HB⟩ := hrel
        obtain ⟨g, cv, hform, hg0, hg1⟩ := HR.out.form (by omega)
        subst hform
        obtain ⟨⟨a1, a2⟩, ha⟩ : ∃ a, F[j]? = some a := ⟨_, List.getElem?_eq_getElem (by rw [HF1.out]; omega)⟩
        obtain ⟨⟨b1, b2⟩, hb⟩ : ∃ b, F[j + 1]? = some b := ⟨_, List.getElem?_eq_getElem (by rw [HF1.out]; omega)⟩
        have hpt := ptV_get (F.take (j + 1)) j (a1, a2) (by rw [List.getElem?_take_of_lt (by omega)]; exact ha)
        have d0 : wr.cell? ⟨g, j * 2, none⟩ = some (.int .i64 a1) := by rw [World.ownsRow.cellAt HR.out _ (by omega)]; exact hpt.1
        have d1 : wr.cell? ⟨g, j * 2 + 1, none⟩ = some (.int .i64 a2) := by rw [World.ownsRow.cellAt HR.out _ (by omega)]; exact hpt.2
        have HAB := Lib.hid (HF6.out j (a1, a2) (b1, b2) (by omega) ha hb)
        have HAv : Hid (vp (a1, a2) = true) := Lib.hid (by
          obtain ⟨q, hq, e⟩ := HF5.out (a1, a2) (List.mem_of_getElem? ha)
          rw [← e, HC.out]
          exact HOK.out q hq)
        have HFn : Hid (F.take (j + 1 + 1) = F.take (j + 1) ++ [(b1, b2)]) := Lib.hid (by rw [List.take_add_one (i := j + 1), hb]; rfl)
        have j0 : (0 : Int) ≤ (j : Int) := Int.natCast_nonneg _
        have j1 : (j : Int) < (j : Int) + 1 := by omega
        have wj1 : IntKind.i64.wrap ((j : Int) + 1 - 1) = (j : Int) := by rw [IntWalk.i64_in _ (by omega)]; omega
        have wj2 : IntKind.i64.wrap (j : Int) = (j : Int) := IntWalk.i64_in _ (by omega)
        clear hpt ha hb hg0
        go_upto_region 12 with fail
        have h67 : Below wr.heap.size wr ((wr.alloc (.cells #[.int .i64 a1, .int .i64 a2] 24)).alloc (.cells #[.int .i64 a1, .int .i64 a2] 24)) := ((Below.refl _ wr).alloc (Nat.le_refl _) _).alloc (by simp) _
        have hb6 : BoxAt ((wr.alloc (.cells #[.int .i64 a1, .int .i64 a2] 24)).alloc (.cells #[.int .i64 a1, .int .i64 a2] 24)) wr.heap.size 24 #[.int .i64 a1, .int .i64 a2] := (BoxAt.new wr 24 _).alloc _
        have hb7 : BoxAt ((wr.alloc (.cells #[.int .i64 a1, .int .i64 a2] 24)).alloc (.cells #[.int .i64 a1, .int .i64 a2] 24)) (wr.heap.size + 1) 24 #[.int .i64 a1, .int .i64 a2] := by
          have := BoxAt.new (wr.alloc (.cells #[.int .i64 a1, .int .i64 a2] 24)) 24 #[.int .i64 a1, .int .i64 a2]
          rwa [World.size_alloc] at this
        obtain ⟨L6, hL6⟩ : ∃ z, z = wr.heap.size := ⟨_, rfl⟩
        rw [← hL6] at hb6 hb7 ⊢
        have hL6w : w.heap.size ≤ L6 := by rw [hL6]; exact HB.out.size
        have hL36 : L3 < L6 := by rw [hL6]; exact HB3.out.lt
        have HLow : Hid (∀ b, (Value.slice (some ⟨g, 0, none⟩) (j + 1) cv).ownBlock = some b → b < L6) := Lib.hid (fun b e => by rw [hL6]; exact (HR.out.lt b e).2)
        have HR6 := Lib.hid (HR.out.kept (grown_of_below h67) (Classical.em _))
        have HB36 := Lib.hid (box_step HB3.out h67)
        have HB6 := Lib.hid (below_step HB.out h67)
        have Hb6 := Lib.hid hb6
        clear d0 d1 j1 wj1 wj2 hL6 h67 HR HB3 HB hb6
        generalize (wr.alloc (.cells #[.int .i64 a1, .int .i64 a2] 24)).alloc (.cells #[.int .i64 a1, .int .i64 a2] 24) = w6 at *
        have I : ∃ k : Nat, k ≤ i ∧ (Value.int .i64 0) = .int .i64 k ∧ Hid (BoxAt w6 (L6 + 1) 24 #[.int .i64 (wrapK C (a1, a2) k).1, .int .i64 (wrapK C (a1, a2) k).2]) ∧ Hid (w6.grownBy w6 (some (L6 + 1))) :=
          ⟨0, Nat.zero_le _, rfl, Lib.hid hb7, Lib.hid ⟨rfl, rfl, rfl, Nat.le_refl _, fun _ _ _ => rfl⟩⟩
        clear hb7
        go_wp2
        go_loopw [8] (fun kv wr => ∃ k : Nat, k ≤ i ∧ kv = .int .i64 k ∧ Hid (BoxAt wr (L6 + 1) 24 #[.int .i64 (wrapK C (a1, a2) k).1, .int .i64 (wrapK C (a1, a2) k).2]) ∧ Hid (w6.grownBy wr (some (L6 + 1)))) (fun kv _ => i + 1 - (intOf kv).toNat)
        case atStart => exact I
        case round =>
          clear I
          obtain ⟨k, hk, rfl, HB7, HG⟩ := hrel
          have k0 : (0 : Int) ≤ (k : Int) := Int.natCast_nonneg _
          have HBi : Hid (Below w.heap.size w wr) := Lib.hid (HB6.out.grown HG.out HB6.out.size (fun b e => by obtain rfl := Option.some.inj e; omega))
          have Hb6i : Hid (BoxAt wr L6 24 #[.int .i64 a1, .int .i64 a2]) := Lib.hid (Hb6.out.grown HG.out (by simp))
          by_cases hkl : k < i
          · have k1 : (k : Int) < (i : Int) := by omega
            have l1 : blk < wr.heap.size := Nat.lt_of_lt_of_le hbl HBi.out.size
            obtain ⟨c0, c1, c2⟩ := (HC0.out.below HBi.out hbl) k hkl
            have HNx : Hid (wrapK C (a1, a2) (k + 1) = selS (a1, a2) (wrapK C (a1, a2) k) (X k, Y k)) := Lib.hid (by rw [← HC.out k]; rfl)
            have HCv : Hid (vp (wrapK C (a1, a2) k) = true) := Lib.hid (by
              rcases wrapK_in C (a1, a2) k with h | ⟨q, hq, h⟩
              · rw [h]; exact HAv.out
              · rw [← h, HC.out]; exact HOK.out q (by omega))
            have HQv := Lib.hid (HOK.out k hkl)
            obtain ⟨⟨s1, s2⟩, hs⟩ : ∃ z, z = wrapK C (a1, a2) k := ⟨_, rfl⟩
            rw [← hs] at HB7 HNx HCv
            obtain ⟨x, hx⟩ : ∃ x, x = X k := ⟨_, rfl⟩
            obtain ⟨y, hy⟩ : ∃ y, y = Y k := ⟨_, rfl⟩
            obtain ⟨t, ht⟩ : ∃ t, t = V k := ⟨_, rfl⟩
            rw [← hx, ← hy] at HNx HQv
            rw [← hx] at c0
            rw [← hy] at c1
            rw [← ht] at c2
            clear hs hx hy ht
            go_upto_region 16 with (go_at_call 63; (with_reducible refine (rspot_any _ _ _ _).mono ?_); rintro e wa ⟨rfl, hba⟩)
            have hbb : Below wr.heap.size wr (wa.alloc (.cells #[.int .i64 x, .int .i64 y] 24)) := below_step hba ((Below.refl _ wa).alloc (Nat.le_refl _) _)
            have hb9 := BoxAt.new wa 24 #[.int .i64 x, .int .i64 y]
            obtain ⟨L9, hL9⟩ : ∃ z, z = wa.heap.size := ⟨_, rfl⟩
            rw [← hL9] at hb9 ⊢
            have hL79 : L6 + 1 < L9 := by rw [hL9]; have h1 := HB7.out.lt; have h2 := hba.size; omega
            have HB7b := Lib.hid (box_step HB7.out hbb)
            have HB6b := Lib.hid (box_step Hb6i.out hbb)
            have HGb : Hid (w6.grownBy (wa.alloc (.cells #[.int .i64 x, .int .i64 y] 24)) (some (L6 + 1))) := Lib.hid ⟨hbb.os.trans HG.out.os, hbb.tape.trans HG.out.tape, hbb.output.trans HG.out.output, Nat.le_trans HG.out.size hbb.size, fun b hb' hne => (hbb.block b (Nat.lt_of_lt_of_le hb' HG.out.size)).trans (HG.out.block b hb' hne)⟩
            clear c0 c1 c2 l1 hba hbb hL9 HB7 HG HBi Hb6i
            generalize wa.alloc (.cells #[.int .i64 x, .int .i64 y] 24) = wb at *
            have e0 : wb.cell? ⟨L6, 0, none⟩ = some (.int .i64 a1) := HB6b.out.cell 0
            have e1 : wb.cell? ⟨L6, 1, none⟩ = some (.int .i64 a2) := HB6b.out.cell 1
            have e2 : wb.cell? ⟨L6 + 1, 0, none⟩ = some (.int .i64 s1) := HB7b.out.cell 0
            have e3 : wb.cell? ⟨L6 + 1, 1, none⟩ = some (.int .i64 s2) := HB7b.out.cell 1
            have e4 : wb.cell? ⟨L9, 0, none⟩ = some (.int .i64 x) := hb9.cell 0
            have e5 : wb.cell? ⟨L9, 1, none⟩ = some (.int .i64 y) := hb9.cell 1
            have lt6 := HB6b.out.lt
            have lt7 := HB7b.out.lt
            have lt9 := hb9.lt
            have HB9 := Lib.hid hb9
            clear hb9
            obtain ⟨sd, hsd⟩ : ∃ sd, sd = sgn (crs (a1, a2) (s1, s2) (x, y)) := ⟨_, rfl⟩
            have HSd := Lib.hid hsd
            have HSide := Lib.hid (fun W => rside_any a1 a2 s1 s2 x y sd W (Lib.hid ((side_sgn HAv.out HCv.out HQv.out).trans hsd.symm)))
            clear hsd
            go_upto_region 17 with (go_at_call 86; (with_reducible refine (HSide.out _).mono ?_); rintro e wd ⟨rfl, hbd⟩)
            have hz := And.intro ((hbd.cell (p := ⟨L6, 0, none⟩) lt6).trans e0) (And.intro ((hbd.cell (p := ⟨L6, 1, none⟩) lt6).trans e1) (And.intro ((hbd.cell (p := ⟨L6 + 1, 0, none⟩) lt7).trans e2) (And.intro ((hbd.cell (p := ⟨L6 + 1, 1, none⟩) lt7).trans e3) (And.intro ((hbd.cell (p := ⟨L9, 0, none⟩) lt9).trans e4) ((hbd.cell (p := ⟨L9, 1, none⟩) lt9).trans e5)))))
            have HB7d := Lib.hid (box_step HB7b.out hbd)
            have HB9d := Lib.hid (box_step HB9.out hbd)
            have HGd : Hid (w6.grownBy wd (some (L6 + 1))) := Lib.hid ⟨hbd.os.trans HGb.out.os, hbd.tape.trans HGb.out.tape, hbd.output.trans HGb.out.output, Nat.le_trans HGb.out.size hbd.size, fun b hb' hne => (hbd.block b (Nat.lt_of_lt_of_le hb' HGb.out.size)).trans (HGb.out.block b hb' hne)⟩
            have lt6d : L6 < wd.heap.size := Nat.lt_of_lt_of_le lt6 hbd.size
            have lt7d : L6 + 1 < wd.heap.size := Nat.lt_of_lt_of_le lt7 hbd.size
            have lt9d : L9 < wd.heap.size := Nat.lt_of_lt_of_le lt9 hbd.size
            clear e0 e1 e2 e3 e4 e5 lt6 lt7 lt9 hbd HB7b HB9 HGb HB6b HSide
            obtain ⟨e0, e1, e2, e3, e4, e5⟩ := hz
            have HSix : Hid (∀ W, Below wd.heap.size wd W → W.cell? ⟨L6, 0, none⟩ = some (.int .i64 a1) ∧ W.cell? ⟨L6, 1, none⟩ = some (.int .i64 a2) ∧ W.cell? ⟨L6 + 1, 0, none⟩ = some (.int .i64 s1) ∧ W.cell? ⟨L6 + 1, 1, none⟩ = some (.int .i64 s2) ∧
                W.cell? ⟨L9, 0, none⟩ = some (.int .i64 x) ∧ W.cell? ⟨L9, 1, none⟩ = some (.int .i64 y)) := Lib.hid (fun W hW =>
              ⟨(hW.cell (p := ⟨L6, 0, none⟩) lt6d).trans e0, (hW.cell (p := ⟨L6, 1, none⟩) lt6d).trans e1, (hW.cell (p := ⟨L6 + 1, 0, none⟩) lt7d).trans e2, (hW.cell (p := ⟨L6 + 1, 1, none⟩) lt7d).trans e3,
                (hW.cell (p := ⟨L9, 0, none⟩) lt9d).trans e4, (hW.cell (p := ⟨L9, 1, none⟩) lt9d).trans e5⟩)
            have hBx : Below wd.heap.size wd wd.drew := (Below.refl _ wd).drew
            obtain ⟨r, hr⟩ : ∃ r, r = decide ((x, y) = (a1, a2) ∨ ((s1, s2) ≠ (a1, a2) ∧ (0 < crs (a1, a2) (s1, s2) (x, y) ∨ (crs (a1, a2) (s1, s2) (x, y) = 0 ∧ dsq (a1, a2) (x, y) ≤ dsq (a1, a2) (s1, s2))))) := ⟨_, rfl⟩
            have HSel : Hid (wrapK C (a1, a2) (k + 1) = if r = true then (s1, s2) else (x, y)) := Lib.hid (by
              rw [HNx.out, hr]
              unfold selS
              simp only [decide_eq_true_eq])
            have HRr := Lib.hid hr
            clear hr
            go_cut [89] from 65 to 89 (fun v wz => v = .bool r ∧ Below wd.heap.size wd wz)
            case first =>
              by_cases q1 : (x, y) = (a1, a2)
              · obtain rfl : r = true := by rw [HRr.out]; exact decide_eq_true (Or.inl q1)
                have f1 : (x == a1) = true := by simp at q1; simp [q1.1]
                have f2 : (y == a2) = true := by simp at q1; simp [q1.2]
                clear HSix
                go_quiet (fail)
                go_wp2
                go_meet
                exact ⟨rfl, below_drewN (Below.refl _ wd) _⟩
              · by_cases f0 : x = a1
                · have f1 : (x == a1) = true := by simp [f0]
                  have f2 : (y == a2) = false := by simp; exact fun h => q1 (by rw [f0, h])
                  clear f0
                  by_cases q2 : (s1, s2) = (a1, a2)
                  · obtain rfl : r = false := by rw [HRr.out]; exact decide_eq_false (fun h => h.elim q1 (fun h => h.1 q2))
                    have g1 : (s1 == a1) = true := by simp at q2; simp [q2.1]
                    have g2 : (s2 == a2) = true := by simp at q2; simp [q2.2]
                    clear HSix
                    go_quiet (fail)
                    go_wp2
                    go_meet
                    exact ⟨rfl, below_drewN (Below.refl _ wd) _⟩
                  · by_cases g0 : s1 = a1
                    · have g1 : (s1 == a1) = true := by simp [g0]
                      have g2 : (s2 == a2) = false := by simp; exact fun h => q2 (by rw [g0, h])
                      clear g0
                      rcases sgn_cases (crs (a1, a2) (s1, s2) (x, y)) with ⟨q3, q4⟩ | ⟨q3, q4⟩ | ⟨q3, q4⟩
                      · obtain rfl : r = true := by rw [HRr.out]; exact decide_eq_true (Or.inr ⟨q2, Or.inl q3⟩)
                        obtain rfl : sd = 1 := HSd.out.trans q4
                        clear HSix
                        go_quiet (fail)
                        go_wp2
                        go_meet
                        exact ⟨rfl, below_drewN (Below.refl _ wd) _⟩
                      · obtain rfl : sd = 0 := HSd.out.trans q4
                        obtain ⟨u1, hu1⟩ : ∃ z, z = dsq (a1, a2) (x, y) := ⟨_, rfl⟩
                        obtain ⟨u2, hu2⟩ : ∃ z, z = dsq (a1, a2) (s1, s2) := ⟨_, rfl⟩
                        have hdd : decide (u1 ≤ u2) = r := by
                          rw [HRr.out, hu1, hu2]
                          apply decide_eq_decide.2
                          constructor
                          · exact fun h => Or.inr ⟨q2, Or.inr ⟨q3, h⟩⟩
                          · rintro (h | ⟨_, h | ⟨_, h⟩⟩)
                            · exact absurd h q1
                            · omega
                            · exact h
                        have HD1 := Lib.hid (fun W => rdist_any a1 a2 x y u1 W (Lib.hid (by unfold distF; rw [HAv.out, HQv.out, hu1]; rfl)))
                        have HD2 := Lib.hid (fun W => rdist_any a1 a2 s1 s2 u2 W (Lib.hid (by unfold distF; rw [HAv.out, HCv.out, hu2]; rfl)))
                        clear hu1 hu2 q1 q2 q3 q4
                        go_region_held3 (fun W => W.cell? ⟨L6, 0, none⟩ = some (.int .i64 a1) ∧ W.cell? ⟨L6, 1, none⟩ = some (.int .i64 a2) ∧ W.cell? ⟨L6 + 1, 0, none⟩ = some (.int .i64 s1) ∧ W.cell? ⟨L6 + 1, 1, none⟩ = some (.int .i64 s2) ∧
                            W.cell? ⟨L9, 0, none⟩ = some (.int .i64 x) ∧ W.cell? ⟨L9, 1, none⟩ = some (.int .i64 y))
                          (first | exact HSix.out _ hBx | go_keep)
                          (first
                            | (go_at_call 56; (with_reducible refine (HD1.out _).mono ?_); rintro e wa ⟨rfl, hba⟩; replace hBx := below_step hBx hba)
                            | (go_at_call 56; (with_reducible refine (HD2.out _).mono ?_); rintro e wb ⟨rfl, hbb⟩; replace hBx := below_step hBx hbb))
                        all_goals go_wp2
                        all_goals go_meet
                        all_goals exact ⟨by first | rfl | rw [hdd], hBx⟩
                      · obtain rfl : r = false := by
                          rw [HRr.out]
                          exact decide_eq_false (fun h => h.elim q1 (fun h => h.2.elim (fun h => by omega) (fun h => by omega)))
                        obtain rfl : sd = -1 := HSd.out.trans q4
                        clear HSix
                        go_quiet (fail)
                        go_wp2
                        go_meet
                        exact ⟨rfl, below_drewN (Below.refl _ wd) _⟩
                    · have g1 : (s1 == a1) = false := by simp [g0]
                      clear g0
                      rcases sgn_cases (crs (a1, a2) (s1, s2) (x, y)) with ⟨q3, q4⟩ | ⟨q3, q4⟩ | ⟨q3, q4⟩
                      · obtain rfl : r = true := by rw [HRr.out]; exact decide_eq_true (Or.inr ⟨q2, Or.inl q3⟩)
                        obtain rfl : sd = 1 := HSd.out.trans q4
                        clear HSix
                        go_quiet (fail)
                        go_wp2
                        go_meet
                        exact ⟨rfl, below_drewN (Below.refl _ wd) _⟩
                      · obtain rfl : sd = 0 := HSd.out.trans q4
                        obtain ⟨u1, hu1⟩ : ∃ z, z = dsq (a1, a2) (x, y) := ⟨_, rfl⟩
                        obtain ⟨u2, hu2⟩ : ∃ z, z = dsq (a1, a2) (s1, s2) := ⟨_, rfl⟩
                        have hdd : decide (u1 ≤ u2) = r := by
                          rw [HRr.out, hu1, hu2]
                          apply decide_eq_decide.2
                          constructor
                          · exact fun h => Or.inr ⟨q2, Or.inr ⟨q3, h⟩⟩
                          · rintro (h | ⟨_, h | ⟨_, h⟩⟩)
                            · exact absurd h q1
                            · omega
                            · exact h
                        have HD1 := Lib.hid (fun W => rdist_any a1 a2 x y u1 W (Lib.hid (by unfold distF; rw [HAv.out, HQv.out, hu1]; rfl)))
                        have HD2 := Lib.hid (fun W => rdist_any a1 a2 s1 s2 u2 W (Lib.hid (by unfold distF; rw [HAv.out, HCv.out, hu2]; rfl)))
                        clear hu1 hu2 q1 q2 q3 q4
                        go_region_held3 (fun W => W.cell? ⟨L6, 0, none⟩ = some (.int .i64 a1) ∧ W.cell? ⟨L6, 1, none⟩ = some (.int .i64 a2) ∧ W.cell? ⟨L6 + 1, 0, none⟩ = some (.int .i64 s1) ∧ W.cell? ⟨L6 + 1, 1, none⟩ = some (.int .i64 s2) ∧
                            W.cell? ⟨L9, 0, none⟩ = some (.int .i64 x) ∧ W.cell? ⟨L9, 1, none⟩ = some (.int .i64 y))
                          (first | exact HSix.out _ hBx | go_keep)
                          (first
                            | (go_at_call 56; (with_reducible refine (HD1.out _).mono ?_); rintro e wa ⟨rfl, hba⟩; replace hBx := below_step hBx hba)
                            | (go_at_call 56; (with_reducible refine (HD2.out _).mono ?_); rintro e wb ⟨rfl, hbb⟩; replace hBx := below_step hBx hbb))
                        all_goals go_wp2
                        all_goals go_meet
                        all_goals exact ⟨by first | rfl | rw [hdd], hBx⟩
                      · obtain rfl : r = false := by
                          rw [HRr.out]
                          exact decide_eq_false (fun h => h.elim q1 (fun h => h.2.elim (fun h => by omega) (fun h => by omega)))
                        obtain rfl : sd = -1 := HSd.out.trans q4
                        clear HSix
                        go_quiet (fail)
                        go_wp2
                        go_meet
                        exact ⟨rfl, below_drewN (Below.refl _ wd) _⟩
                · have f1 : (x == a1) = false := by simp [f0]
                  clear f0
                  by_cases q2 : (s1, s2) = (a1, a2)
                  · obtain rfl : r = false := by rw [HRr.out]; exact decide_eq_false (fun h => h.elim q1 (fun h => h.1 q2))
                    have g1 : (s1 == a1) = true := by simp at q2; simp [q2.1]
                    have g2 : (s2 == a2) = true := by simp at q2; simp [q2.2]
                    clear HSix
                    go_quiet (fail)
                    go_wp2
                    go_meet
                    exact ⟨rfl, below_drewN (Below.refl _ wd) _⟩
                  · by_cases g0 : s1 = a1
                    · have g1 : (s1 == a1) = true := by simp [g0]
                      have g2 : (s2 == a2) = false := by simp; exact fun h => q2 (by rw [g0, h])
                      clear g0
                      rcases sgn_cases (crs (a1, a2) (s1, s2) (x, y)) with ⟨q3, q4⟩ | ⟨q3, q4⟩ | ⟨q3, q4⟩
                      · obtain rfl : r = true := by rw [HRr.out]; exact decide_eq_true (Or.inr ⟨q2, Or.inl q3⟩)
                        obtain rfl : sd = 1 := HSd.out.trans q4
                        clear HSix
                        go_quiet (fail)
                        go_wp2
                        go_meet
                        exact ⟨rfl, below_drewN (Below.refl _ wd) _⟩
                      · obtain rfl : sd = 0 := HSd.out.trans q4
                        obtain ⟨u1, hu1⟩ : ∃ z, z = dsq (a1, a2) (x, y) := ⟨_, rfl⟩
                        obtain ⟨u2, hu2⟩ : ∃ z, z = dsq (a1, a2) (s1, s2) := ⟨_, rfl⟩
                        have hdd : decide (u1 ≤ u2) = r := by
                          rw [HRr.out, hu1, hu2]
                          apply decide_eq_decide.2
                          constructor
                          · exact fun h => Or.inr ⟨q2, Or.inr ⟨q3, h⟩⟩
                          · rintro (h | ⟨_, h | ⟨_, h⟩⟩)
                            · exact absurd h q1
                            · omega
                            · exact h
                        have HD1 := Lib.hid (fun W => rdist_any a1 a2 x y u1 W (Lib.hid (by unfold distF; rw [HAv.out, HQv.out, hu1]; rfl)))
                        have HD2 := Lib.hid (fun W => rdist_any a1 a2 s1 s2 u2 W (Lib.hid (by unfold distF; rw [HAv.out, HCv.out, hu2]; rfl)))
                        clear hu1 hu2 q1 q2 q3 q4
                        go_region_held3 (fun W => W.cell? ⟨L6, 0, none⟩ = some (.int .i64 a1) ∧ W.cell? ⟨L6, 1, none⟩ = some (.int .i64 a2) ∧ W.cell? ⟨L6 + 1, 0, none⟩ = some (.int .i64 s1) ∧ W.cell? ⟨L6 + 1, 1, none⟩ = some (.int .i64 s2) ∧
                            W.cell? ⟨L9, 0, none⟩ = some (.int .i64 x) ∧ W.cell? ⟨L9, 1, none⟩ = some (.int .i64 y))
                          (first | exact HSix.out _ hBx | go_keep)
                          (first
                            | (go_at_call 56; (with_reducible refine (HD1.out _).mono ?_); rintro e wa ⟨rfl, hba⟩; replace hBx := below_step hBx hba)
                            | (go_at_call 56; (with_reducible refine (HD2.out _).mono ?_); rintro e wb ⟨rfl, hbb⟩; replace hBx := below_step hBx hbb))
                        all_goals go_wp2
                        all_goals go_meet
                        all_goals exact ⟨by first | rfl | rw [hdd], hBx⟩
                      · obtain rfl : r = false := by
                          rw [HRr.out]
                          exact decide_eq_false (fun h => h.elim q1 (fun h => h.2.elim (fun h => by omega) (fun h => by omega)))
                        obtain rfl : sd = -1 := HSd.out.trans q4
                        clear HSix
                        go_quiet (fail)
                        go_wp2
                        go_meet
                        exact ⟨rfl, below_drewN (Below.refl _ wd) _⟩
                    · have g1 : (s1 == a1) = false := by simp [g0]
                      clear g0
                      rcases sgn_cases (crs (a1, a2) (s1, s2) (x, y)) with ⟨q3, q4⟩ | ⟨q3, q4⟩ | ⟨q3, q4⟩
                      · obtain rfl : r = true := by rw [HRr.out]; exact decide_eq_true (Or.inr ⟨q2, Or.inl q3⟩)
                        obtain rfl : sd = 1 := HSd.out.trans q4
                        clear HSix
                        go_quiet (fail)
                        go_wp2
                        go_meet
                        exact ⟨rfl, below_drewN (Below.refl _ wd) _⟩
                      · obtain rfl : sd = 0 := HSd.out.trans q4
                        obtain ⟨u1, hu1⟩ : ∃ z, z = dsq (a1, a2) (x, y) := ⟨_, rfl⟩
                        obtain ⟨u2, hu2⟩ : ∃ z, z = dsq (a1, a2) (s1, s2) := ⟨_, rfl⟩
                        have hdd : decide (u1 ≤ u2) = r := by
                          rw [HRr.out, hu1, hu2]
                          apply decide_eq_decide.2
                          constructor
                          · exact fun h => Or.inr ⟨q2, Or.inr ⟨q3, h⟩⟩
                          · rintro (h | ⟨_, h | ⟨_, h⟩⟩)
                            · exact absurd h q1
                            · omega
                            · exact h
                        have HD1 := Lib.hid (fun W => rdist_any a1 a2 x y u1 W (Lib.hid (by unfold distF; rw [HAv.out, HQv.out, hu1]; rfl)))
                        have HD2 := Lib.hid (fun W => rdist_any a1 a2 s1 s2 u2 W (Lib.hid (by unfold distF; rw [HAv.out, HCv.out, hu2]; rfl)))
                        clear hu1 hu2 q1 q2 q3 q4
                        go_region_held3 (fun W => W.cell? ⟨L6, 0, none⟩ = some (.int .i64 a1) ∧ W.cell? ⟨L6, 1, none⟩ = some (.int .i64 a2) ∧ W.cell? ⟨L6 + 1, 0, none⟩ = some (.int .i64 s1) ∧ W.cell? ⟨L6 + 1, 1, none⟩ = some (.int .i64 s2) ∧
                            W.cell? ⟨L9, 0, none⟩ = some (.int .i64 x) ∧ W.cell? ⟨L9, 1, none⟩ = some (.int .i64 y))
                          (first | exact HSix.out _ hBx | go_keep)
                          (first
                            | (go_at_call 56; (with_reducible refine (HD1.out _).mono ?_); rintro e wa ⟨rfl, hba⟩; replace hBx := below_step hBx hba)
                            | (go_at_call 56; (with_reducible refine (HD2.out _).mono ?_); rintro e wb ⟨rfl, hbb⟩; replace hBx := below_step hBx hbb))
                        all_goals go_wp2
                        all_goals go_meet
                        all_goals exact ⟨by first | rfl | rw [hdd], hBx⟩
                      · obtain rfl : r = false := by
                          rw [HRr.out]
                          exact decide_eq_false (fun h => h.elim q1 (fun h => h.2.elim (fun h => by omega) (fun h => by omega)))
                        obtain rfl : sd = -1 := HSd.out.trans q4
                        clear HSix
                        go_quiet (fail)
                        go_wp2
                        go_meet
                        exact ⟨rfl, below_drewN (Below.refl _ wd) _⟩
            case rest =>
              obtain ⟨wz, rfl⟩ : ∃ x : World, x = wc := ⟨_, rfl⟩
              obtain ⟨rfl, hbz⟩ := hcut
              have HB7z := Lib.hid (box_step HB7d.out hbz)
              have HB9z := Lib.hid (box_step HB9d.out hbz)
              have HGz : Hid (w6.grownBy wz (some (L6 + 1))) := Lib.hid ⟨hbz.os.trans HGd.out.os, hbz.tape.trans HGd.out.tape, hbz.output.trans HGd.out.output, Nat.le_trans HGd.out.size hbz.size, fun b hb' hne => (hbz.block b (Nat.lt_of_lt_of_le hb' HGd.out.size)).trans (HGd.out.block b hb' hne)⟩
              clear hbz HSix hBx HB7d HB9d HGd e0 e1 e2 e3 e4 e5 lt6d lt7d lt9d
              cases r with
              | true =>
                have HB8 : Hid (BoxAt wz (L6 + 1) 24 #[.int .i64 (wrapK C (a1, a2) (k + 1)).1, .int .i64 (wrapK C (a1, a2) (k + 1)).2]) := Lib.hid (by rw [HSel.out, if_pos rfl]; exact HB7z.out)
                clear HB7z HB9z
                go_wp2
                go_roundw
                case rel => exact ⟨k + 1, by omega, by go_num, HB8, HGz⟩
                case measure => simp [intOf]; omega
              | false =>
                have z0 : wz.cell? ⟨L9, 0, none⟩ = some (.int .i64 x) := HB9z.out.cell 0
                have z1 : wz.cell? ⟨L9, 1, none⟩ = some (.int .i64 y) := HB9z.out.cell 1
                have z2 : wz.cell? ⟨L6 + 1, 0, none⟩ = some (.int .i64 s1) := HB7z.out.cell 0
                have z3 : wz.cell? ⟨L6 + 1, 1, none⟩ = some (.int .i64 s2) := HB7z.out.cell 1
                have z4 : wz.frozen? ⟨L6 + 1, 0, none⟩ = false := HB7z.out.frozen 0
                have z5 : wz.frozen? ⟨L6 + 1, 1, none⟩ = false := HB7z.out.frozen 1
                have z6 := HB9z.out.lt
                have HB8 : Hid (BoxAt ((wz.setCell ⟨L6 + 1, 0, none⟩ (.int .i64 x)).setCell ⟨L6 + 1, 1, none⟩ (.int .i64 y)) (L6 + 1) 24 #[.int .i64 (wrapK C (a1, a2) (k + 1)).1, .int .i64 (wrapK C (a1, a2) (k + 1)).2]) := Lib.hid (by rw [HSel.out, if_neg (by simp)]; exact box_two HB7z.out)
                have HG8 : Hid (w6.grownBy ((wz.setCell ⟨L6 + 1, 0, none⟩ (.int .i64 x)).setCell ⟨L6 + 1, 1, none⟩ (.int .i64 y)) (some (L6 + 1))) := Lib.hid (only_trans (only_trans HGz.out (only_set _ _ _ _)) (only_set _ _ _ _))
                clear HB7z HB9z
                go_wp2
                go_roundw
                case rel => exact ⟨k + 1, by omega, by go_num, HB8, HG8⟩
                case measure => simp [intOf]; omega
          · obtain rfl : k = i := by omega
            have k1 : ¬ (k : Int) < (k : Int) := by omega
            have hwb : wrapK C (a1, a2) k = (b1, b2) := HAB.out.1
            rw [hwb] at HB7
            have e0 : wr.cell? ⟨L6, 0, none⟩ = some (.int .i64 a1) := Hb6i.out.cell 0
            have e1 : wr.cell? ⟨L6, 1, none⟩ = some (.int .i64 a2) := Hb6i.out.cell 1
            have e2 : wr.cell? ⟨L6 + 1, 0, none⟩ = some (.int .i64 b1) := HB7.out.cell 0
            have e3 : wr.cell? ⟨L6 + 1, 1, none⟩ = some (.int .i64 b2) := HB7.out.cell 1
            have HB3i : Hid (BoxAt wr L3 24 #[.int .i64 lo1, .int .i64 lo2]) := Lib.hid (HB36.out.grown HG.out (by simp; omega))
            have e4 : wr.cell? ⟨L3, 0, none⟩ = some (.int .i64 lo1) := HB3i.out.cell 0
            have e5 : wr.cell? ⟨L3, 1, none⟩ = some (.int .i64 lo2) := HB3i.out.cell 1
            have lt6 := Hb6i.out.lt
            have lt7 := HB7.out.lt
            have lt3 := HB3i.out.lt
            have HRi := Lib.hid (HR6.out.kept HG.out (Or.inr (fun e => by have := HLow.out _ e; omega)))
            obtain ⟨r, hr⟩ : ∃ r, r = decide (j + 1 = m) := ⟨_, rfl⟩
            have HRr := Lib.hid hr
            clear hwb hr
            go_upto_region 19 with fail
            go_cut [98] from 91 to 98 (fun v wz => v = .bool r ∧ Below wr.heap.size wr wz)
            case first =>
              by_cases hjm : j + 1 = m
              · obtain rfl : r = true := by rw [HRr.out]; exact decide_eq_true hjm
                have hbl := HAB.out.2.1 hjm
                have f1 : (b1 == lo1) = true := by simp at hbl; simp [hbl.1]
                have f2 : (b2 == lo2) = true := by simp at hbl; simp [hbl.2]
                clear hbl hjm
                go_wp2
                go_meet
                exact ⟨rfl, Below.refl _ _⟩
              · obtain rfl : r = false := by rw [HRr.out]; exact decide_eq_false hjm
                obtain ⟨hbl, hba⟩ := HAB.out.2.2 (by omega)
                by_cases h1 : b1 = lo1
                · have f1 : (b1 == lo1) = true := by simp [h1]
                  have f2 : (b2 == lo2) = false := by simp; exact fun h => hbl (by rw [h1, h])
                  clear h1
                  by_cases h2 : b1 = a1
                  · have g1 : (b1 == a1) = true := by simp [h2]
                    have g2 : (b2 == a2) = false := by simp; exact fun h => hba (by rw [h2, h])
                    clear h2
                    go_wp2
                    go_meet
                    exact ⟨rfl, Below.refl _ _⟩
                  · have g1 : (b1 == a1) = false := by simp [h2]
                    clear h2
                    go_wp2
                    go_meet
                    exact ⟨rfl, Below.refl _ _⟩
                · have f1 : (b1 == lo1) = false := by simp [h1]
                  clear h1
                  by_cases h2 : b1 = a1
                  · have g1 : (b1 == a1) = true := by simp [h2]
                    have g2 : (b2 == a2) = false := by simp; exact fun h => hba (by rw [h2, h])
                    clear h2
                    go_wp2
                    go_meet
                    exact ⟨rfl, Below.refl _ _⟩
                  · have g1 : (b1 == a1) = false := by simp [h2]
                    clear h2
                    go_wp2
                    go_meet
                    exact ⟨rfl, Below.refl _ _⟩
            case rest =>
              obtain ⟨wz, rfl⟩ : ∃ x : World, x = wc := ⟨_, rfl⟩
              obtain ⟨rfl, hbz⟩ := hcut
              have HRz := Lib.hid (HRi.out.kept (grown_of_below hbz) (Classical.em _))
              have HB3z := Lib.hid (box_step HB3i.out hbz)
              have HB7z := Lib.hid (box_step HB7.out hbz)
              have HBz := Lib.hid (below_step HBi.out hbz)
              clear hbz e0 e1 e2 e3 e4 e5 lt6 lt7 lt3 HRi HB3i HB7 HBi Hb6i HG
              by_cases hjm : j + 1 = m
              · obtain rfl : r = true := by rw [HRr.out]; exact decide_eq_true hjm
                have HRes : Hid (HulAll k X Y V w (.returned (.slice (some ⟨g, 0, none⟩) (j + 1) cv)) wz) := Lib.hid (by
                  refine HGr.out _ Bs wz ?_ HBz.out
                  have h := HRz.out
                  rw [hjm, HF2.out] at h
                  rw [hjm, ← HMl.out]
                  exact h)
                clear hjm
                go_wp2
                exact bodyPost_ret (v := .slice (some ⟨g, 0, none⟩) (j + 1) cv) (by simp [results, Try.results43, go_sem]) rfl HRes.out
              · obtain rfl : r = false := by rw [HRr.out]; exact decide_eq_false hjm
                have hj2 : j + 1 + 1 ≤ m := by omega
                have z2 : wz.cell? ⟨L6 + 1, 0, none⟩ = some (.int .i64 b1) := HB7z.out.cell 0
                have z3 : wz.cell? ⟨L6 + 1, 1, none⟩ = some (.int .i64 b2) := HB7z.out.cell 1
                have z4 := HB7z.out.lt
                have hBsz : Bs ≤ wz.heap.size := by have h1 := HBs.out; have h2 := HB3z.out.lt; omega
                clear hjm
                go_wp2_with (at_builtin; go_loud (refine wpList_append_lies _ rfl _ _ 56 rfl Bs 24 i0_ _ 2 16 Try.underlying56 hI0.out hZ0.out hZ1.out hZ2.out rfl (by decide) (.slice (some ⟨g, 0, none⟩) (j + 1) cv) (j + 1) (ptV (F.take (j + 1))) rfl (HRz.out.alloc _) ⟨wz.heap.size, 0, none⟩ 1 1 [.int .i64 b1, .int .i64 b2] rfl rfl (World.news_of_block (cs := #[.int .i64 b1, .int .i64 b2]) (t := 24) (fr := (0, 0)) (heap_alloc_new wz _)) (by simp [Value.oneCell']) (by decide) (by unfold maxLen; omega) (by omega) (by simp; omega) _ rfl ?_; intro gg cap1 w7 hown7 hgrow hat hlt7))
                have HR8 : Hid (w7.ownsRow Bs 24 2 (.slice (some ⟨gg, 0, none⟩) (j + 1 + 1) cap1) (j + 1 + 1) (ptV (F.take (j + 1 + 1)))) := Lib.hid (by
                  rw [HFn.out, ptV_append]
                  exact hown7)
                have HB8 : Hid (Below w.heap.size w w7) := Lib.hid (by
                  have h1 := below_step HBz.out ((Below.refl _ wz).alloc (Nat.le_refl _) (.cells #[.int .i64 b1, .int .i64 b2] 24))
                  exact h1.grown hgrow h1.size (fun b e => by have h2 := (HRz.out.lt b e).1; have h3 := HBs.out; omega))
                have HB38 : Hid (BoxAt w7 L3 24 #[.int .i64 lo1, .int .i64 lo2]) := Lib.hid ((HB3z.out.alloc _).grown hgrow (fun e => by
                  have h1 := (HRz.out.lt L3 e.symm).1
                  have h2 := HBs.out
                  omega))
                clear hown7 hgrow hat hlt7 z2 z3 z4
                go_roundw
                case rel => exact ⟨j + 1, _, hj2, rfl, rfl, HR8, HB38, HB8⟩
                case measure => simp [lenV]; omega
end Go.Proofs.Ytaehfildhmljeaa
