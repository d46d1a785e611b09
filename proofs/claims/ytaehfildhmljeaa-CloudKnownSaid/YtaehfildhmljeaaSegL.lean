/- 'linked': each point points to the first one of its segment. -/
import Derived.Test.YtaehfildhmljeaaSegC
import Derived.Test.YtaehfildhmljeaaSegI
import Derived.Test.YtaehfildhmljeaaSid2
import Derived.Deep.OwnRows
import Derived.Laws.EntriesVeiled
namespace Go.Proofs.Ytaehfildhmljeaa
open Go.RowKit Go.Shelf

/-- n points lie in block b from offset off on. -/
def Clo (w : World) (b off n : Nat) (X Y V : Nat → Int) : Prop :=
  ∀ i, i < n → w.cell? ⟨b, off + i * 3, none⟩ = some (.int .i64 (X i)) ∧ w.cell? ⟨b, off + i * 3 + 1, none⟩ = some (.int .i64 (Y i)) ∧ w.cell? ⟨b, off + i * 3 + 2, none⟩ = some (.int .i64 (V i))
theorem Clo.lt {w : World} {b off n : Nat} {X Y V : Nat → Int} (h : Clo w b off n X Y V) (hn : 0 < n) : b < w.heap.size := World.block_lt_of_cell? w _ (h 0 hn).1
theorem Clo.below {B : Nat} {w w' : World} {b off n : Nat} {X Y V : Nat → Int} (h : Clo w b off n X Y V) (hb : Below B w w') (hlt : b < B) : Clo w' b off n X Y V :=
  fun i hi => ⟨(hb.cell (p := ⟨b, off + i * 3, none⟩) hlt).trans (h i hi).1, (hb.cell (p := ⟨b, off + i * 3 + 1, none⟩) hlt).trans (h i hi).2.1, (hb.cell (p := ⟨b, off + i * 3 + 2, none⟩) hlt).trans (h i hi).2.2⟩
/-- A slice of n points, wherever it lies. -/
def Cloud (w : World) (A : Option Addr) (n : Nat) (X Y V : Nat → Int) : Prop := 0 < n → ∃ b off, A = some ⟨b, off, none⟩ ∧ Clo w b off n X Y V
theorem Cloud.below {w w' : World} {A : Option Addr} {n : Nat} {X Y V : Nat → Int} (h : Cloud w A n X Y V) (hb : Below w.heap.size w w') : Cloud w' A n X Y V := fun hn => by
  obtain ⟨b, off, e, hp⟩ := h hn
  exact ⟨b, off, e, hp.below hb (hp.lt hn)⟩
def lnkF (X Y : Nat → Int) (gap : Int) (i k : Nat) : Bool := seesF (X i, Y i) (X k, Y k) gap
def LinkPost (X Y : Nat → Int) (gap : Int) (n : Nat) (w : World) (e : Ending) (w' : World) : Prop :=
  ∃ g Lb Lr cp B, e = .returned (.func (.func 114) #[] #[.pointer (some ⟨Lb, 0, none⟩), .pointer (some ⟨Lr, 0, none⟩)]) ∧ NatAt w' g n B ∧ Dn B n ∧ Lab (lnkF X Y gap) n (rt B) ∧
    BoxAt w' Lb 41 #[.slice (some ⟨g, 0, none⟩) n cp] ∧ BoxAt w' Lr 100 #[.func (.func 114) #[] #[.pointer (some ⟨Lb, 0, none⟩), .pointer (some ⟨Lr, 0, none⟩)]] ∧ g ≠ Lb ∧ g ≠ Lr ∧ w.heap.size ≤ g ∧ Below w.heap.size w w'

theorem NatAt.alloc {w : World} {g n : Nat} {F : Nat → Nat} (h : NatAt w g n F) (o : Obj) : NatAt (w.alloc o) g n F := h.below ((Below.refl _ w).alloc (Nat.le_refl _) o)
theorem nat_made (w : World) (n : Nat) : NatAt (w.alloc (.cells (madeCells #[.int .i64 0] n) 3)) w.heap.size n (fun _ => 0) :=
  ⟨_, BoxAt.new w 3 _, by simp [size_madeCells], fun i hi => by
    have h := toList_madeCells_one (.int .i64 0) n
    rw [← Array.getElem?_toList, h, List.getElem?_replicate, if_pos hi]
    rfl⟩
theorem spot_any (x y v : Int) (w : World) : Calls Try.prog 64 #[.agg #[.int .i64 x, .int .i64 y, .int .i64 v]] w fun e w' => e = .returned (sp x y) ∧ Below w.heap.size w w' := by
  go_enter Try.func64, Try.ntmps64
  go_wp2
  exact bodyPost_ret (v := sp x y) (by simp [results, Try.results64, go_sem]) rfl ⟨rfl, by
    repeat (first | exact Below.refl _ _ | refine Below.setCell ?_ (by first | omega | (simp; omega) | simp) _ | refine Below.alloc ?_ (by first | omega | (simp; omega) | simp) _)⟩
theorem sees_raw (a1 a2 b1 b2 v : Int) (r : Bool) (w : World) (hr : Hid (seesF (a1, a2) (b1, b2) v = r)) :
    Calls Try.prog 74 #[sp a1 a2, sp b1 b2, .int .i64 v] w fun e w' => e = .returned (.bool r) ∧ Below w.heap.size w w' := sees_any (a1, a2) (b1, b2) v r w hr
theorem dsq_sym (a b : Pt) : dsq a b = dsq b a := by unfold dsq; grind
theorem lnkF_sym (X Y : Nat → Int) (gap : Int) (i k : Nat) : lnkF X Y gap i k = lnkF X Y gap k i := by
  unfold lnkF seesF
  rw [dsq_sym]
  cases vp (X i, Y i) <;> cases vp (X k, Y k) <;> rfl
theorem Try.info3 : (Try.prog.info? 3).map (fun i => (i.zero, i.size, i.bytes)) = some (some (.int .i64 0), 1, 8) := by kernel_rfl

set_option maxRecDepth 100000 in
set_option maxHeartbeats 8000000 in
theorem linked_any (A : Option Addr) (n cap : Nat) (X Y V : Nat → Int) (gap : Int) (hc : n ≤ cap) (hn : n ≤ 1000) (w : World) (hcl : Cloud w A n X Y V) :
    Calls Try.prog 80 #[.slice A n cap, .int .i64 gap] w (LinkPost X Y gap n w) := by
  have hmf : ∀ fn first cap W, (Instr.makeFunc fn first cap).run Try.prog W = .ok (.func fn first cap) W := fun _ _ _ _ => rfl
  have hmk := fun W => run_make_row' (P := Try.prog) 41 3 (.int .i64 0) 8 Try.underlying41 Try.info3 rfl .i64 .i64 n (by omega) (by omega) W
  have n0 : (0 : Int) ≤ (n : Int) := Int.natCast_nonneg _
  go_enter Try.func80, Try.ntmps80
  go_upto_region 3 with fail
  have hA0 := ((nat_made w n).alloc (.cells #[.slice (some ⟨w.heap.size, 0, none⟩) n n] 41)).alloc (.cells #[.nilFunc] 100)
  have hb0 := (BoxAt.new (w.alloc (.cells (madeCells #[.int .i64 0] n) 3)) 41 #[.slice (some ⟨w.heap.size, 0, none⟩) n n]).alloc (.cells #[.nilFunc] 100)
  have hr0 := BoxAt.new ((w.alloc (.cells (madeCells #[.int .i64 0] n) 3)).alloc (.cells #[.slice (some ⟨w.heap.size, 0, none⟩) n n] 41)) 100 #[.nilFunc]
  have hB : Below w.heap.size w (((w.alloc (.cells (madeCells #[.int .i64 0] n) 3)).alloc (.cells #[.slice (some ⟨w.heap.size, 0, none⟩) n n] 41)).alloc (.cells #[.nilFunc] 100)) := (((Below.refl _ w).alloc (Nat.le_refl _) _).alloc (by simp) _).alloc (by simp; omega) _
  simp only [World.size_alloc] at hb0 hr0
  generalize ((w.alloc (.cells (madeCells #[.int .i64 0] n) 3)).alloc (.cells #[.slice (some ⟨w.heap.size, 0, none⟩) n n] 41)).alloc (.cells #[.nilFunc] 100) = w3 at *
  have k0 : w3.cell? ⟨w.heap.size + 1 + 1, 0, none⟩ = some .nilFunc := hr0.cell 0
  have k1 : w3.frozen? ⟨w.heap.size + 1 + 1, 0, none⟩ = false := hr0.frozen 0
  have k2 := hr0.lt
  go_upto_region 4 with fail
  have hA1 := hA0.other (h := w.heap.size + 1 + 1) (by omega) 0 (.func (.func 114) #[] #[.pointer (some ⟨w.heap.size + 1, 0, none⟩), .pointer (some ⟨w.heap.size + 1 + 1, 0, none⟩)])
  have hb1 := hb0.other (g' := w.heap.size + 1 + 1) (by omega) 0 (.func (.func 114) #[] #[.pointer (some ⟨w.heap.size + 1, 0, none⟩), .pointer (some ⟨w.heap.size + 1 + 1, 0, none⟩)])
  have hr1 : BoxAt (w3.setCell ⟨w.heap.size + 1 + 1, 0, none⟩ (.func (.func 114) #[] #[.pointer (some ⟨w.heap.size + 1, 0, none⟩), .pointer (some ⟨w.heap.size + 1 + 1, 0, none⟩)])) (w.heap.size + 1 + 1) 100 #[.func (.func 114) #[] #[.pointer (some ⟨w.heap.size + 1, 0, none⟩), .pointer (some ⟨w.heap.size + 1 + 1, 0, none⟩)]] := hr0.set 0 _
  replace hB := hB.setCell (p := ⟨w.heap.size + 1 + 1, 0, none⟩) (by simp; omega) (.func (.func 114) #[] #[.pointer (some ⟨w.heap.size + 1, 0, none⟩), .pointer (some ⟨w.heap.size + 1 + 1, 0, none⟩)])
  obtain ⟨g, hg⟩ : ∃ z, z = w.heap.size := ⟨_, rfl⟩
  rw [← hg] at hA1 hb1 hr1 ⊢
  have hgl : w.heap.size ≤ g := by omega
  obtain ⟨Lb, hLb⟩ : ∃ z, z = g + 1 := ⟨_, rfl⟩
  rw [← hLb] at hA1 hb1 hr1 ⊢
  have n1 : g ≠ Lb := by omega
  have g1 : w.heap.size ≤ Lb := by omega
  obtain ⟨Lr, hLr⟩ : ∃ z, z = Lb + 1 := ⟨_, rfl⟩
  rw [← hLr] at hA1 hb1 hr1 ⊢
  have n2 : g ≠ Lr := by omega
  have g2 : w.heap.size ≤ Lr := by omega
  have hBB : Below w.heap.size w (w3.setCell ⟨Lr, 0, none⟩ (.func (.func 114) #[] #[.pointer (some ⟨Lb, 0, none⟩), .pointer (some ⟨Lr, 0, none⟩)])) := by
    rw [hLr, hLb, hg]; exact hB
  clear hB hA0 hb0 hr0 k0 k1 k2 hmk hmf hLr hLb hg
  generalize w3.setCell ⟨Lr, 0, none⟩ (.func (.func 114) #[] #[.pointer (some ⟨Lb, 0, none⟩), .pointer (some ⟨Lr, 0, none⟩)]) = w4 at *
  have HCL := Lib.hid hcl
  have I : ∃ (i : Nat) (B : Nat → Nat), i ≤ n ∧ (Value.int .i64 0) = .int .i64 i ∧ Hid (NatAt w4 g n B) ∧ Hid (Inv (lnkF X Y gap) n i B) ∧ Hid (BoxAt w4 Lb 41 #[.slice (some ⟨g, 0, none⟩) n n]) ∧ Hid (BoxAt w4 Lr 100 #[.func (.func 114) #[] #[.pointer (some ⟨Lb, 0, none⟩), .pointer (some ⟨Lr, 0, none⟩)]]) ∧ Hid (Below w.heap.size w w4) :=
    ⟨0, _, Nat.zero_le _, rfl, Lib.hid hA1, Lib.hid (Inv.none _ _ _), Lib.hid hb1, Lib.hid hr1, Lib.hid hBB⟩
  clear hcl hA1 hb1 hr1 hBB
  go_wp2
  go_loopw [19] (fun v wr => ∃ (i : Nat) (B : Nat → Nat), i ≤ n ∧ v = .int .i64 i ∧ Hid (NatAt wr g n B) ∧ Hid (Inv (lnkF X Y gap) n i B) ∧ Hid (BoxAt wr Lb 41 #[.slice (some ⟨g, 0, none⟩) n n]) ∧ Hid (BoxAt wr Lr 100 #[.func (.func 114) #[] #[.pointer (some ⟨Lb, 0, none⟩), .pointer (some ⟨Lr, 0, none⟩)]]) ∧ Hid (Below w.heap.size w wr)) (fun v _ => n + 1 - (intOf v).toNat)
  case atStart => exact I
  case round =>
    clear I
    obtain ⟨i, B, hi, rfl, HA, HI, HBB, HBR, HB⟩ := hrel
    by_cases hlt : i < n
    · obtain ⟨b, off, e, hcl⟩ := HCL.out (by omega)
      subst e
      have i0 : (0 : Int) ≤ (i : Int) := Int.natCast_nonneg _
      have i1 : (i : Int) < (n : Int) := by omega
      have i2 : (i : Int) ≤ (cap : Int) := by omega
      have hbl : b < w.heap.size := hcl.lt (by omega)
      have HC : Hid (∀ W, Below w.heap.size w W → Clo W b off n X Y V) := Lib.hid (fun W hW => hcl.below hW hbl)
      obtain ⟨c0, c1, c2⟩ := HC.out wr HB.out i hlt
      have c3 : wr.cell? ⟨Lb, 0, none⟩ = some (.slice (some ⟨g, 0, none⟩) n n) := BoxAt.cell HBB.out 0
      have l1 := BoxAt.lt HBB.out
      have c4 : wr.cell? ⟨g, i, none⟩ = some (.int .i64 (B i)) := NatAt.cell HA.out hlt
      have c5 : wr.frozen? ⟨g, i, none⟩ = false := NatAt.frozen HA.out i
      have l2 := NatAt.lt HA.out
      have l3 : b < wr.heap.size := Nat.lt_of_lt_of_le hbl HB.out.size
      clear hcl
      go_upto_region 8 with fail
      have HA2 := Lib.hid ((NatAt.set HA.out i i).alloc (.cells #[.int .i64 (X i), .int .i64 (Y i), .int .i64 (V i)] 69))
      have HI2 := Lib.hid (Inv.start HI.out)
      have HBB2 := Lib.hid ((BoxAt.other HBB.out (Ne.symm n1) i (.int .i64 i)).alloc (.cells #[.int .i64 (X i), .int .i64 (Y i), .int .i64 (V i)] 69))
      have HBR2 := Lib.hid ((BoxAt.other HBR.out (Ne.symm n2) i (.int .i64 i)).alloc (.cells #[.int .i64 (X i), .int .i64 (Y i), .int .i64 (V i)] 69))
      have hzz := HB.out.size
      have HB2 := Lib.hid (((HB.out).setCell (p := ⟨g, i, none⟩) hgl (.int .i64 i)).alloc (by simp; omega) (.cells #[.int .i64 (X i), .int .i64 (Y i), .int .i64 (V i)] 69))
      have HP2 : Hid (BoxAt ((wr.setCell ⟨g, i, none⟩ (.int .i64 i)).alloc (.cells #[.int .i64 (X i), .int .i64 (Y i), .int .i64 (V i)] 69)) wr.heap.size 69 #[.int .i64 (X i), .int .i64 (Y i), .int .i64 (V i)]) := Lib.hid (box_at (by simp) _ _)
      obtain ⟨Lp, hLp⟩ : ∃ z, z = wr.heap.size := ⟨_, rfl⟩
      rw [← hLp] at HP2 ⊢
      have n3 : g ≠ Lp := by omega
      obtain ⟨wo, rfl⟩ : ∃ x : World, x = wr := ⟨_, rfl⟩
      clear c0 c1 c2 c3 c4 c5 l1 l2 l3 hLp hzz HA HI HBB HBR HB
      generalize (wo.setCell ⟨g, i, none⟩ (.int .i64 i)).alloc (.cells #[.int .i64 (X i), .int .i64 (Y i), .int .i64 (V i)] 69) = wx at *
      have I : ∃ (j : Nat) (B' : Nat → Nat), j ≤ i ∧ (Value.int .i64 0) = .int .i64 j ∧ Hid (NatAt wx g n B') ∧ Hid (InvIn (lnkF X Y gap) n i j B') ∧ Hid (BoxAt wx Lb 41 #[.slice (some ⟨g, 0, none⟩) n n]) ∧ Hid (BoxAt wx Lr 100 #[.func (.func 114) #[] #[.pointer (some ⟨Lb, 0, none⟩), .pointer (some ⟨Lr, 0, none⟩)]]) ∧ Hid (BoxAt wx Lp 69 #[.int .i64 (X i), .int .i64 (Y i), .int .i64 (V i)]) ∧ Hid (Below w.heap.size w wx) :=
        ⟨0, _, Nat.zero_le _, rfl, HA2, HI2, HBB2, HBR2, HP2, HB2⟩
      clear HA2 HI2 HBB2 HBR2 HP2 HB2
      go_wp2
      go_loopw [32] (fun v wr => ∃ (j : Nat) (B' : Nat → Nat), j ≤ i ∧ v = .int .i64 j ∧ Hid (NatAt wr g n B') ∧ Hid (InvIn (lnkF X Y gap) n i j B') ∧ Hid (BoxAt wr Lb 41 #[.slice (some ⟨g, 0, none⟩) n n]) ∧ Hid (BoxAt wr Lr 100 #[.func (.func 114) #[] #[.pointer (some ⟨Lb, 0, none⟩), .pointer (some ⟨Lr, 0, none⟩)]]) ∧ Hid (BoxAt wr Lp 69 #[.int .i64 (X i), .int .i64 (Y i), .int .i64 (V i)]) ∧ Hid (Below w.heap.size w wr)) (fun v _ => i + 1 - (intOf v).toNat)
      case atStart => exact I
      case round =>
        clear I
        obtain ⟨j, B', hj, rfl, HA, HI, HBB, HBR, HP, HB⟩ := hrel
        by_cases hltj : j < i
        · have j0 : (0 : Int) ≤ (j : Int) := Int.natCast_nonneg _
          have j1 : (j : Int) < (i : Int) := by omega
          obtain ⟨c0, c1, c2⟩ := HC.out wr HB.out j (by omega)
          have l3 : b < wr.heap.size := Nat.lt_of_lt_of_le hbl HB.out.size
          go_upto_region 11 with fail
          have hw2 : Below wr.heap.size wr (wr.alloc (.cells #[.int .i64 (X j), .int .i64 (Y j), .int .i64 (V j)] 69)) := (Below.refl _ wr).alloc (Nat.le_refl _) _
          have HA2 := Lib.hid (NatAt.alloc HA.out (.cells #[.int .i64 (X j), .int .i64 (Y j), .int .i64 (V j)] 69))
          have HBB2 := Lib.hid (box_step HBB.out hw2)
          have HBR2 := Lib.hid (box_step HBR.out hw2)
          have HP2 := Lib.hid (box_step HP.out hw2)
          have HB2 := Lib.hid (below_step HB.out hw2)
          have hq := BoxAt.new wr 69 #[.int .i64 (X j), .int .i64 (Y j), .int .i64 (V j)]
          obtain ⟨Lq, hLq⟩ : ∃ z, z = wr.heap.size := ⟨_, rfl⟩
          rw [← hLq] at hq ⊢
          obtain ⟨wi, rfl⟩ : ∃ x : World, x = wr := ⟨_, rfl⟩
          clear c0 c1 c2 l3 hw2 HA HBB HBR HP HB hLq
          generalize wi.alloc (.cells #[.int .i64 (X j), .int .i64 (Y j), .int .i64 (V j)] 69) = wy at *
          have k0 : wy.cell? ⟨Lp, 0, none⟩ = some (.int .i64 (X i)) := BoxAt.cell HP2.out 0
          have k1 : wy.cell? ⟨Lp, 1, none⟩ = some (.int .i64 (Y i)) := BoxAt.cell HP2.out 1
          have k2 : wy.cell? ⟨Lp, 2, none⟩ = some (.int .i64 (V i)) := BoxAt.cell HP2.out 2
          have k3 : wy.cell? ⟨Lq, 0, none⟩ = some (.int .i64 (X j)) := hq.cell 0
          have k4 : wy.cell? ⟨Lq, 1, none⟩ = some (.int .i64 (Y j)) := hq.cell 1
          have k5 : wy.cell? ⟨Lq, 2, none⟩ = some (.int .i64 (V j)) := hq.cell 2
          have l1 := BoxAt.lt HP2.out
          have l2 := hq.lt
          have HQ := Lib.hid hq
          have HPQ : Hid (∀ W, Below wy.heap.size wy W → W.cell? ⟨Lp, 0, none⟩ = some (.int .i64 (X i)) ∧ W.cell? ⟨Lp, 1, none⟩ = some (.int .i64 (Y i)) ∧ W.cell? ⟨Lp, 2, none⟩ = some (.int .i64 (V i)) ∧ W.cell? ⟨Lq, 0, none⟩ = some (.int .i64 (X j)) ∧ W.cell? ⟨Lq, 1, none⟩ = some (.int .i64 (Y j)) ∧ W.cell? ⟨Lq, 2, none⟩ = some (.int .i64 (V j))) := Lib.hid (fun W hW => ⟨(box_step HP2.out hW).cell 0, (box_step HP2.out hW).cell 1, (box_step HP2.out hW).cell 2, (box_step HQ.out hW).cell 0, (box_step HQ.out hW).cell 1, (box_step HQ.out hW).cell 2⟩)
          obtain ⟨r, hr⟩ : ∃ r, r = lnkF X Y gap i j := ⟨_, rfl⟩
          have HS : Hid (seesF (X i, Y i) (X j, Y j) gap = r) := Lib.hid hr.symm
          have HR := Lib.hid hr
          clear hq hr
          go_cut [43] from 37 to 43 (fun v wz => v = .bool (!r) ∧ Below wy.heap.size wy wz)
          case first =>
            have hBx : Below wy.heap.size wy wy.drew := (Below.refl _ _).drew
            go_region_held3 (fun w' => w'.cell? ⟨Lp, 0, none⟩ = some (.int .i64 (X i)) ∧ w'.cell? ⟨Lp, 1, none⟩ = some (.int .i64 (Y i)) ∧ w'.cell? ⟨Lp, 2, none⟩ = some (.int .i64 (V i)) ∧ w'.cell? ⟨Lq, 0, none⟩ = some (.int .i64 (X j)) ∧ w'.cell? ⟨Lq, 1, none⟩ = some (.int .i64 (Y j)) ∧ w'.cell? ⟨Lq, 2, none⟩ = some (.int .i64 (V j)))
              (first | exact HPQ.out _ hBx | go_keep)
              (first
                | (go_at_call 64; (with_reducible refine (spot_any _ _ _ _).mono ?_); rintro e wa ⟨rfl, hba⟩; replace hBx := below_step hBx hba)
                | (go_at_call 74; (with_reducible refine (sees_raw _ _ _ _ _ r _ HS).mono ?_); rintro e wb ⟨rfl, hbb⟩; replace hBx := below_step hBx hbb))
            all_goals go_wp2
            all_goals go_meet
            all_goals exact ⟨rfl, hBx⟩
          case rest =>
            obtain ⟨wz, rfl⟩ : ∃ x : World, x = wc := ⟨_, rfl⟩
            obtain ⟨rfl, hbz⟩ := hcut
            have HA3 := Lib.hid (NatAt.below HA2.out hbz)
            have HBB3 := Lib.hid (box_step HBB2.out hbz)
            have HBR3 := Lib.hid (box_step HBR2.out hbz)
            have HP3 := Lib.hid (box_step HP2.out hbz)
            have HB3 := Lib.hid (below_step HB2.out hbz)
            clear k0 k1 k2 k3 k4 k5 l1 l2 HPQ HA2 HBB2 HBR2 HP2 HB2 HQ HS hbz
            cases r with
            | false =>
              have hI := Lib.hid (InvIn.skip HI.out HR.out.symm)
              go_wp2
              go_roundw
              case rel => exact ⟨j + 1, B', by omega, by go_num, HA3, hI, HBB3, HBR3, HP3, HB3⟩
              case measure => simp [intOf]; omega
            | true =>
              have c3 : wz.cell? ⟨Lr, 0, none⟩ = some (.func (.func 114) #[] #[.pointer (some ⟨Lb, 0, none⟩), .pointer (some ⟨Lr, 0, none⟩)]) := BoxAt.cell HBR3.out 0
              have l1 := BoxAt.lt HBR3.out
              go_upto_region 12 with fail
              have R1 : Hid (∀ W k B, k < i + 1 → Dn B (i + 1) → NatAt W g n B → BoxAt W Lb 41 #[.slice (some ⟨g, 0, none⟩) n n] → BoxAt W Lr 100 #[.func (.func 114) #[] #[.pointer (some ⟨Lb, 0, none⟩), .pointer (some ⟨Lr, 0, none⟩)]] → Calls Try.prog 114 #[.int .i64 ((k : Nat) : Int), .pointer (some ⟨Lb, 0, none⟩), .pointer (some ⟨Lr, 0, none⟩)] W (RootPost B n (i + 1) k g W)) := Lib.hid (fun W k B h1 h2 h3 h4 h5 => root_any g Lb Lr n n (i + 1) (by omega) (by omega) k B W h1 h2 h3 h4 h5 n1 n2)
              have HL := Lib.hid (fun W (hW : Only wz W g) => BoxAt.grown HBR3.out hW (by simpa using Ne.symm n2))
              have HLB := Lib.hid (fun W (hW : Only wz W g) => BoxAt.grown HBB3.out hW (by simpa using Ne.symm n1))
              have ki : i < i + 1 := by omega
              have kj : j < i + 1 := by omega
              go_cut [11, 12] from 44 to 49 (fun v v2 wq => v = .int .i64 ((rt B' i : Nat) : Int) ∧ v2 = .int .i64 ((rt B' j : Nat) : Int) ∧ ∃ B2, NatAt wq g n B2 ∧ Dn B2 (i + 1) ∧ (∀ k, k < i + 1 → rt B2 k = rt B' k) ∧ Only wz wq g)
              case first =>
                have hOx := only_drew wz g
                have HAx := Lib.hid (NatAt.drew HA3.out)
                have HDx := Lib.hid (InvIn.dn HI.out)
                go_region_held3 (fun w' => w'.cell? ⟨Lr, 0, none⟩ = some (.func (.func 114) #[] #[.pointer (some ⟨Lb, 0, none⟩), .pointer (some ⟨Lr, 0, none⟩)]))
                  (first | exact (HL.out _ hOx).cell 0 | go_keep)
                  (first
                    | (go_at_call 114; (with_reducible refine (R1.out _ i _ ki HDx.out HAx.out (HLB.out _ hOx) (HL.out _ hOx)).mono ?_); rintro e wa ⟨Ba, rfl, hAa, hda, hra, _, hoa⟩; have HAa := Lib.hid hAa; have HRa := Lib.hid hra; clear hAa hra; replace hOx := only_trans hOx hoa)
                    | (go_at_call 114; (with_reducible refine (R1.out _ j _ kj hda HAa.out (HLB.out _ hOx) (HL.out _ hOx)).mono ?_); rintro e wb ⟨Bb, rfl, hAb, hdb, hrb, _, hob⟩; have HAb := Lib.hid hAb; have HRb := Lib.hid hrb; clear hAb hrb; replace hOx := only_trans hOx hob))
                all_goals go_wp2
                all_goals go_meet
                all_goals exact ⟨rfl, by rw [HRa.out j kj], Bb, HAb.out, hdb, fun k hk => (HRb.out k hk).trans (HRa.out k hk), hOx⟩
              case rest =>
                obtain ⟨wq, rfl⟩ : ∃ x : World, x = wc := ⟨_, rfl⟩
                obtain ⟨rfl, rfl, B2, hA4, hd4, hr4, hoq⟩ := hcut
                have HA4 := Lib.hid hA4
                have hI4 := InvIn.same HI.out (by omega) hd4 hr4
                have HBB4 := Lib.hid (HLB.out _ hoq)
                have HBR4 := Lib.hid (HL.out _ hoq)
                have HP4 := Lib.hid (BoxAt.grown HP3.out hoq (by simpa using Ne.symm n3))
                have HB4 : Hid (Below w.heap.size w wq) := Lib.hid (HB3.out.trans ⟨hoq.os, hoq.tape, hoq.output, hoq.size, fun q hq => hoq.block q (Nat.lt_of_lt_of_le hq HB3.out.size) (fun e => (by have : q = g := (by simpa using e); omega))⟩)
                have e1 := hr4 i ki
                have e2 := hr4 j kj
                have m1 := (rt_ok hd4 i ki).1
                have m2 := (rt_ok hd4 j kj).1
                rw [← e1, ← e2]
                have hjn := fun M N h => InvIn.join hI4 hltj hlt HR.out.symm (M := M) (N := N) h
                obtain ⟨ra, hra⟩ : ∃ z, z = rt B2 i := ⟨_, rfl⟩
                obtain ⟨rb, hrb⟩ : ∃ z, z = rt B2 j := ⟨_, rfl⟩
                rw [← hra, ← hrb] at hjn
                rw [← hra] at m1 ⊢
                rw [← hrb] at m2 ⊢
                have HJ := Lib.hid hjn
                have c3 : wq.cell? ⟨Lb, 0, none⟩ = some (.slice (some ⟨g, 0, none⟩) n n) := BoxAt.cell HBB4.out 0
                have l1 := BoxAt.lt HBB4.out
                have l2 := NatAt.lt HA4.out
                have hzq := HB4.out.size
                clear hra hrb e1 e2 hjn hI4 hA4 hd4 hr4 hoq HL HLB HBB3 HBR3 HP3 HA3 HB3 HI HR R1
                have r0 : (0 : Int) ≤ (ra : Int) := Int.natCast_nonneg _
                have r1 : (0 : Int) ≤ (rb : Int) := Int.natCast_nonneg _
                have r2 : (ra : Int) < (n : Int) := by omega
                have r3 : (rb : Int) < (n : Int) := by omega
                rcases Nat.lt_or_ge ra rb with hlr | hlr
                · have y1 : (ra : Int) < (rb : Int) := by omega
                  have y2 : ¬ (rb : Int) < (ra : Int) := by omega
                  have c4 : wq.frozen? ⟨g, rb, none⟩ = false := NatAt.frozen HA4.out rb
                  have c5 : wq.cell? ⟨g, rb, none⟩ = some (.int .i64 (B2 rb)) := NatAt.cell HA4.out (by omega)
                  have hI5 := Lib.hid (HJ.out rb ra (Or.inr ⟨rfl, rfl, by omega⟩))
                  go_wp2
                  go_roundw
                  case rel => exact ⟨j + 1, _, by omega, by go_num, Lib.hid (NatAt.set HA4.out rb ra), hI5, Lib.hid (BoxAt.other HBB4.out (Ne.symm n1) _ _), Lib.hid (BoxAt.other HBR4.out (Ne.symm n2) _ _), Lib.hid (BoxAt.other HP4.out (Ne.symm n3) _ _), Lib.hid (HB4.out.setCell (p := ⟨g, rb, none⟩) hgl _)⟩
                  case measure => simp [intOf]; omega
                · rcases Nat.lt_or_ge rb ra with hlr2 | hlr2
                  · have y2 : (rb : Int) < (ra : Int) := by omega
                    have hI5 := Lib.hid (HJ.out ra rb (Or.inl ⟨rfl, rfl, by omega⟩))
                    have y1 : ¬ (ra : Int) < (rb : Int) := by omega
                    have c4 : wq.frozen? ⟨g, ra, none⟩ = false := NatAt.frozen HA4.out ra
                    have c5 : wq.cell? ⟨g, ra, none⟩ = some (.int .i64 (B2 ra)) := NatAt.cell HA4.out (by omega)
                    go_wp2
                    go_roundw
                    case rel => exact ⟨j + 1, _, by omega, by go_num, Lib.hid (NatAt.set HA4.out ra rb), hI5, Lib.hid (BoxAt.other HBB4.out (Ne.symm n1) _ _), Lib.hid (BoxAt.other HBR4.out (Ne.symm n2) _ _), Lib.hid (BoxAt.other HP4.out (Ne.symm n3) _ _), Lib.hid (HB4.out.setCell (p := ⟨g, ra, none⟩) hgl _)⟩
                    case measure => simp [intOf]; omega
                  · have y2 : ¬ (rb : Int) < (ra : Int) := by omega
                    have hI5 := Lib.hid (HJ.out ra ra (Or.inl ⟨rfl, by omega, by omega⟩))
                    have y1 : ¬ (ra : Int) < (rb : Int) := by omega
                    have c4 : wq.frozen? ⟨g, ra, none⟩ = false := NatAt.frozen HA4.out ra
                    have c5 : wq.cell? ⟨g, ra, none⟩ = some (.int .i64 (B2 ra)) := NatAt.cell HA4.out (by omega)
                    go_wp2
                    go_roundw
                    case rel => exact ⟨j + 1, _, by omega, by go_num, Lib.hid (NatAt.set HA4.out ra ra), hI5, Lib.hid (BoxAt.other HBB4.out (Ne.symm n1) _ _), Lib.hid (BoxAt.other HBR4.out (Ne.symm n2) _ _), Lib.hid (BoxAt.other HP4.out (Ne.symm n3) _ _), Lib.hid (HB4.out.setCell (p := ⟨g, ra, none⟩) hgl _)⟩
                    case measure => simp [intOf]; omega
        · obtain rfl : j = i := by omega
          have j1 : ¬ (j : Int) < (j : Int) := by omega
          have hI := Lib.hid (InvIn.done HI.out)
          go_wp2
          go_roundw
          case rel => exact ⟨j + 1, B', by omega, by go_num, HA, hI, HBB, HBR, HB⟩
          case measure => simp [intOf]; omega
    · obtain rfl : i = n := by omega
      have c3 : wr.cell? ⟨Lr, 0, none⟩ = some (.func (.func 114) #[] #[.pointer (some ⟨Lb, 0, none⟩), .pointer (some ⟨Lr, 0, none⟩)]) := BoxAt.cell HBR.out 0
      have l1 := BoxAt.lt HBR.out
      have i1 : ¬ (i : Int) < (i : Int) := by omega
      go_wp2
      go_ret
      exact ⟨g, Lb, Lr, i, B, rfl, HA.out, HI.out.dn, Inv.lab HI.out (lnkF_sym X Y gap), HBB.out, HBR.out, n1, n2, hgl, HB.out⟩
end Go.Proofs.Ytaehfildhmljeaa
