/- Candidates. -/
import Derived.Test.YtcoccfijikiamaaVldM
import Derived.Test.YtcoccfijikiamaaPrf
namespace Go.Proofs.Ytcoccfijikiamaa
open Go.RowKit Go.Shelf

theorem clp20 (x : Int) : (clp x 0 20).toNat ≤ 20 := by unfold clp; omega
theorem profile_good (c : Car) (hc : c.ok) (Aq : Option Addr) (cq : Nat) (q : List Int) (last v up hold : Int) (w : World) (hq : NumL w Aq q) (hqc : q.length ≤ cq) (hqm : q.length ≤ 1000000) (hqi : ∀ x ∈ q, I64 x) (hv : I64 v) :
    Calls Try.prog 28 #[cv c, .slice Aq q.length cq, iv last, iv v, iv up, iv hold] w fun e w' => ∃ p A N cap, Good c q last v p ∧ N = p.length ∧ e = .returned (pv A N cap) ∧ RowB w' (.slice A N cap) p ∧ Below w.heap.size w w' :=
  (profile_any c hc Aq cq q last v up hold w hq hqc hqm hqi hv).mono fun e w' ⟨n, A, N, cap, h1, h2, h3, _, h5, h6⟩ =>
    ⟨_, A, N, cap, ⟨_, _, n, clp20 up, clp20 hold, h1, rfl⟩, h2, h3, h5, h6⟩
set_option maxRecDepth 100000 in
set_option maxHeartbeats 8000000 in
theorem cands_any (c : Car) (hc : c.ok) (Aq : Option Addr) (cq : Nat) (q : List Int) (last v : Int) (w : World) (hq : NumL w Aq q) (hqc : q.length ≤ cq) (hqm : q.length ≤ 1000000) (hqi : ∀ x ∈ q, I64 x) (hv : I64 v) :
    Calls Try.prog 27 #[cv c, .slice Aq q.length cq, iv last, iv v] w fun e w' => ∃ (C : Option Addr) (cap : Nat) (ps : List (List Int)), e = .returned (.slice C 8 cap) ∧ ps.length = 8 ∧ (∀ p ∈ ps, Good c q last v p) ∧ OwnP w' w.heap.size (.slice C 8 cap) ps ∧ Below w.heap.size w w' := by
  have HC := Lib.hid (fun W => car_any c W)
  rw [carE_ok hc] at HC
  have HP := Lib.hid (fun (up hold : Int) W (h : NumL W Aq q) => profile_good c hc Aq cq q last v up hold W h hqc hqm hqi hv)
  have HQ := Lib.hid hq
  generalize q.length = Nq at *
  have hB : Below w.heap.size w (w.alloc (.cells #[iv c.len, iv c.acc, iv c.brk, iv c.rate, iv c.del] 23)) := (Below.refl _ w).alloc (Nat.le_refl _) _
  have HX := Lib.hid (BoxAt.new w 23 #[iv c.len, iv c.acc, iv c.brk, iv c.rate, iv c.del])
  obtain ⟨i0_, hi0, hz0, hz1, hz2⟩ := info_parts inf26
  have HI0 := Lib.hid hi0
  have HZ0 := Lib.hid hz0
  have HZ1 := Lib.hid hz1
  have HZ2 := Lib.hid hz2
  clear hc hq hqi hv hi0 hz0 hz1 hz2
  go_enter Try.func27, Try.ntmps27
  go_upto_region 3 with (go_at_call 8; (with_reducible refine (HC.out _).mono ?_); rintro e w1 ⟨rfl, hb1⟩)
  have HB1 := Lib.hid (below_step hB hb1)
  have HX1 := Lib.hid (HX.out.below hb1 HX.out.lt)
  clear hb1 hB HX HC
  go_wp2
  go_loopw [9, 24] (fun ov kv wr => ∃ (k : Nat) (ps : List (List Int)), kv = iv k ∧ k ≤ 8 ∧ ps.length = k ∧ Hid (∀ p ∈ ps, Good c q last v p) ∧ Hid (OwnP wr w.heap.size ov ps) ∧ Hid (Below w.heap.size w wr) ∧ Hid (BoxAt wr w.heap.size 23 #[iv c.len, iv c.acc, iv c.brk, iv c.rate, iv c.del])) (fun _ kv _ => 8 - (intOf kv).toNat)
  case atStart => exact ⟨0, [], rfl, by decide, rfl, Lib.hid (fun p h => by cases h), Lib.hid (OwnP.nil _ _), HB1, HX1⟩
  case round =>
    obtain ⟨k, ps, rfl, hk, hpl, HG, HO, HBr, HXr⟩ := hrel
    have k0 : (0 : Int) ≤ (k : Int) := Int.natCast_nonneg _
    obtain ⟨Ao, co, hov⟩ := HO.out.form
    subst hov
    rw [hpl] at HO ⊢
    by_cases hlt : k < 8
    · have k1 : (k : Int) < 8 := by omega
      go_upto_region 6 with fail
      go_cut [11] from 26 to 26 (fun p w' => p = .pointer (some ⟨wr.heap.size, 0, none⟩) ∧ ∃ a b : Int, w' = wr.alloc (.cells #[iv a, iv b] 59))
      case first =>
        rcases (show k = 0 ∨ k = 1 ∨ k = 2 ∨ k = 3 ∨ k = 4 ∨ k = 5 ∨ k = 6 ∨ k = 7 by omega) with rfl | rfl | rfl | rfl | rfl | rfl | rfl | rfl
        · have hi : ∀ W, Sem.run Try.prog (Instr.index 60 (.agg #[iv 6, iv 4, iv 6, iv 0, iv 3, iv 4, iv 3, iv 0, iv 1, iv 4, iv 1, iv 0, iv 0, iv 4, iv 0, iv 0]) (.int .i64 0)) W = .ok (.agg #[iv 6, iv 4]) W := fun W => by kernel_rfl
          go_wp2
          go_meet
          exact ⟨rfl, _, _, rfl⟩
        · have hi : ∀ W, Sem.run Try.prog (Instr.index 60 (.agg #[iv 6, iv 4, iv 6, iv 0, iv 3, iv 4, iv 3, iv 0, iv 1, iv 4, iv 1, iv 0, iv 0, iv 4, iv 0, iv 0]) (.int .i64 1)) W = .ok (.agg #[iv 6, iv 0]) W := fun W => by kernel_rfl
          go_wp2
          go_meet
          exact ⟨rfl, _, _, rfl⟩
        · have hi : ∀ W, Sem.run Try.prog (Instr.index 60 (.agg #[iv 6, iv 4, iv 6, iv 0, iv 3, iv 4, iv 3, iv 0, iv 1, iv 4, iv 1, iv 0, iv 0, iv 4, iv 0, iv 0]) (.int .i64 2)) W = .ok (.agg #[iv 3, iv 4]) W := fun W => by kernel_rfl
          go_wp2
          go_meet
          exact ⟨rfl, _, _, rfl⟩
        · have hi : ∀ W, Sem.run Try.prog (Instr.index 60 (.agg #[iv 6, iv 4, iv 6, iv 0, iv 3, iv 4, iv 3, iv 0, iv 1, iv 4, iv 1, iv 0, iv 0, iv 4, iv 0, iv 0]) (.int .i64 3)) W = .ok (.agg #[iv 3, iv 0]) W := fun W => by kernel_rfl
          go_wp2
          go_meet
          exact ⟨rfl, _, _, rfl⟩
        · have hi : ∀ W, Sem.run Try.prog (Instr.index 60 (.agg #[iv 6, iv 4, iv 6, iv 0, iv 3, iv 4, iv 3, iv 0, iv 1, iv 4, iv 1, iv 0, iv 0, iv 4, iv 0, iv 0]) (.int .i64 4)) W = .ok (.agg #[iv 1, iv 4]) W := fun W => by kernel_rfl
          go_wp2
          go_meet
          exact ⟨rfl, _, _, rfl⟩
        · have hi : ∀ W, Sem.run Try.prog (Instr.index 60 (.agg #[iv 6, iv 4, iv 6, iv 0, iv 3, iv 4, iv 3, iv 0, iv 1, iv 4, iv 1, iv 0, iv 0, iv 4, iv 0, iv 0]) (.int .i64 5)) W = .ok (.agg #[iv 1, iv 0]) W := fun W => by kernel_rfl
          go_wp2
          go_meet
          exact ⟨rfl, _, _, rfl⟩
        · have hi : ∀ W, Sem.run Try.prog (Instr.index 60 (.agg #[iv 6, iv 4, iv 6, iv 0, iv 3, iv 4, iv 3, iv 0, iv 1, iv 4, iv 1, iv 0, iv 0, iv 4, iv 0, iv 0]) (.int .i64 6)) W = .ok (.agg #[iv 0, iv 4]) W := fun W => by kernel_rfl
          go_wp2
          go_meet
          exact ⟨rfl, _, _, rfl⟩
        · have hi : ∀ W, Sem.run Try.prog (Instr.index 60 (.agg #[iv 6, iv 4, iv 6, iv 0, iv 3, iv 4, iv 3, iv 0, iv 1, iv 4, iv 1, iv 0, iv 0, iv 4, iv 0, iv 0]) (.int .i64 7)) W = .ok (.agg #[iv 0, iv 0]) W := fun W => by kernel_rfl
          go_wp2
          go_meet
          exact ⟨rfl, _, _, rfl⟩
      case rest =>
        obtain ⟨rfl, a, b, hwc⟩ := hcut
        subst hwc
        have hbx := HBr.out.alloc HBr.out.size (.cells #[iv a, iv b] 59)
        have hgr : Below wr.heap.size wr (wr.alloc (.cells #[iv a, iv b] 59)) := (Below.refl _ wr).alloc (Nat.le_refl _) _
        have HXa := Lib.hid (BoxAt.new wr 59 #[iv a, iv b])
        have HXc := Lib.hid (HXr.out.alloc (.cells #[iv a, iv b] 59))
        have HOc := Lib.hid (HO.out.below hgr)
        have HQc := Lib.hid (HQ.out.below hbx)
        have HBc := Lib.hid hbx
        clear hbx hgr HO HBr HXr
        generalize wr.alloc (.cells #[iv a, iv b] 59) = wx at *
        generalize wr.heap.size = gx at *
        have x0 : wx.cell? ⟨w.heap.size, 0, none⟩ = some (iv c.len) := HXc.out.cell 0
        have x1 : wx.cell? ⟨w.heap.size, 1, none⟩ = some (iv c.acc) := HXc.out.cell 1
        have x2 : wx.cell? ⟨w.heap.size, 2, none⟩ = some (iv c.brk) := HXc.out.cell 2
        have x3 : wx.cell? ⟨w.heap.size, 3, none⟩ = some (iv c.rate) := HXc.out.cell 3
        have x4 : wx.cell? ⟨w.heap.size, 4, none⟩ = some (iv c.del) := HXc.out.cell 4
        have y0 : wx.cell? ⟨gx, 0, none⟩ = some (iv a) := HXa.out.cell 0
        have y1 : wx.cell? ⟨gx, 1, none⟩ = some (iv b) := HXa.out.cell 1
        have lx := HXc.out.lt
        have ly := HXa.out.lt
        have hk1 : k + 1 ≤ 8 := by omega
        go_wp2_with (first
          | (at_builtin; refine wpList_append_lies _ rfl _ _ 48 rfl w.heap.size 26 i0_ _ 1 24 Try.underlying48 HI0.out HZ0.out HZ1.out HZ2.out rfl (by decide) (.slice Ao k co) k us rfl HRo.out ⟨w5.heap.size, 0, none⟩ 1 1 [.slice A5 N5 c5] rfl rfl (World.news_of_block (cs := #[.slice A5 N5 c5]) (t := 26) (fr := (0, 0)) (World.alloc_heap_new w5 (.cells #[.slice A5 N5 c5] 26))) (by simp [Value.oneCell']) (by decide) (by unfold maxLen; omega) (by omega) hs6 _ rfl ?_; intro gg cap1 w8 hown8 hgrow hat hlt8)
          | (go_at_call 28; (with_reducible refine (HP.out a b _ HQc.out).mono ?_); rintro e w5 ⟨p5, A5, N5, c5, hg5, hn5, rfl, hu, hb5⟩; clear hn5; obtain ⟨us, hro, hre⟩ := HOc.out.below hb5; have HRo := Lib.hid ((by rw [hpl] at hro; exact hro : w5.ownsRow w.heap.size 26 1 (.slice Ao k co) k us).alloc (.cells #[.slice A5 N5 c5] 26)); have hkt := Kt2.of_below ((Below.refl _ w5).alloc (Nat.le_refl _) (.cells #[.slice A5 N5 c5] 26)); have HRe := Lib.hid (hre.mono fun u r h => h.kt hkt); have HU := Lib.hid (hu.kt hkt); have HB5 := Lib.hid (below_step HBc.out hb5); have HX5 := Lib.hid (HXc.out.below hb5 HXc.out.lt); have hs6 : w.heap.size ≤ (w5.alloc (.cells #[.slice A5 N5 c5] 26)).heap.size := by { have h1 := HB5.out.size; rw [World.size_alloc]; omega }; clear hro hre hkt hu hb5))
        have HB8 : Hid (Below w.heap.size w w8) := Lib.hid ((HB5.out.alloc HB5.out.size _).grown hgrow hs6 (fun j e => (HRo.out.lt j e).1))
        have HX8 : Hid (BoxAt w8 w.heap.size 23 #[iv c.len, iv c.acc, iv c.brk, iv c.rate, iv c.del]) := Lib.hid ((HX5.out.alloc (.cells #[.slice A5 N5 c5] 26)).grown hgrow (fun e => by
          obtain ⟨_, cur, h3⟩ := row_cells HRo.out e.symm
          have h4 := (show (w5.alloc (.cells #[.slice A5 N5 c5] 26)).heap[w.heap.size]? = _ from HX5.out.alloc (.cells #[.slice A5 N5 c5] 26)).symm.trans h3
          cases h4))
        have HG8 : Hid (∀ p ∈ ps ++ [p5], Good c q last v p) := Lib.hid (fun p hp => by
          rcases List.mem_append.1 hp with h | h
          · exact HG.out p h
          · obtain rfl : p = p5 := by simpa using h
            exact hg5)
        have hgo := OwnP.grown (base := w.heap.size) (t := ps) (r := p5) (by rw [hpl]; exact HRo.out) HRe.out HU.out hgrow (by rw [hpl]; exact hown8)
        refine ⟨⟨k + 1, ps ++ [p5], by go_num, by omega, by rw [List.length_append, hpl]; rfl, HG8, Lib.hid ?_, HB8, HX8⟩, by simp [intOf]; omega⟩
        rw [hpl] at hgo
        exact hgo
    · obtain rfl : k = 8 := by omega
      go_wp2
      go_ret
      exact ⟨Ao, co, ps, rfl, hpl, HG.out, HO.out, HBr.out⟩
end Go.Proofs.Ytcoccfijikiamaa
