/- A bucket laid among others: two appends, one behind the other; what the rows are. The reference's Index of a valid cloud, the size in range. -/
import Derived.Test.YtaehfildhmljeaaIdxP
import Derived.Maps.AppendAt
import Derived.Test.YtaehfildhmljeaaRCll
import Derived.Test.YtaehfildhmljeaaRBd
import Derived.Deep.CutBlock
import Derived.BigQuiet
namespace Go.Proofs.Ytaehfildhmljeaa
open Go.RowKit Go.Shelf

theorem ins_get {α : Type} {xs : List α} {j : Nat} {y : α} (hj : j ≤ xs.length) (a : Nat) : (xs.take j ++ y :: xs.drop j)[a]? = if a < j then xs[a]? else if a = j then some y else xs[a - 1]? := by
  have hl : (xs.take j).length = j := by rw [List.length_take]; omega
  split
  · rename_i h
    rw [List.getElem?_append_left (by omega), List.getElem?_take_of_lt h]
  · rename_i h
    rw [List.getElem?_append_right (by omega), hl]
    split
    · rename_i h2
      subst h2
      simp
    · rename_i h2
      obtain ⟨b, hb⟩ : ∃ b, a - j = b + 1 := ⟨a - j - 1, by omega⟩
      rw [hb, List.getElem?_cons_succ, List.getElem?_drop]
      congr 1
      omega
theorem Rws.insert {W : World} {base j : Nat} {xs : List Value} {R : List (List Nat)} (h : Rws W base xs R) (hj : j ≤ xs.length) : Rws W base (xs.take j ++ .slice none 0 0 :: xs.drop j) (R.take j ++ [] :: R.drop j) := by
  obtain ⟨h1, h2, h3⟩ := h
  refine ⟨by simp; omega, fun a x r hx hr => ?_, fun a b x y hx hy hab => ?_⟩
  · rw [ins_get hj] at hx
    rw [ins_get (by omega)] at hr
    by_cases ha : a < j
    · rw [if_pos ha] at hx hr
      exact h2 a x r hx hr
    · rw [if_neg ha] at hx hr
      by_cases he : a = j
      · rw [if_pos he] at hx hr
        obtain rfl := Option.some.inj hx
        obtain rfl := Option.some.inj hr
        exact World.ownsRow_nil _ _ _ _
      · rw [if_neg he] at hx hr
        exact h2 (a - 1) x r hx hr
  · rw [ins_get hj] at hx hy
    have hnil : ∀ v : Value, some (Value.slice none 0 0) = some v → v.ownBlock = none := fun v e => by obtain rfl := Option.some.inj e; rfl
    by_cases ha : a < j
    · rw [if_pos ha] at hx
      by_cases hb : b < j
      · rw [if_pos hb] at hy
        exact h3 a b x y hx hy hab
      · rw [if_neg hb] at hy
        by_cases he : b = j
        · rw [if_pos he] at hy
          rw [hnil y hy]
          cases x.ownBlock with
          | none => exact Or.inl rfl
          | some z => exact Or.inr (fun e => by cases e)
        · rw [if_neg he] at hy
          exact h3 a (b - 1) x y hx hy (by omega)
    · rw [if_neg ha] at hx
      by_cases he : a = j
      · rw [if_pos he] at hx
        exact Or.inl (hnil x hx)
      · rw [if_neg he] at hx
        by_cases hb : b < j
        · rw [if_pos hb] at hy
          exact h3 (a - 1) b x y hx hy (by omega)
        · rw [if_neg hb] at hy
          by_cases he2 : b = j
          · rw [if_pos he2] at hy
            rw [hnil y hy]
            cases x.ownBlock with
            | none => exact Or.inl rfl
            | some z => exact Or.inr (fun e => by cases e)
          · rw [if_neg he2] at hy
            exact h3 (a - 1) (b - 1) x y hx hy (by omega)
section
variable {C : Nat → Pt} {k j : Nat} {c : Pt}
theorem ins_new {L : List Pt} (hL : celL C k = L) (hins : insU c L = L.take j ++ c :: L.drop j) : ∀ x ∈ L, x ≠ c := by
  have hs : SrtL (insU c L) := srt_insU (by rw [← hL]; exact srt_celL k)
  rw [hins] at hs
  obtain ⟨_, h2, h3⟩ := List.pairwise_append.1 hs
  obtain ⟨h4, _⟩ := List.pairwise_cons.1 h2
  intro x hx e
  rw [← List.take_append_drop j L] at hx
  rcases List.mem_append.1 hx with h | h
  · have := h3 x h c List.mem_cons_self
    rw [e, bef_irr] at this
    cases this
  · have := h4 x h
    rw [e, bef_irr] at this
    cases this
theorem grp_new {L : List Pt} (hL : celL C k = L) (hnew : ∀ x ∈ L, x ≠ c) : grpL C k c = [] :=
  grp_none fun i hi e => hnew c (by rw [← hL]; exact mem_celL.2 ⟨i, hi, e⟩) rfl
theorem rows_ins {L : List Pt} (hL : celL C k = L) (hnew : ∀ x ∈ L, x ≠ c) : (L.take j ++ c :: L.drop j).map (grpL C k) = (L.map (grpL C k)).take j ++ [] :: (L.map (grpL C k)).drop j := by
  rw [List.map_append, List.map_cons, List.map_take, List.map_drop, grp_new hL hnew]
theorem rows_add {L : List Pt} (hs : SrtL L) (hj : L[j]? = some c) (hc : C k = c) : (L.map (grpL C k)).set j (grpL C k c ++ [k]) = L.map (grpL C (k + 1)) := by
  apply List.ext_getElem?
  intro a
  have hjl : j < L.length := (List.getElem?_eq_some_iff.1 hj).1
  rw [List.getElem?_set, List.length_map]
  by_cases he : j = a
  · subst he
    rw [if_pos rfl, if_pos hjl, List.getElem?_map, hj]
    simp [grp_same hc]
  · rw [if_neg he, List.getElem?_map, List.getElem?_map]
    cases hx : L[a]? with
    | none => rfl
    | some x =>
      have hne : C k ≠ x := by
        rw [hc]
        intro e
        subst e
        obtain ⟨ha1, ha2⟩ := List.getElem?_eq_some_iff.1 hx
        obtain ⟨hj1, hj2⟩ := List.getElem?_eq_some_iff.1 hj
        rcases Nat.lt_or_gt_of_ne he with h | h
        · have := (List.pairwise_iff_getElem.1 hs) j a hj1 ha1 h
          rw [ha2, hj2, bef_irr] at this
          cases this
        · have := (List.pairwise_iff_getElem.1 hs) a j ha1 hj1 h
          rw [ha2, hj2, bef_irr] at this
          cases this
      simp [grp_other hne]
end
theorem Rws.one {W : World} {base : Nat} {xs : List Value} {R : List (List Nat)} (h : Rws W base xs R) : ∀ y ∈ xs, y.oneCell' = true := by
  intro y hy
  obtain ⟨a, ha⟩ := List.getElem?_of_mem hy
  have hl : a < R.length := by rw [← h.1]; exact (List.getElem?_eq_some_iff.1 ha).1
  obtain ⟨A, c, rfl⟩ := own_form (h.2.1 a y _ ha (List.getElem?_eq_getElem hl))
  rfl
theorem ownsRow_take {w : World} {base g cap n m e size : Nat} {xs : List Value} (h : w.ownsRow base e size (.slice (some ⟨g, 0, none⟩) n cap) n xs) (hm : m ≤ n) : w.ownsRow base e size (.slice (some ⟨g, 0, none⟩) m cap) m (xs.take (m * size)) := by
  have hl : m * size ≤ n * size := Nat.mul_le_mul_right _ hm
  refine ⟨by rw [List.length_take, h.1]; omega, ?_⟩
  rcases h.2 with ⟨hv, _⟩ | ⟨g', cap', cur, hv, hb, hg, h1, h2, h3, h4⟩
  · cases hv
  · obtain ⟨rfl, rfl⟩ : g = g' ∧ cap = cap' := by simpa using hv
    exact .inr ⟨g, cap, cur, rfl, hb, hg, by omega, h2, h3, by rw [← h4, List.take_take]; congr 1; omega⟩
theorem idx_step {wy w7 : World} {o : Obj} {Bs g t M' cv' R : Nat} {x : Value} {xs rs : List Value} (h : wy.ownsRow Bs 43 3 (.slice (some ⟨g, 0, none⟩) M' cv') M' xs) (hx : wy.ownsRow Bs 3 1 x R rs) (hg : (wy.alloc o).grownBy w7 x.ownBlock) (d0 : wy.cell? ⟨g, t, none⟩ = some x) :
    w7.cell? ⟨g, t, none⟩ = some x ∧ w7.frozen? ⟨g, t, none⟩ = false ∧ w7.ownsRow Bs 43 3 (.slice (some ⟨g, 0, none⟩) M' cv') M' xs := by
  have hne : some g ≠ x.ownBlock := by
    rcases own_ne h hx (by decide) with h1 | h1
    · cases h1
    · exact h1
  have hlt : g < wy.heap.size := (h.lt g rfl).2
  have h7 := (h.alloc o).kept hg (Or.inr hne)
  refine ⟨hg.cell (a := ⟨g, t, none⟩) ?_ hne, row_frozen h7 _, h7⟩
  exact (World.cell?_of_block (a := ⟨g, t, none⟩) (heap_alloc_old wy o hlt)).trans d0
/-- out[j:] -/
def srcJ (Av : Option Addr) (M cv j : Nat) : Value := match Av with | none => .slice none 0 0 | some a => .slice (if cv = j then some a else some ⟨a.block, j * 3, none⟩) (M - j) (cv - j)
/-- out[:j] -/
def dstJ (Av : Option Addr) (cv j : Nat) : Value := match Av with | none => .slice none 0 0 | some a => .slice (some a) j cv

theorem add_off (g o j : Nat) : (⟨g, o, none⟩ : Addr).add j = ⟨g, o + j, none⟩ := by unfold Addr.add; split <;> simp_all
set_option maxHeartbeats 1000000 in
/-- A bucket laid at j: both appends. -/
theorem ins_run {W0 : World} {Bs M j cv : Nat} {Av : Option Addr} {L : List Pt} {ys : List Value} {p q : Int} (hown : W0.ownsRow Bs 43 3 (.slice Av M cv) M (bkV L ys)) (hL : L.length = M) (hy : ys.length = M) (hj : j ≤ M) (hM : M ≤ 1000)
    (hone : ∀ y ∈ ys, y.oneCell' = true) (hB : Bs ≤ W0.heap.size) :
    ∃ y w1 v' w2, (Builtin.append_ #[38, 38] 38 #[.slice (some ⟨W0.heap.size, 0, none⟩) 1 1, srcJ Av M cv j]).run Try.prog (W0.alloc (.cells #[.int .i64 p, .int .i64 q, .slice none 0 0] 43)) = .ok y w1 ∧
      (Builtin.append_ #[38, 38] 38 #[dstJ Av cv j, y]).run Try.prog w1 = .ok v' w2 ∧
      w2.ownsRow Bs 43 3 v' (M + 1) (bkV (L.take j ++ (p, q) :: L.drop j) (ys.take j ++ .slice none 0 0 :: ys.drop j)) ∧ W0.grownBy w2 (Value.slice Av M cv).ownBlock ∧ W0.grownBy w1 none := by
  obtain ⟨i, hi, hz, hsz, hby⟩ := info_parts Try.info43
  obtain ⟨W, hW⟩ : ∃ W, W = W0.alloc (.cells #[.int .i64 p, .int .i64 q, .slice none 0 0] 43) := ⟨_, rfl⟩
  have hWs : W.heap.size = W0.heap.size + 1 := by rw [hW]; simp
  have hnew : W.heap[W0.heap.size]? = some (.cells #[.int .i64 p, .int .i64 q, .slice none 0 0] 43 (0, 0)) := by rw [hW]; exact heap_alloc_new W0 _
  have hlit : W.ownsRow W0.heap.size 43 3 (.slice (some ⟨W0.heap.size, 0, none⟩) 1 1) 1 [.int .i64 p, .int .i64 q, .slice none 0 0] :=
    ⟨rfl, .inr ⟨W0.heap.size, 1, _, rfl, Nat.le_refl _, hnew, Nat.le_refl _, by unfold maxLen; omega, rfl, rfl⟩⟩
  have hownW : W.ownsRow Bs 43 3 (.slice Av M cv) M (bkV L ys) := by rw [hW]; exact hown.alloc _
  have hgW : W0.grownBy W none := by rw [hW]; exact World.grownBy_alloc W0 _ _
  rw [← hW]
  have hlen := bkV_len (L := L) (ys := ys) (by omega)
  rcases hown.2 with ⟨hv, h0⟩ | ⟨g, cap, cur, hv, hg, hb, h1, h2, h3, h4⟩
  · obtain ⟨rfl, _, rfl⟩ : Av = none ∧ M = 0 ∧ cv = 0 := by simpa using hv
    obtain rfl : M = 0 := h0
    obtain rfl : j = 0 := by omega
    obtain rfl : L = [] := List.eq_nil_of_length_eq_zero hL
    obtain rfl : ys = [] := List.eq_nil_of_length_eq_zero hy
    have e1 := run_append_owned_none (P := Try.prog) (w := W) W0.heap.size 38 38 43 i 3 Try.underlying38 hi _ _ _ hlit
    obtain ⟨v', w2, e2, r1, r2, _, _⟩ := run_append_own_at (P := Try.prog) W Bs 38 38 43 i _ 3 40 Try.underlying38 hi hz hsz hby rfl (by decide) (.slice none 0 0) 0 [] (World.ownsRow_nil _ _ _ _) ⟨W0.heap.size, 0, none⟩ 1 1 [.int .i64 p, .int .i64 q, .slice none 0 0] rfl (World.news_of_block hnew) (by simp [Value.oneCell']) (by unfold maxLen; omega) (by omega) (by omega)
    refine ⟨_, _, v', w2, e1, e2, ?_, ?_, hgW⟩
    · simpa [bkV] using r1
    · exact ⟨r2.os.trans hgW.os, r2.tape.trans hgW.tape, r2.output.trans hgW.output, Nat.le_trans hgW.size r2.size, fun b hb hne => (r2.block b (Nat.lt_of_lt_of_le hb hgW.size) (by simp [Value.ownBlock])).trans (hgW.block b hb (by simp))⟩
  · obtain ⟨rfl, rfl⟩ : Av = some ⟨g, 0, none⟩ ∧ cv = cap := by simpa using hv
    have hgl : g < W0.heap.size := (Array.getElem?_eq_some_iff.1 hb).1
    obtain ⟨ad, had, hnews⟩ : ∃ ad, (if cv = j then some (⟨g, 0, none⟩ : Addr) else some ⟨g, j * 3, none⟩) = some ad ∧ ∀ t u, ((bkV L ys).drop (j * 3))[t]? = some u → W.cell? (ad.add t) = some u := by
      by_cases hc : cv = j
      · refine ⟨⟨g, 0, none⟩, by rw [if_pos hc], fun t u hu => ?_⟩
        rw [List.drop_eq_nil_of_le (by rw [hlen, hL]; omega)] at hu
        simp at hu
      · refine ⟨⟨g, j * 3, none⟩, by rw [if_neg hc], fun t u hu => ?_⟩
        rw [add_off]
        rw [List.getElem?_drop] at hu
        have hlt : j * 3 + t < M * 3 := by have := (List.getElem?_eq_some_iff.1 hu).1; rw [hlen, hL] at this; exact this
        rw [World.ownsRow.cellAt hownW _ hlt]
        exact hu
    have hsrc : srcJ (some ⟨g, 0, none⟩) M cv j = .slice (some ad) (M - j) (cv - j) := by show Value.slice (if cv = j then some (⟨g, 0, none⟩ : Addr) else some ⟨g, j * 3, none⟩) (M - j) (cv - j) = _; rw [had]
    rw [hsrc]
    have hdl : ((bkV L ys).drop (j * 3)).length = (M - j) * 3 := by rw [List.length_drop, hlen, hL]; omega
    have hone2 := bkV_cells (L := L) hone
    obtain ⟨y, w1, e1, r1, r2, r3, r4⟩ := run_append_own_at (P := Try.prog) W W0.heap.size 38 38 43 i _ 3 40 Try.underlying38 hi hz hsz hby rfl (by decide) _ _ _ hlit ad (M - j) (cv - j) ((bkV L ys).drop (j * 3)) hdl hnews (fun u hu => hone2 u (List.mem_of_mem_drop hu)) (by unfold maxLen; omega) (by omega) (by omega)
    obtain ⟨gy, cy, rfl, hgy, hgy2⟩ := r1.form (by omega)
    have hown1 := hownW.kept r2 (Or.inr (by simp [Value.ownBlock]; omega))
    have htk := ownsRow_take (m := j) hown1 hj
    have hcl := World.ownsRow.cells r1 (g := gy) rfl
    obtain ⟨v', w2, e2, s1, s2, _, _⟩ := run_append_own_at (P := Try.prog) w1 Bs 38 38 43 i _ 3 40 Try.underlying38 hi hz hsz hby rfl (by decide) _ _ _ htk ⟨gy, 0, none⟩ (1 + (M - j)) cy _ r1.1 hcl (by
      intro u hu
      rcases List.mem_append.1 hu with h | h
      · simp at h
        rcases h with rfl | rfl | rfl <;> rfl
      · exact hone2 u (List.mem_of_mem_drop h)) (by unfold maxLen; omega) (by omega) (by have := r2.size; omega)
    refine ⟨_, w1, v', w2, e1, e2, ?_, ?_, r2.os.trans hgW.os, r2.tape.trans hgW.tape, r2.output.trans hgW.output, Nat.le_trans hgW.size r2.size, fun b hb' _ => (r2.block b (Nat.lt_of_lt_of_le hb' hgW.size) (by simp [Value.ownBlock]; omega)).trans (hgW.block b hb' (by simp))⟩
    · have e3 : j + (1 + (M - j)) = M + 1 := by omega
      have e4 : (bkV L ys).take (j * 3) ++ ([.int .i64 p, .int .i64 q, .slice none 0 0] ++ (bkV L ys).drop (j * 3)) = bkV (L.take j ++ (p, q) :: L.drop j) (ys.take j ++ .slice none 0 0 :: ys.drop j) := by
        rw [bkV_take _ (by omega), bkV_drop _ (by omega), bkV_append (by simp; omega)]
        rfl
      rw [e3, e4] at s1
      exact s1
    · have hs : W0.heap.size ≤ W.heap.size := hgW.size
      refine ⟨s2.os.trans (r2.os.trans hgW.os), s2.tape.trans (r2.tape.trans hgW.tape), s2.output.trans (r2.output.trans hgW.output), Nat.le_trans hs (Nat.le_trans r2.size s2.size), fun b hb' hne => ?_⟩
      have q1 := s2.block b (Nat.lt_of_lt_of_le hb' (Nat.le_trans hs r2.size)) hne
      have q2 := r2.block b (Nat.lt_of_lt_of_le hb' hs) (by simp [Value.ownBlock]; omega)
      exact q1.trans (q2.trans (hgW.block b hb' (by simp)))

/-- An append whose run is known, at a step of a region that draws its order. -/
theorem step_append_eq {P : Program} {w : World} {ops : Array Oper} {o : Oper} {a : Act} {K : Act → World → Prop} {Q : Exit → Act → World → Prop} {E : Prop} (hgd : o.guard = none) (s x : Operand) (t : TypeId)
    (ho : o.op = .call { callee := .builtin .append, args := #[s, x], argTypes := #[t, t] }) (v xv v' : Value) (w' : World) (hs : a.eval s = v) (hx : a.eval x = xv)
    (hr : (Builtin.append_ #[t, t] o.type #[v, xv]).run P w = .ok v' w') (h : K (a.put o.dst v') w') : if Region.wanted o (yielded ops a.tmps) = true then Oper.wp P o a w K Q else E := by
  have hw : Region.wanted o (yielded ops a.tmps) = true := by simp [Region.wanted, hgd]
  rw [if_pos hw]
  unfold Oper.wp execOp
  simp only [ho, resolve, invoke, builtin, Sem.run_bind, Sem.run_pure, Result.andThen_ok, List.map_toArray, List.map_cons, List.map_nil, hs, hx, hr]
  exact h
end Go.Proofs.Ytaehfildhmljeaa

namespace Go.Proofs.Ytaehfildhmljeaa
open Go.RowKit Go.Shelf

set_option maxRecDepth 100000 in
set_option maxHeartbeats 16000000 in
theorem rindex_good (A : Option Addr) (n cap : Nat) (X Y V : Nat → Int) (s : Int) (hok : chkF n X Y V = 0) (s1 : 1 ≤ s) (s2 : s ≤ 16777216) (w : World) (hcl : Cloud w A n X Y V) :
    Calls Try.prog 26 #[.slice A n cap, .int .i64 s] w (IdxAll n X Y V s w) := by
  have hg : gridF n X Y V s = 0 := by unfold gridF; rw [hok, if_neg (by simp), if_pos ⟨s1, s2⟩]
  have hn : n ≤ 1000 := chkF_le hok
  have HK := Lib.hid (rcheck_any A n cap X Y V w hcl)
  rw [hok] at HK
  have HSz := Lib.hid (fun W => sized_any s true (by simp [s1, s2]) W)
  obtain ⟨C, hC⟩ : ∃ C, C = redC X Y s := ⟨_, rfl⟩
  have HC := Lib.hid hC
  have HOK := Lib.hid (fun k (hk : k < n) => ok_at hok hk)
  have HCL := Lib.hid hcl
  have HGr := Lib.hid hg
  obtain ⟨i0_, hi0, hz0, hz1, hz2⟩ := info_parts Try.info3
  have hI0 := Lib.hid hi0
  have hZ0 := Lib.hid hz0
  have hZ1 := Lib.hid hz1
  have hZ2 := Lib.hid hz2
  clear hi0 hz0 hz1 hz2 hcl hok hg hC
  go_enter Try.func26, Try.ntmps26
  go_upto_region 7 with (first
    | (go_at_call 23; (with_reducible refine HK.out.mono ?_); rintro e w1 ⟨rfl, hb1⟩)
    | (go_at_call 69; (with_reducible refine (HSz.out _).mono ?_); rintro e w2 ⟨rfl, hb2⟩))
  have HB0 := Lib.hid (below_step hb1 hb2)
  clear hb1 hb2 HK HSz
  obtain ⟨Bs, hBs⟩ : ∃ z, z = w.heap.size := ⟨_, rfl⟩
  have I : ∃ (i : Nat) (v : Value) (ys : List Value), i ≤ n ∧ (Value.slice none 0 0) = v ∧ (Value.int .i64 0) = .int .i64 i ∧ Hid (ys.length = (celL C i).length) ∧ Hid (w2.ownsRow Bs 43 3 v (celL C i).length (bkV (celL C i) ys)) ∧ Hid (Rws w2 Bs ys ((celL C i).map (grpL C i))) ∧ Hid (Below w.heap.size w w2) :=
    ⟨0, _, [], Nat.zero_le _, rfl, rfl, Lib.hid rfl, Lib.hid (World.ownsRow_nil _ _ _ _), Lib.hid (rws_none _ _), HB0⟩
  have HBs := Lib.hid hBs
  clear HB0 hBs
  go_wp2
  go_loopw [7, 8] (fun o iv wr => ∃ (i : Nat) (v : Value) (ys : List Value), i ≤ n ∧ o = v ∧ iv = .int .i64 i ∧ Hid (ys.length = (celL C i).length) ∧ Hid (wr.ownsRow Bs 43 3 v (celL C i).length (bkV (celL C i) ys)) ∧ Hid (Rws wr Bs ys ((celL C i).map (grpL C i))) ∧ Hid (Below w.heap.size w wr)) (fun _ iv _ => n - (intOf iv).toNat)
  case atStart => exact I
  case round =>
    clear I
    obtain ⟨i, v, ys, hi, rfl, rfl, HY, HR, HW, HB⟩ := hrel
    by_cases hlt : i < n
    · obtain ⟨blk, off, e, hc0⟩ := HCL.out (by omega)
      subst e
      have i0 : (0 : Int) ≤ (i : Int) := Int.natCast_nonneg _
      have i1 : (i : Int) < (n : Int) := by omega
      have hbl := hc0.lt (by omega)
      have l1 : blk < wr.heap.size := Nat.lt_of_lt_of_le hbl HB.out.size
      obtain ⟨c0, c1, c2⟩ := (hc0.below HB.out hbl) i hlt
      obtain ⟨Av, cv, hv⟩ := own_form HR.out
      subst hv
      have HCi := Lib.hid (fun W => rcell_any (X i) (Y i) (V i) s W (HOK.out i hlt).1 (HOK.out i hlt).2.1 s1 s2)
      obtain ⟨p, hp⟩ : ∃ p, p = X i / s := ⟨_, rfl⟩
      obtain ⟨q, hq⟩ : ∃ q, q = Y i / s := ⟨_, rfl⟩
      rw [← hp, ← hq] at HCi
      have HCk : Hid (C i = (p, q)) := Lib.hid (by rw [HC.out, hp, hq]; rfl)
      obtain ⟨L, hL⟩ : ∃ L, L = celL C i := ⟨_, rfl⟩
      have hLi : L.length ≤ i := by rw [hL]; exact celL_len i
      rw [← hL] at HY HR HW ⊢
      have HL := Lib.hid hL.symm
      obtain ⟨M, hM⟩ : ∃ M, M = L.length := ⟨_, rfl⟩
      rw [← hM] at HY HR hLi ⊢
      have HMl := Lib.hid hM.symm
      clear hc0 hp hq hL hM
      go_upto_region 11 with (go_at_call 70; (with_reducible refine (HCi.out _).mono ?_); rintro e w4 ⟨rfl, hb4⟩)
      have hb5 : Below w4.heap.size w4 (w4.alloc (.cells #[.int .i64 p, .int .i64 q] 24)) := (Below.refl _ w4).alloc (Nat.le_refl _) _
      have hbc := BoxAt.new w4 24 #[.int .i64 p, .int .i64 q]
      obtain ⟨Lc, hLc⟩ : ∃ z, z = w4.heap.size := ⟨_, rfl⟩
      rw [← hLc] at hbc ⊢
      have HB5 : Hid (Below wr.heap.size wr (w4.alloc (.cells #[.int .i64 p, .int .i64 q] 24))) := Lib.hid (below_step hb4 hb5)
      have HR5 := Lib.hid (HR.out.kept (grown_of_below HB5.out) (Classical.em _))
      have HW5 := Lib.hid (HW.out.below HB5.out)
      have HBW := Lib.hid (below_step HB.out HB5.out)
      have HLow : Hid (∀ b, (Value.slice Av M cv).ownBlock = some b → b < Lc) := Lib.hid (fun b e => by have h1 := (HR.out.lt b e).2; have h2 := hb4.size; omega)
      have hLw : w.heap.size ≤ Lc := by have h1 := HB.out.size; have h2 := hb4.size; omega
      clear c0 c1 c2 l1 hLc hb4 hb5 HR HW HB HB5 HCi
      generalize w4.alloc (.cells #[.int .i64 p, .int .i64 q] 24) = w5 at *
      have HBx := Lib.hid hbc
      clear hbc
      go_upto_block 2 with fail
      go_cut [10] from 31 to 69 (fun jv wz => ∃ j : Nat, j ≤ M ∧ jv = .int .i64 j ∧ Hid (∀ (t : Nat) pt, t < j → L[t]? = some pt → befB pt (p, q) = true) ∧ Hid (∀ pt, L[j]? = some pt → befB pt (p, q) = false) ∧ Below w5.heap.size w5 wz)
      case first =>
        go_wp2
        go_loopw [10] (fun jv wr => ∃ j : Nat, j ≤ M ∧ jv = .int .i64 j ∧ Hid (∀ (t : Nat) pt, t < j → L[t]? = some pt → befB pt (p, q) = true) ∧ Hid (Below w5.heap.size w5 wr)) (fun jv _ => M + 1 - (intOf jv).toNat)
        case atStart => exact ⟨0, Nat.zero_le _, rfl, Lib.hid (fun t pt h => absurd h (by omega)), Lib.hid (Below.refl _ _)⟩
        case round =>
          obtain ⟨j, hj, rfl, HP, HBB⟩ := hrel
          by_cases hjM : j < M
          · obtain ⟨⟨x, y⟩, hx⟩ : ∃ pt, L[j]? = some pt := ⟨_, List.getElem?_eq_getElem (by rw [HMl.out]; exact hjM)⟩
            have HRr := HR5.out.kept (grown_of_below HBB.out) (Classical.em _)
            obtain ⟨g, c0, hform, hg0, hg1⟩ := HRr.form (by omega)
            obtain ⟨rfl, rfl⟩ : Av = some ⟨g, 0, none⟩ ∧ cv = c0 := by simpa using hform
            obtain ⟨yv, hyv⟩ : ∃ yv, ys[j]? = some yv := ⟨_, List.getElem?_eq_getElem (by rw [HY.out]; exact hjM)⟩
            obtain ⟨k0, k1, _⟩ := bkV_get hx hyv
            have d0 : wr.cell? ⟨g, j * 3, none⟩ = some (.int .i64 x) := by rw [World.ownsRow.cellAt HRr _ (by omega)]; exact k0
            have d1 : wr.cell? ⟨g, j * 3 + 1, none⟩ = some (.int .i64 y) := by rw [World.ownsRow.cellAt HRr _ (by omega)]; exact k1
            have d2 : wr.cell? ⟨Lc, 0, none⟩ = some (.int .i64 p) := (box_step HBx.out HBB.out).cell 0
            have d3 : wr.cell? ⟨Lc, 1, none⟩ = some (.int .i64 q) := (box_step HBx.out HBB.out).cell 1
            have d4 := (box_step HBx.out HBB.out).lt
            have j0 : (0 : Int) ≤ (j : Int) := Int.natCast_nonneg _
            have j1 : (j : Int) < (M : Int) := by omega
            have HX := Lib.hid hx
            clear hx hyv k0 k1 HRr hform hg0
            by_cases e1 : x < p
            · have f1 : decide (x < p) = true := decide_eq_true e1
              have hb : befB (x, y) (p, q) = true := (bef_iff _ _).2 (by simp only; omega)
              have HP2 : Hid (∀ (t : Nat) pt, t < j + 1 → L[t]? = some pt → befB pt (p, q) = true) := Lib.hid (fun t pt ht h => by
                rcases Nat.lt_succ_iff_lt_or_eq.1 ht with h1 | h1
                · exact HP.out t pt h1 h
                · subst h1
                  rw [HX.out] at h
                  obtain rfl := Option.some.inj h
                  exact hb)
              clear hb
              go_upto_region 12 with fail
              go_quiet (fail)
              go_wp2
              go_roundw
              case rel => exact ⟨j + 1, by omega, by go_num, HP2, Lib.hid (below_drewN HBB.out _)⟩
              case measure => simp [intOf]; omega
            · by_cases e2 : x = p
              · by_cases e3 : y < q
                · have f1 : decide (x < p) = false := decide_eq_false e1
                  have f2 : (x == p) = true := by simp [e2]
                  have f3 : decide (y < q) = true := decide_eq_true e3
                  have hb : befB (x, y) (p, q) = true := (bef_iff _ _).2 (by simp only; omega)
                  have HP2 : Hid (∀ (t : Nat) pt, t < j + 1 → L[t]? = some pt → befB pt (p, q) = true) := Lib.hid (fun t pt ht h => by
                    rcases Nat.lt_succ_iff_lt_or_eq.1 ht with h1 | h1
                    · exact HP.out t pt h1 h
                    · subst h1
                      rw [HX.out] at h
                      obtain rfl := Option.some.inj h
                      exact hb)
                  clear hb
                  go_upto_region 12 with fail
                  go_quiet (fail)
                  go_wp2
                  go_roundw
                  case rel => exact ⟨j + 1, by omega, by go_num, HP2, Lib.hid (below_drewN HBB.out _)⟩
                  case measure => simp [intOf]; omega
                · have f1 : decide (x < p) = false := decide_eq_false e1
                  have f2 : (x == p) = true := by simp [e2]
                  have f3 : decide (y < q) = false := decide_eq_false e3
                  have HQ : Hid (∀ pt, L[j]? = some pt → befB pt (p, q) = false) := Lib.hid (fun pt h => by
                    rw [HX.out] at h
                    obtain rfl := Option.some.inj h
                    exact (bef_no _ _).2 (by simp only; omega))
                  go_upto_region 12 with fail
                  go_quiet (fail)
                  go_wp2
                  go_meet
                  exact ⟨j, by omega, rfl, HP, HQ, below_drewN HBB.out _⟩
              · have f1 : decide (x < p) = false := decide_eq_false e1
                have f2 : (x == p) = false := by simp [e2]
                have HQ : Hid (∀ pt, L[j]? = some pt → befB pt (p, q) = false) := Lib.hid (fun pt h => by
                  rw [HX.out] at h
                  obtain rfl := Option.some.inj h
                  exact (bef_no _ _).2 (by simp only; omega))
                go_upto_region 12 with fail
                go_quiet (fail)
                go_wp2
                go_meet
                exact ⟨j, by omega, rfl, HP, HQ, below_drewN HBB.out _⟩
          · obtain rfl : j = M := by omega
            have f0 : decide ((j : Int) < (j : Int)) = false := decide_eq_false (by omega)
            have HQ : Hid (∀ pt, L[j]? = some pt → befB pt (p, q) = false) := Lib.hid (fun pt h => by
              have := (List.getElem?_eq_some_iff.1 h).1
              rw [HMl.out] at this
              omega)
            go_upto_region 12 with fail
            go_quiet (fail)
            go_wp2
            go_meet
            exact ⟨j, Nat.le_refl _, rfl, HP, HQ, below_drewN HBB.out _⟩
      case rest =>
        obtain ⟨wz, rfl⟩ : ∃ x : World, x = wc := ⟨_, rfl⟩
        obtain ⟨j, hj, rfl, HP, HQ, hbz⟩ := hcut
        have HR6 := Lib.hid (HR5.out.kept (grown_of_below hbz) (Classical.em _))
        have HW6 := Lib.hid (HW5.out.below hbz)
        have HBx6 := Lib.hid (box_step HBx.out hbz)
        have HBW6 := Lib.hid (below_step HBW.out hbz)
        have HCel : Hid (celL C (i + 1) = insU (p, q) L) := Lib.hid (by rw [celL, HL.out, HCk.out])
        have hLz : Lc < wz.heap.size := HBx6.out.lt
        clear hbz HR5 HW5 HBx HBW
        go_upto_region 14 with fail
        obtain ⟨ins, hins⟩ : ∃ b, b = !(decide (L[j]? = some (p, q))) := ⟨_, rfl⟩
        have HIns := Lib.hid hins
        clear hins
        go_cut [82] from 70 to 82 (fun v wy => v = .bool ins ∧ Below wz.heap.size wz wy)
        case first =>
          by_cases hjM : j < M
          · obtain ⟨⟨x, y⟩, hx⟩ : ∃ pt, L[j]? = some pt := ⟨_, List.getElem?_eq_getElem (by rw [HMl.out]; exact hjM)⟩
            obtain ⟨g, c0, hform, hg0, hg1⟩ := HR6.out.form (by omega)
            obtain ⟨rfl, rfl⟩ : Av = some ⟨g, 0, none⟩ ∧ cv = c0 := by simpa using hform
            obtain ⟨yv, hyv⟩ : ∃ yv, ys[j]? = some yv := ⟨_, List.getElem?_eq_getElem (by rw [HY.out]; exact hjM)⟩
            obtain ⟨k0, k1, _⟩ := bkV_get hx hyv
            have d0 : wz.cell? ⟨g, j * 3, none⟩ = some (.int .i64 x) := by rw [World.ownsRow.cellAt HR6.out _ (by omega)]; exact k0
            have d1 : wz.cell? ⟨g, j * 3 + 1, none⟩ = some (.int .i64 y) := by rw [World.ownsRow.cellAt HR6.out _ (by omega)]; exact k1
            have d2 : wz.cell? ⟨Lc, 0, none⟩ = some (.int .i64 p) := HBx6.out.cell 0
            have d3 : wz.cell? ⟨Lc, 1, none⟩ = some (.int .i64 q) := HBx6.out.cell 1
            have j0 : (0 : Int) ≤ (j : Int) := Int.natCast_nonneg _
            have j1 : (j : Int) < (M : Int) := by omega
            have hne : ((j : Int) == (M : Int)) = false := by rw [beq_eq_false_iff_ne]; omega
            have HI2 : Hid (ins = !(decide (x = p ∧ y = q))) := Lib.hid (by rw [HIns.out, hx]; simp)
            clear hx hyv k0 k1 hform hg0
            by_cases e1 : x = p
            · by_cases e2 : y = q
              · subst e1
                subst e2
                obtain rfl : ins = false := by rw [HI2.out]; simp
                go_quiet (fail)
                go_wp2
                go_meet
                exact ⟨rfl, below_drewN (Below.refl _ wz) _⟩
              · obtain rfl : ins = true := by rw [HI2.out]; simp [e2]
                subst e1
                have e3 : (y == q) = false := by simp [e2]
                go_quiet (fail)
                go_wp2
                go_meet
                exact ⟨rfl, below_drewN (Below.refl _ wz) _⟩
            · obtain rfl : ins = true := by rw [HI2.out]; simp [e1]
              have e3 : (x == p) = false := by simp [e1]
              go_quiet (fail)
              go_wp2
              go_meet
              exact ⟨rfl, below_drewN (Below.refl _ wz) _⟩
          · obtain rfl : j = M := by omega
            have hne : ((j : Int) == (j : Int)) = true := by simp
            obtain rfl : ins = true := by
              rw [HIns.out, List.getElem?_eq_none (by rw [HMl.out]; exact Nat.le_refl _)]
              rfl
            go_quiet (fail)
            go_wp2
            go_meet
            exact ⟨rfl, below_drewN (Below.refl _ wz) _⟩
        case rest =>
          obtain ⟨wq, rfl⟩ : ∃ x : World, x = wc := ⟨_, rfl⟩
          obtain ⟨rfl, hbq⟩ := hcut
          go_upto_if 82 with fail
          go_cut [7] from 83 to 93 (fun v wy => ∃ (ys' : List Value), Hid (ys'.length = (celL C (i + 1)).length) ∧ Hid ((celL C (i + 1))[j]? = some (p, q)) ∧ Hid (wy.ownsRow Bs 43 3 v (celL C (i + 1)).length (bkV (celL C (i + 1)) ys')) ∧ Hid (Rws wy Bs ys' ((celL C (i + 1)).map (grpL C i))) ∧ wz.grownBy wy (Value.slice Av M cv).ownBlock)
          case first =>
            cases ins with
            | false =>
              have hat : L[j]? = some (p, q) := by
                have h := HIns.out
                refine Classical.byContradiction fun hn => ?_
                rw [decide_eq_false hn] at h
                cases h
              have hold : celL C (i + 1) = L := HCel.out.trans (insU_old HP.out hat)
              have HE : Hid (∃ (ys' : List Value), Hid (ys'.length = (celL C (i + 1)).length) ∧ Hid ((celL C (i + 1))[j]? = some (p, q)) ∧ Hid (wq.ownsRow Bs 43 3 (.slice Av M cv) (celL C (i + 1)).length (bkV (celL C (i + 1)) ys')) ∧ Hid (Rws wq Bs ys' ((celL C (i + 1)).map (grpL C i))) ∧ wz.grownBy wq (Value.slice Av M cv).ownBlock) := Lib.hid (by
                rw [hold, HMl.out]
                exact ⟨ys, HY, Lib.hid hat, Lib.hid (HR6.out.kept (grown_of_below hbq) (Classical.em _)), Lib.hid (HW6.out.below hbq), hbq.os, hbq.tape, hbq.output, hbq.size, fun b hb _ => hbq.block b hb⟩)
              clear hat hold hbq
              go_wp2
              go_meet
              exact HE.out
            | true =>
              have hnat : L[j]? ≠ some (p, q) := by
                have h := HIns.out
                intro hn
                rw [decide_eq_true hn] at h
                cases h
              have hins : celL C (i + 1) = L.take j ++ (p, q) :: L.drop j := HCel.out.trans (insU_new (by rw [HMl.out]; exact hj) HP.out (fun pt h => ⟨HQ.out pt h, fun e => hnat (by rw [h, e])⟩))
              have hnew := ins_new HL.out (HCel.out.symm.trans hins)
              have hM1 : M ≤ 1000 := by omega
              have HRq : Hid (wq.drew.ownsRow Bs 43 3 (.slice Av M cv) M (bkV L ys)) := Lib.hid ((HR6.out.kept (grown_of_below hbq.drew) (Classical.em _)))
              have HWq := Lib.hid (HW6.out.below hbq)
              obtain ⟨y, w1, v', w2, e1, e2, r1, r2, r0⟩ := ins_run (p := p) (q := q) HRq.out HMl.out HY.out hj hM1 HWq.out.one (by have h1 := HBs.out; have h2 := HBW6.out.size; have h3 := hbq.size; show Bs ≤ wq.heap.size; omega)
              have HLen : Hid ((celL C (i + 1)).length = M + 1) := Lib.hid (by rw [hins]; simp; have := HMl.out; omega)
              have HE : Hid (∃ (ys' : List Value), Hid (ys'.length = (celL C (i + 1)).length) ∧ Hid ((celL C (i + 1))[j]? = some (p, q)) ∧ Hid (w2.ownsRow Bs 43 3 v' (celL C (i + 1)).length (bkV (celL C (i + 1)) ys')) ∧ Hid (Rws w2 Bs ys' ((celL C (i + 1)).map (grpL C i))) ∧ wz.grownBy w2 (Value.slice Av M cv).ownBlock) := Lib.hid (by
                rw [HLen.out, hins, rows_ins HL.out hnew]
                have hyl : j ≤ ys.length := by rw [HY.out]; exact hj
                refine ⟨ys.take j ++ .slice none 0 0 :: ys.drop j, Lib.hid (by simp; have := HY.out; omega), Lib.hid (by rw [ins_get (by rw [HMl.out]; exact hj), if_neg (Nat.lt_irrefl _), if_pos rfl]), Lib.hid r1, Lib.hid ?_, ?_⟩
                · have hw : Rws wq.drew Bs ys (L.map (grpL C i)) := HWq.out
                  exact (hw.otherE HRq.out (by decide) r2).insert hyl
                · exact ⟨r2.os.trans hbq.os, r2.tape.trans hbq.tape, r2.output.trans hbq.output, Nat.le_trans hbq.size r2.size, fun b hb hne => (r2.block b (Nat.lt_of_lt_of_le hb hbq.size) hne).trans (hbq.block b hb)⟩)
              have d2 : wq.cell? ⟨Lc, 0, none⟩ = some (.int .i64 p) := (box_step HBx6.out hbq).cell 0
              have d3 : wq.cell? ⟨Lc, 1, none⟩ = some (.int .i64 q) := (box_step HBx6.out hbq).cell 1
              have d4 := (box_step HBx6.out hbq).lt
              have HS1 : Hid (w1.cell? ⟨Lc, 0, none⟩ = some (.int .i64 p) ∧ w1.cell? ⟨Lc, 1, none⟩ = some (.int .i64 q)) := Lib.hid ⟨r0.cell (a := ⟨Lc, 0, none⟩) d2 (by simp), r0.cell (a := ⟨Lc, 1, none⟩) d3 (by simp)⟩
              have HS2 : Hid (w2.cell? ⟨Lc, 0, none⟩ = some (.int .i64 p) ∧ w2.cell? ⟨Lc, 1, none⟩ = some (.int .i64 q)) := Lib.hid (by
                have hne : some Lc ≠ (Value.slice Av M cv).ownBlock := fun e => absurd (HLow.out _ e.symm) (Nat.lt_irrefl _)
                exact ⟨r2.cell (a := ⟨Lc, 0, none⟩) d2 hne, r2.cell (a := ⟨Lc, 1, none⟩) d3 hne⟩)
              have e3 : (Builtin.append_ #[38, 38] 38 #[.slice (some ⟨wq.heap.size, 0, none⟩) 1 1, srcJ Av M cv j]).run Try.prog ((wq.alloc (.cells #[.int .i64 p, .int .i64 q, .slice none 0 0] 43)).drew) = .ok y w1 := e1
              have HE1 := Lib.hid e3
              have HE2 := Lib.hid e2
              clear e1 e2 e3 r0 r1 r2 hnew hins hnat
              have j0 : (0 : Int) ≤ (j : Int) := Int.natCast_nonneg _
              have j1 : (j : Int) ≤ (M : Int) := by omega
              rcases HRq.out.2 with ⟨hv, h0⟩ | ⟨g, cap, cur, hv, hg, hb, h1, h2, h3, h4⟩
              · obtain ⟨rfl, hM0, rfl⟩ : Av = none ∧ M = 0 ∧ cv = 0 := by simpa using hv
                obtain rfl : j = 0 := by omega
                have HF1 : Hid ((Builtin.append_ #[38, 38] 38 #[.slice (some ⟨wq.heap.size, 0, none⟩) 1 1, .slice none 0 0]).run Try.prog ((wq.alloc (.cells #[.int .i64 p, .int .i64 q, .slice none 0 0] 43)).drew) = .ok y w1) := HE1
                have HF2 : Hid ((Builtin.append_ #[38, 38] 38 #[.slice none 0 0, y]).run Try.prog w1 = .ok v' w2) := HE2
                subst hM0
                clear hv HE1 HE2
                go_upto_region 15 with fail
                go_region_held3 (fun w' => w'.cell? ⟨Lc, 0, none⟩ = some (.int .i64 p) ∧ w'.cell? ⟨Lc, 1, none⟩ = some (.int .i64 q)) (first | exact ⟨d2, d3⟩ | exact HS1.out | exact HS2.out | go_keep)
                  (first
                    | (refine step_append_eq (by rfl) (.tmp 88) (.tmp 91) 38 (by rfl) (.slice (some ⟨wq.heap.size, 0, none⟩) 1 1) (.slice none 0 0) y w1 (by rfl) (by rfl) HF1.out ?_)
                    | (refine step_append_eq (by rfl) (.tmp 85) (.tmp 92) 38 (by rfl) (.slice none 0 0) y v' w2 (by rfl) (by rfl) HF2.out ?_))
                all_goals go_wp2
                all_goals go_meet
                all_goals exact HE.out
              · obtain ⟨rfl, rfl⟩ : Av = some ⟨g, 0, none⟩ ∧ cv = cap := by simpa using hv
                have j2 : (M : Int) ≤ (cv : Int) := by omega
                have j3 : (j : Int) ≤ (cv : Int) := by omega
                have HF1 : Hid ((Builtin.append_ #[38, 38] 38 #[.slice (some ⟨wq.heap.size, 0, none⟩) 1 1, .slice (if cv = j then some ⟨g, 0, none⟩ else some ⟨g, j * 3, none⟩) (M - j) (cv - j)]).run Try.prog ((wq.alloc (.cells #[.int .i64 p, .int .i64 q, .slice none 0 0] 43)).drew) = .ok y w1) := HE1
                have HF2 : Hid ((Builtin.append_ #[38, 38] 38 #[.slice (some ⟨g, 0, none⟩) j cv, y]).run Try.prog w1 = .ok v' w2) := HE2
                clear hv hb h2 h3 h4 HE1 HE2
                go_upto_region 15 with fail
                go_region_held3 (fun w' => w'.cell? ⟨Lc, 0, none⟩ = some (.int .i64 p) ∧ w'.cell? ⟨Lc, 1, none⟩ = some (.int .i64 q)) (first | exact ⟨d2, d3⟩ | exact HS1.out | exact HS2.out | go_keep)
                  (first
                    | (refine step_append_eq (by rfl) (.tmp 88) (.tmp 91) 38 (by rfl) (.slice (some ⟨wq.heap.size, 0, none⟩) 1 1) (.slice (if cv = j then some ⟨g, 0, none⟩ else some ⟨g, j * 3, none⟩) (M - j) (cv - j)) y w1 (by rfl) (by rfl) HF1.out ?_)
                    | (refine step_append_eq (by rfl) (.tmp 85) (.tmp 92) 38 (by rfl) (.slice (some ⟨g, 0, none⟩) j cv) y v' w2 (by rfl) (by rfl) HF2.out ?_))
                all_goals go_wp2
                all_goals go_meet
                all_goals exact HE.out
          case rest =>
            obtain ⟨wy, rfl⟩ : ∃ x : World, x = wc := ⟨_, rfl⟩
            obtain ⟨ys', HY', HAt, HR', HW', hgy⟩ := hcut
            obtain ⟨Av', cv', hv'⟩ := own_form HR'.out
            subst hv'
            have HB' : Hid (Below w.heap.size w wy) := Lib.hid (HBW6.out.grown hgy HBW6.out.size (fun b e => by have h1 := (HR6.out.lt b e).1; have h2 := HBs.out; omega))
            obtain ⟨L', hL'⟩ : ∃ L', L' = celL C (i + 1) := ⟨_, rfl⟩
            have hLi' : L'.length ≤ i + 1 := by rw [hL']; exact celL_len (i + 1)
            rw [← hL'] at HY' HAt HR' HW' ⊢
            have HL' := Lib.hid hL'.symm
            obtain ⟨M', hM'⟩ : ∃ M', M' = L'.length := ⟨_, rfl⟩
            rw [← hM'] at HY' HR' hLi' ⊢
            have HMl' := Lib.hid hM'.symm
            have hjM : j < M' := by rw [hM']; exact (List.getElem?_eq_some_iff.1 HAt.out).1
            obtain ⟨g, c0, hform, hg0, hg1⟩ := HR'.out.form (by omega)
            obtain ⟨rfl, rfl⟩ : Av' = some ⟨g, 0, none⟩ ∧ cv' = c0 := by simpa using hform
            obtain ⟨xv, hxv⟩ : ∃ xv, ys'[j]? = some xv := ⟨_, List.getElem?_eq_getElem (by rw [HY'.out]; exact hjM)⟩
            have hrow : (L'.map (grpL C i))[j]? = some (grpL C i (p, q)) := by rw [List.getElem?_map, HAt.out]; rfl
            have hox := HW'.out.2.1 j xv _ hxv hrow
            have hgl := grp_len (C := C) i (p, q)
            have HAdd : Hid ((L'.map (grpL C i)).set j (grpL C i (p, q) ++ [i]) = L'.map (grpL C (i + 1))) := Lib.hid (rows_add (by rw [hL']; exact srt_celL _) HAt.out HCk.out)
            obtain ⟨_, _, k2⟩ := bkV_get HAt.out hxv
            generalize grpL C i (p, q) = r at *
            obtain ⟨Ax, cx, hxx⟩ := own_form hox
            subst hxx
            obtain ⟨R, hRe⟩ : ∃ R, R = r.length := ⟨_, rfl⟩
            have HRe := Lib.hid hRe
            rw [← hRe] at hox hgl hxv k2
            have HOx := Lib.hid hox
            have HXv := Lib.hid hxv
            have HRow := Lib.hid hrow
            have d0 : wy.cell? ⟨g, j * 3 + 2, none⟩ = some (.slice Ax R cx) := row_cell HR'.out k2
            have d1 : wy.frozen? ⟨g, j * 3 + 2, none⟩ = false := row_frozen HR'.out _
            have j0 : (0 : Int) ≤ (j : Int) := Int.natCast_nonneg _
            have j1 : (j : Int) < (M' : Int) := by omega
            have hBy : Bs ≤ wy.heap.size := by omega
            clear hgy hL' hM' hform hox hxv hrow k2 hRe HCel HIns HBx6 HR6 HW6 HBW6 HP HQ HLow
            go_upto_region 16 with fail
            go_wp2_with (at_builtin; go_loud (refine wpList_append_lies _ rfl _ _ 41 rfl Bs 3 i0_ (.int .i64 0) 1 8 Try.underlying41 hI0.out hZ0.out hZ1.out hZ2.out rfl (by decide) (.slice Ax R cx) R (natV r) rfl (HOx.out.alloc _) ⟨wy.heap.size, 0, none⟩ 1 1 [.int .i64 (i : Int)] rfl rfl (World.news_of_block (cs := #[.int .i64 (i : Int)]) (t := 3) (fr := (0, 0)) (heap_alloc_new wy _)) (by simp [Value.oneCell']) (by decide) (by unfold maxLen; omega) (by omega) (by simp; omega) _ rfl ?_; intro gg cap1 w7 hown7 hgrow hat hlt7; obtain ⟨e0, e1, h7⟩ := idx_step HR'.out HOx.out hgrow d0; have HR7 := Lib.hid h7; have HOwn7 := Lib.hid hown7; have HGrow := Lib.hid hgrow; have HAt7 := Lib.hid hat; clear hown7 hgrow hat h7 d0 d1))
            obtain ⟨nv, hnv⟩ : ∃ nv, nv = Value.slice (some ⟨gg, 0, none⟩) (R + 1) cap1 := ⟨_, rfl⟩
            rw [← hnv]
            obtain ⟨t1, t2⟩ := HR7.out.stored (j * 3 + 2) nv
            rw [bkV_set _ _ (by rw [HY'.out, HMl'.out])] at t1
            have hba : Below wy.heap.size wy (wy.alloc (.cells #[.int .i64 (i : Int)] 3)) := (Below.refl _ wy).alloc (Nat.le_refl _) _
            have HR8 := Lib.hid t1
            have HW8 : Hid (Rws (w7.setCell ⟨g, j * 3 + 2, none⟩ nv) Bs (ys'.set j nv) (L'.map (grpL C (i + 1)))) := Lib.hid (by
              have hx2 := HXv.out
              have ho2 := HOwn7.out
              have hg2 := HGrow.out
              have ha2 := HAt7.out
              rw [HRe.out] at hx2 ho2 hg2 ha2
              have h1 := (HW'.out.below hba).add (i := i) (g1 := gg) (c1 := cap1) hx2 HRow.out ho2 hg2 (ha2.elim .inl (fun h => .inr (Nat.le_of_eq h.symm)))
              rw [HAdd.out, ← HRe.out, ← hnv] at h1
              exact h1.otherE HR7.out (by decide) t2)
            have HB8 : Hid (Below w.heap.size w (w7.setCell ⟨g, j * 3 + 2, none⟩ nv)) := Lib.hid (by
              have h1 := below_step HB'.out hba
              have h2 := h1.grown HGrow.out h1.size (fun b e => by have h3 := (HOx.out.lt b e).1; have h4 := HBs.out; omega)
              exact h2.grown t2 h2.size (fun b e => by obtain rfl := Option.some.inj e; have h4 := HBs.out; omega))
            have HY8 : Hid ((ys'.set j nv).length = M') := Lib.hid (by rw [List.length_set]; exact HY'.out)
            refine ⟨⟨i + 1, _, ys'.set j nv, by omega, rfl, by go_num, ?_⟩, by simp [intOf]; omega⟩
            rw [HL'.out, HMl'.out]
            exact ⟨HY8, HR8, HW8, HB8⟩
    · obtain rfl : i = n := by omega
      obtain ⟨Av, cv, hv⟩ := own_form HR.out
      subst hv
      have HRes : Hid (∃ v, (Ending.returned (.tuple #[.slice Av (celL C i).length cv, .int .i64 0])) = .returned (.tuple #[v, .int .i64 (gridF i X Y V s)]) ∧ Bks wr v (idxL i X Y V s) (idxR i X Y V s) ∧ Below w.heap.size w wr) := Lib.hid (by
        refine ⟨_, by rw [HGr.out], ?_, HB.out⟩
        have hLL : idxL i X Y V s = celL C i := by unfold idxL; rw [if_pos HGr.out, HC.out]
        have hRR : idxR i X Y V s = (celL C i).map (grpL C i) := by unfold idxR; rw [hLL, HC.out]
        rw [hLL, hRR]
        exact ⟨Bs, ys, HY.out, by simp, HR.out, fun j y r hy hr => ⟨Bs, HW.out.2.1 j y r hy hr⟩⟩)
      obtain ⟨M, hM⟩ : ∃ M, M = (celL C i).length := ⟨_, rfl⟩
      rw [← hM] at HRes ⊢
      clear HY HR HW HB hM
      go_wp2
      exact bodyPost_ret (v := .tuple #[.slice Av M cv, .int .i64 0]) (by simp [results, Try.results26, go_sem]) rfl HRes.out
end Go.Proofs.Ytaehfildhmljeaa
