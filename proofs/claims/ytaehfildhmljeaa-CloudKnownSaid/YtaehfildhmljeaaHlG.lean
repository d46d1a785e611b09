/- A range over a function whose body never leaves the loop, over an iterator that writes cells of its own: what is asked of the iterator is asked at the one relation of the caller's. The program's Hull of any cloud. -/
import Derived.Test.YtaehfildhmljeaaCor
import Derived.Test.YtaehfildhmljeaaRHl
import Derived.Test.YtaehfildhmljeaaChkC
import Derived.Maps.AppendAt
import Derived.Maps.OwnIn
namespace Go.Proofs.Ytaehfildhmljeaa
open Go.RowKit Go.Shelf

section
variable {F : Fence} {n : Nat} {P : Program} {w : World} {α : Type}
/-- The caller's relation, and both blocks of the loop as they lie between two rounds. -/
def Btw (I : List α → World → Prop) (D : Nat) (o1 o2 : Obj) (pre : List α) (W : World) : Prop := I pre W ∧ W.heap[D + 1]? = some o1 ∧ W.heap[D]? = some o2
/-- What the body of a round ends with. -/
def Bdy (D : Nat) (Kp : World → World → Prop) (I : List α → World → Prop) (pre : List α) (W : World) : Exit → Act → World → Prop
  | .normal, _, W' => KeepsFrom D W W' ∧ Kp W W' ∧ I pre W'
  | _, _, _ => False

theorem range_all {g : Operand} {ps : Array Tmp} {assign body : Code} {Q : Exit → Act → World → Prop} {a : Act} (hro : F.round = none) (h1 : 1 ≤ n) {gf : Nat} {lb : Array Value}
    (hg : a.eval g = .func (.func gf) #[] lb) (hFg : F.fn gf) (eg : ∀ args w, (callFunc gf args).run P w = .ok (.enter gf args) w) {encs : α → Array Value} (hps : ∀ x, (encs x).size = ps.size) {N : Nat} {xs : List α}
    (Kp : World → World → Prop) (hKt : ∀ {A B C : World}, Kp A B → Kp B C → Kp A C) (I : List α → World → Prop)
    (hKb : ∀ (s : List α) (W : World) (l : Nat) (o o' : Obj), I s W → w.heap.size ≤ l → W.heap[l]? = some o → o.isCells = false → o.isWalk = false → Kp W (W.putObj l o'))
    (hIa : ∀ s W o, I s W → I s (W.alloc o)) (hIp : ∀ s W l o o', I s W → w.heap.size ≤ l → W.heap[l]? = some o → o.isCells = false → I s (W.putObj l o')) (h0 : I [] w)
    (Ax : α → Act → World → Prop) (hAp : ∀ x a' W l o o', Ax x a' W → w.heap.size ≤ l → W.heap[l]? = some o → o.isCells = false → Ax x a' (W.putObj l o'))
    (hseq : ∀ (o1 o2 : Obj) (W : World), o1.isCells = false → o2.isCells = false → Below w.heap.size w W → W.heap.size = w.heap.size + 2 →
      (∀ pre x W1, Btw I w.heap.size o1 o2 pre W1 → pre.length < N → YieldAt F (n - 1 - 1) P (w.heap.size + 1) (encs x) W1 fun e W' => e = .returned (.bool true) ∧ Btw I w.heap.size o1 o2 (pre ++ [x]) W' ∧ Kp W1 W') →
      Btw I w.heap.size o1 o2 [] W → CallsIn F (n - 1) P gf (#[.func (.yield (w.heap.size + 1)) #[] #[]] ++ lb) W fun e W' => (∃ v, e = .returned v) ∧ Btw I w.heap.size o1 o2 xs W')
    (hassign : ∀ (l : Nat) (pre : List α) (x : α) (W : World) (K : Act → World → Prop), I pre W → (∀ a' W', KeepsFrom w.heap.size W W' → Kp W W' → I pre W' → Ax x a' W' → K a' W') →
      assign.wpIn (F.inRound l) (n - 1 - 1) P (Exit.then K (fun _ _ _ => False)) { tmps := (ps.zip (encs x)).foldl (fun t (p, v) => t.setIfInBounds p v) a.tmps, defers := [] } W)
    (hbody : ∀ (l : Nat) (pre : List α) (x : α) (a' : Act) (W : World), I pre W → Ax x a' W → pre.length < N → body.wpIn (F.inRound l) (n - 1 - 1) P (Bdy w.heap.size Kp I (pre ++ [x]) W) a' W)
    (hdone : ∀ (W : World), I xs W → W.heap[w.heap.size]? = some (.deferred (some [])) → Q .normal { a with defers := { target := .collected w.heap.size, args := #[] } :: a.defers } W) :
    (Code.rangeFunc g ps assign body).wpIn F n P Q a w := by
  refine wpIn_rangeFunc fun fn hfn => ?_
  rw [hro]
  obtain ⟨D, hD⟩ : ∃ D, D = w.heap.size := ⟨_, rfl⟩
  rw [← hD] at hKb hIp hAp hseq hassign hbody hdone
  obtain ⟨rc, hrc⟩ : ∃ rc : LoopState → Loop, rc = fun st => { state := st, pending := none, fn, tmps := a.tmps, params := ps, assign, body, defers := D } := ⟨_, rfl⟩
  obtain ⟨W1, hW1⟩ : ∃ W1, W1 = (w.alloc (.deferred (some []))).alloc (.loop (rc .ready)) := ⟨_, rfl⟩
  have hs1 : W1.heap.size = D + 2 := by rw [hW1, hD]; simp
  have hL : W1.heap[D + 1]? = some (.loop (rc .ready)) := by
    have h := World.alloc_heap_new (w.alloc (.deferred (some []))) (.loop (rc .ready))
    rw [World.size_alloc] at h
    rw [hW1, hD]
    exact h
  have hK : W1.heap[D]? = some (.deferred (some [])) := by
    rw [hW1, hD]
    exact (Below.heap_alloc _ _ _ (by simp)).trans (World.alloc_heap_new w _)
  have hI1 : I [] W1 := by rw [hW1]; exact hIa _ _ _ (hIa _ _ _ h0)
  have hb1 : Below D w W1 := by rw [hW1, hD]; exact ((Below.refl _ w).alloc (Nat.le_refl _) _).alloc (by simp) _
  refine ⟨D + 1, [{ target := .collected D, args := #[] }], W1, { target := .fn (.func gf) lb, args := #[.func (.yield (D + 1)) #[] #[]] }, W1, gf, #[.func (.yield (D + 1)) #[] #[]] ++ lb, W1, ?_, ?_, ?_, ?_, fun _ => h1, ?_⟩
  · rw [hW1, hrc, hD]
    exact run_enterLoop_outer _ _ _ _ _
  · simp only [resolve, hg]
    simp [go_sem]
  · intro f' hf'
    simp [Target.leads] at hf'
    subst hf'
    exact hFg
  · simp [invoke, go_sem, eg]
  · refine (hseq (.loop (rc .ready)) (.deferred (some [])) W1 rfl rfl hb1 hs1 ?_ ⟨hI1, hL, hK⟩).mono ?_
    · rintro pre x W ⟨hi, hl, hk⟩ hlen
      have hy := run_yield (P := P) (args := encs x) hl (by rw [hrc]; exact hps x)
      rw [hrc] at hy
      refine ⟨fn, _, assign, body, hy, roundIn_of_wpIn hfn (hassign _ pre x W _ hi fun a' Wa hka hkp hia hax => ?_)⟩
      have hl2 := hka.same _ _ (Nat.le_succ D) hl rfl
      have hk2 := hka.same _ _ (Nat.le_refl D) hk rfl
      have hlt := (Array.getElem?_eq_some_iff.1 hl2).1
      obtain ⟨Wb, hWb⟩ : ∃ Wb, Wb = Wa.putObj (D + 1) (.loop { rc .ready with state := .busy }) := ⟨_, rfl⟩
      have hl3 : Wb.heap[D + 1]? = some (.loop { rc .ready with state := .busy }) := by rw [hWb]; exact World.putObj_heap_same hlt
      have hk3 : Wb.heap[D]? = some (.deferred (some [])) := by rw [hWb]; exact (World.putObj_heap_other (by omega)).trans hk2
      have hkb : Kp Wa Wb := by rw [hWb]; exact hKb _ _ _ _ _ hia (by omega) hl2 rfl rfl
      refine ⟨Wb, by rw [hWb]; exact run_beginRound hl2 (by rw [hrc]), ?_⟩
      have hib : I pre Wb := by rw [hWb]; exact hIp _ _ _ _ _ hia (by omega) hl2 rfl
      have haxb : Ax x a' Wb := by rw [hWb]; exact hAp _ _ _ _ _ _ hax (by omega) hl2 rfl
      refine wpIn_mono (hbody _ pre x a' Wb hib haxb hlen) ?_
      intro e a3 W3 hp
      cases e with
      | normal =>
        obtain ⟨hk4, hkp4, hi4⟩ := hp
        have hl4 := hk4.same _ _ (Nat.le_succ D) hl3 rfl
        have hk5 := hk4.same _ _ (Nat.le_refl D) hk3 rfl
        have hr := run_endRound (P := P) none hl4
        rw [hrc] at hr hl4
        refine ⟨_, _, hr, rfl, ⟨hIp _ _ _ _ _ hi4 (by omega) hl4 rfl, ?_, (World.putObj_heap_other (by omega)).trans hk5⟩, hKt hkp (hKt hkb (hKt hkp4 (hKb _ _ _ _ _ hi4 (by omega) hl4 rfl rfl)))⟩
        rw [World.putObj_heap_same (Array.getElem?_eq_some_iff.1 hl4).1, hrc]
        rfl
      | _ => exact hp.elim
    · rintro e W2 ⟨⟨v, rfl⟩, hi, hl, hk⟩
      have hr := run_endLoop (P := P) hl (by rw [hrc]; simp)
      rw [hrc] at hr hl
      exact ⟨none, _, hr, hdone _ (hIp _ _ _ _ _ hi (by omega) hl rfl) ((World.putObj_heap_other (by omega)).trans hk)⟩
end
end Go.Proofs.Ytaehfildhmljeaa

namespace Go.Proofs.Ytaehfildhmljeaa
open Go.RowKit Go.Shelf
attribute [local go_sem] Oper.semAt_some

theorem corners_fn (A : Option Addr) (n cap : Nat) (w : World) :
    Calls Try.prog 84 #[.slice A n cap] w fun e w' => e = .returned (.func (.func 115) #[] #[.pointer (some ⟨w.heap.size, 0, none⟩)]) ∧ w' = w.alloc (.cells #[.slice A n cap] 22) := by
  go_enter Try.func84, Try.ntmps84
  go_wp2
  go_ret
  exact ⟨rfl, rfl⟩
theorem HulAll.nil {n : Nat} {X Y V : Nat → Int} {w w' : World} (h : chkF n X Y V ≠ 0) (hb : Below w.heap.size w w') : HulAll n X Y V w (.returned (.slice none 0 0)) w' := by
  unfold HulAll
  rw [if_neg h]
  exact ⟨_, 0, rfl, World.ownsRow_nil _ _ _ _, hb⟩
theorem putObj_below {W : World} {B l : Nat} (h : B ≤ l) (o : Obj) : Below B W (W.putObj l o) := ⟨rfl, rfl, rfl, by simp, fun k hk => World.putObj_heap_other (by omega)⟩

set_option maxRecDepth 100000 in
set_option maxHeartbeats 8000000 in
theorem hull_in (m : Nat) (hm : 3 ≤ m) (A : Option Addr) (n cap : Nat) (X Y V : Nat → Int) (hok : chkF n X Y V = 0) (w : World) (hcl : Cloud w A n X Y V) :
    CallsIn Fence.wide m Try.prog 42 #[.slice A n cap] w (HulAll n X Y V w) := by
  have hn : n ≤ 1000 := chkF_le hok
  have hvp : ∀ i, i < n → vp (X i, Y i) = true := fun i hi => by
    obtain ⟨o1, o2, _⟩ := ok_at hok hi
    exact (vp_iff _).2 ⟨o1, o2⟩
  have HCh : Hid (∀ W, Below w.heap.size w W → Calls Try.prog 22 #[.slice A n cap] W fun e w' => e = .returned (.int .i64 0) ∧ Below W.heap.size W w') := Lib.hid (fun W hW => by
    have h := check_any A n cap X Y V W (hcl.below hW)
    rwa [hok] at h)
  have HCL := Lib.hid hcl
  have HOk := Lib.hid hok
  obtain ⟨i0_, hi0, hz0, hz1, hz2⟩ := info_parts Try.info24
  have hI0 := Lib.hid hi0
  have hZ0 := Lib.hid hz0
  have hZ1 := Lib.hid hz1
  have hZ2 := Lib.hid hz2
  clear hi0 hz0 hz1 hz2 hcl hok
  refine callsIn_of_wp_marks Try.func42 rfl trivial ?_ rfl
  simp only [Try.ntmps42, List.size_toArray, List.length_cons, List.length_nil, Nat.reduceAdd, Nat.reduceSub, Array.replicate_succ, Array.replicate_zero, List.push_toArray, List.append_toArray, List.nil_append, List.cons_append]
  gi_wp2_with (first
    | (refine ⟨trivial, fun _ => by omega, ?_⟩; gi_at_call 22; refine (callsIn_wide.2 (HCh.out _ (Below.refl _ _))).mono ?_; rintro e w1 ⟨rfl, hb1⟩)
    | (refine ⟨trivial, fun _ => by omega, ?_⟩; gi_at_call 84; refine (callsIn_wide.2 (corners_fn A n cap _)).mono ?_; rintro e w2 ⟨rfl, rfl⟩))
  obtain ⟨z, hz⟩ : ∃ z, z = w1.heap.size := ⟨_, rfl⟩
  obtain ⟨W0, hW0⟩ : ∃ W0, W0 = (w1.alloc (.cells #[.slice none 0 0] 56)).alloc (.cells #[.slice A n cap] 22) := ⟨_, rfl⟩
  have hs0 : W0.heap.size = z + 2 := by rw [hW0, hz]; simp
  have hB10 : Below w1.heap.size w1 W0 := by rw [hW0]; exact ((Below.refl _ w1).alloc (Nat.le_refl _) _).alloc (by simp) _
  have hB0 : Below w.heap.size w W0 := below_step hb1 hB10
  have sZ : BoxAt W0 z 56 #[.slice none 0 0] := by rw [hW0, hz]; exact (BoxAt.new w1 56 _).alloc _
  have sC : BoxAt W0 (z + 1) 22 #[.slice A n cap] := by
    rw [hW0, hz]
    have := BoxAt.new (w1.alloc (.cells #[.slice none 0 0] 56)) 22 #[.slice A n cap]
    rwa [World.size_alloc] at this
  have hzw : w.heap.size ≤ z := by rw [hz]; exact hb1.size
  rw [← hW0, ← hz]
  clear hW0 hz hb1 hB10
  have HI : Hid (∀ (s : List Pt) (W : World) (l : Nat) (o o' : Obj), ((∃ v, BoxAt W z 56 #[v] ∧ W.ownsRow (z + 2) 24 2 v s.length (ptV s)) ∧ Below w.heap.size W0 W) → W0.heap.size ≤ l → W.heap[l]? = some o → o.isCells = false →
      ((∃ v, BoxAt (W.putObj l o') z 56 #[v] ∧ (W.putObj l o').ownsRow (z + 2) 24 2 v s.length (ptV s)) ∧ Below w.heap.size W0 (W.putObj l o'))) := Lib.hid (fun s W l o o' ⟨⟨v, h1, h2⟩, h3⟩ hl ho hc => by
    refine ⟨⟨v, (World.putObj_heap_other (by omega)).trans h1, ?_⟩, h3.trans (putObj_below (by omega) o')⟩
    refine h2.kept (grownBy_putObj' W l o') ?_
    rcases h2.2 with ⟨rfl, _⟩ | ⟨g, cap', cur, rfl, _, hg, _⟩
    · exact Or.inl rfl
    · refine Or.inr (fun e => ?_)
      obtain rfl : g = l := by simpa [Value.ownBlock] using e
      rw [hg] at ho
      obtain rfl := Option.some.inj ho
      cases hc)
  refine range_all (F := Fence.wide) (P := Try.prog) (α := Pt) rfl (by omega) (gf := 115) (lb := #[.pointer (some ⟨z + 1, 0, none⟩)]) rfl trivial (enters_of Try.func115 (by kernel_rfl) rfl)
    (encs := fun x : Pt => #[sp x.1 x.2]) (fun _ => rfl) (N := 2001) (xs := hulL (celL (spF X Y) n)) (KpH w.heap.size (z + 2) z) KpH.trans
    (fun pre W => (∃ v, BoxAt W z 56 #[v] ∧ W.ownsRow (z + 2) 24 2 v pre.length (ptV pre)) ∧ Below w.heap.size W0 W)
    ?kb (fun s W o ⟨⟨v, h1, h2⟩, h3⟩ => ⟨⟨v, h1.alloc _, h2.alloc _⟩, h3.alloc (by have := h3.size; omega) _⟩) HI.out ⟨⟨_, sZ, World.ownsRow_nil _ _ _ _⟩, Below.refl _ _⟩
    (fun x a' W => ∃ Bx, BoxAt W Bx 24 #[.int .i64 x.1, .int .i64 x.2] ∧
      a' = { tmps := #[.slice A n cap, undef, .slice none 0 0, .pointer (some ⟨z, 0, none⟩), .pointer (some ⟨Bx, 0, none⟩), .slice A n cap, .int .i64 0, .bool false, .slice A n cap, .func (.func 115) #[] #[.pointer (some ⟨z + 1, 0, none⟩)], sp x.1 x.2, undef, undef, undef, undef, undef], defers := [] })
    ?ap ?seq ?assign ?body ?done
  case kb =>
    intro s W l o o' hI hl ho hc hw
    refine ⟨putObj_below (by omega) o', fun k cs t fr hk hcs _ => ?_, fun k hk hu hu' => hu (hu'.back (by obtain ⟨⟨v, h1, _⟩, _⟩ := hI; exact h1.lt) (grownBy_putObj' W l o') (by simp; omega))⟩
    have hne : k ≠ l := by rintro rfl; rw [hcs] at ho; obtain rfl := Option.some.inj ho; cases hc
    exact (World.putObj_heap_other hne).trans hcs
  case ap =>
    rintro x a' W l o o' ⟨Bx, h1, h2⟩ hl ho hc
    refine ⟨Bx, ?_, h2⟩
    have hne : Bx ≠ l := by
      rintro rfl
      rw [show W.heap[Bx]? = _ from h1] at ho
      obtain rfl := Option.some.inj ho
      cases hc
    exact (World.putObj_heap_other hne).trans h1
  case seq =>
    intro o1 o2 W ho1 ho2 hb hsz hY hJ0
    have hBW : Below w.heap.size w W := hB0.trans (hb.mono hB0.size)
    refine corners_in (m - 1) (by omega) (W0.heap.size + 1) (z + 1) w.heap.size (z + 2) z A n cap X Y V hn hvp (Btw _ W0.heap.size o1 o2) W (HCL.out.below hBW) ?_ ?_ (by omega) hY (sC.below hb (by omega)) (by omega) (by omega) hJ0
    · rintro s A' B' row ⟨⟨⟨v, h1, h2⟩, h3⟩, h4, h5⟩ hg hr
      have hnz : ∀ r, row = some r → r ≠ z := fun r e => by have := (hr r e).1; omega
      refine ⟨⟨⟨v, h1.grown hg (fun e => hnz z e.symm rfl), h2.kept hg ?_⟩, h3.grown hg (by have := h3.size; omega) (fun b e => by have := (hr b e).1; omega)⟩, ?_, ?_⟩
      · cases hb2 : v.ownBlock with
        | none => exact Or.inl rfl
        | some b => exact Or.inr (fun e => (hr b e.symm).2.2 ⟨v, h1, hb2⟩)
      · refine (hg.block _ (Array.getElem?_eq_some_iff.1 h4).1 (fun e => ?_)).trans h4
        obtain ⟨cs, t, fr, h6⟩ := (hr _ e.symm).2.1
        rw [h4] at h6
        obtain rfl := Option.some.inj h6
        cases ho1
      · refine (hg.block _ (Array.getElem?_eq_some_iff.1 h5).1 (fun e => ?_)).trans h5
        obtain ⟨cs, t, fr, h6⟩ := (hr _ e.symm).2.1
        rw [h5] at h6
        obtain rfl := Option.some.inj h6
        cases ho2
    · rintro s A' ⟨⟨⟨v, h1, h2⟩, h3⟩, h4, h5⟩
      refine ⟨h1.lt, fun r ⟨v', h6, h7⟩ => ?_⟩
      have : v = v' := by
        have h8 := Option.some.inj ((show A'.heap[z]? = _ from h1).symm.trans h6)
        simpa using h8
      subst this
      exact (h2.lt r h7).2
  case assign =>
    rintro l pre x W K ⟨⟨v, h1, h2⟩, h3⟩ hK
    gi_wp2
    refine hK _ _ ((KeepsOthers.alloc _ _).from _) ⟨(Below.refl _ W).alloc (by have := h3.size; omega) _, fun k cs t fr hk hcs _ => (Below.heap_alloc W _ k (Array.getElem?_eq_some_iff.1 hcs).1).trans hcs, fun k hk hu hu' => hu (hu'.back h1.lt (World.grownBy_alloc W _ none) (by simp))⟩ ⟨⟨v, h1.alloc _, h2.alloc _⟩, h3.alloc (by have := h3.size; omega) _⟩ ⟨W.heap.size, BoxAt.new _ _ _, rfl⟩
  case body =>
    rintro l pre x a' W ⟨⟨v, h1, h2⟩, h3⟩ ⟨Bx, hbx, rfl⟩ hlen
    have HO := Lib.hid h2
    have k0 : W.cell? ⟨Bx, 0, none⟩ = some (.int .i64 x.1) := hbx.cell 0
    have k1 : W.cell? ⟨Bx, 1, none⟩ = some (.int .i64 x.2) := hbx.cell 1
    have s0 : W.cell? ⟨z, 0, none⟩ = some v := h1.cell 0
    have s1 : W.frozen? ⟨z, 0, none⟩ = false := h1.frozen 0
    have hsl := h1.lt
    have hbl := hbx.lt
    have hzD : z + 2 ≤ W.heap.size := by have := h3.size; omega
    gi_wp2_with (gi_at_builtin; refine wpListIn_append_own_at _ rfl _ _ 56 rfl (z + 2) 24 i0_ (.agg #[.int .i64 0, .int .i64 0]) 2 16 Try.underlying56 hI0.out hZ0.out hZ1.out hZ2.out rfl (by decide) v pre.length (ptV pre) rfl (HO.out.alloc _) ⟨W.heap.size, 0, none⟩ 1 1 [.int .i64 x.1, .int .i64 x.2] rfl rfl (World.news_of_block (cs := #[.int .i64 x.1, .int .i64 x.2]) (t := 24) (fr := (0, 0)) (heap_alloc_new W _)) (by simp [Value.oneCell']) (by unfold maxLen; omega) (by omega) (by simp; omega) ?_; intro v' w7 hown7 hgrow _ hat; obtain ⟨g', cap', rfl, hg1, hg2⟩ := hown7.form (by omega); have hb7 : Hid (BoxAt w7 z 56 #[v]) := Lib.hid ((h1.alloc _).grown hgrow (fun e => by have := (HO.out.lt z e.symm).1; omega)); have c7 : w7.cell? ⟨z, 0, none⟩ = some v := BoxAt.cell hb7.out 0; have f7 : w7.frozen? ⟨z, 0, none⟩ = false := BoxAt.frozen hb7.out 0)
    have hba : Below W.heap.size W (W.alloc (.cells #[.int .i64 x.1, .int .i64 x.2] 24)) := (Below.refl _ W).alloc (Nat.le_refl _) _
    have hrc : ∀ b, v.ownBlock = some b → z + 2 ≤ b ∧ ∃ cur, (W.alloc (.cells #[.int .i64 x.1, .int .i64 x.2] 24)).heap[b]? = some (.cells cur 24 (0, 0)) := fun b e => by
      rcases (HO.out.alloc (.cells #[.int .i64 x.1, .int .i64 x.2] 24)).2 with ⟨h, _⟩ | ⟨g, cap', cur, h, hb, hg, _⟩
      · rw [h] at e; cases e
      · rw [h] at e
        obtain rfl : g = b := by simpa [Value.ownBlock] using e
        exact ⟨hb, cur, hg⟩
    have hfin : ∀ k, k < W.heap.size → k ≠ z → some k ≠ v.ownBlock → (w7.setCell ⟨z, 0, none⟩ (.slice (some ⟨g', 0, none⟩) (pre.length + 1) cap')).heap[k]? = W.heap[k]? := fun k hk hkz hkv => by
      rw [Below.heap_setCell w7 _ _ k hkz, hgrow.block k (by simp; omega) hkv, Below.heap_alloc W _ k hk]
    refine ⟨(((KeepsOthers.alloc W _).trans (KeepsOthers.of_grownBy hgrow (fun j o e ho => by obtain ⟨_, cur, hc⟩ := hrc j e; rw [hc] at ho; cases ho; rfl))).trans (KeepsOthers.setCell _ _ _)).from _, ⟨?_, fun k cs t fr hk hcs hu => ?_, fun k hk hu hu' => ?_⟩, ⟨⟨_, hb7.out.set 0 _, ?_⟩, ?_⟩⟩
    · exact ((((Below.refl w.heap.size W).alloc (by omega) _).grown hgrow (by simp; omega) (fun b e => by have := (hrc b e).1; omega))).setCell (p := ⟨z, 0, none⟩) (by show w.heap.size ≤ z; omega) _
    · have hkl := (Array.getElem?_eq_some_iff.1 hcs).1
      rw [hfin k hkl (by omega) (fun e => hu ⟨v, h1, e.symm⟩)]
      exact hcs
    · obtain ⟨v2, h6, h7⟩ := hu'
      have h8 : v2 = .slice (some ⟨g', 0, none⟩) (pre.length + 1) cap' := by
        have h9 := Option.some.inj ((show _ = _ from h6).symm.trans (hb7.out.set 0 (.slice (some ⟨g', 0, none⟩) (pre.length + 1) cap')))
        simpa using h9
      rw [h8] at h7
      rcases hat with h | h
      · exact hu ⟨v, h1, h.symm.trans h7⟩
      · rw [h] at h7
        have : (W.alloc (.cells #[.int .i64 x.1, .int .i64 x.2] 24)).heap.size = k := Option.some.inj h7
        simp at this
        omega
    · rw [List.length_append, ptV_append]
      exact hown7.kept (grownBy_setCell' _ _ _) (.inr (by simp [Value.ownBlock]; omega))
    · exact ((h3.alloc (by omega) _).grown hgrow (by simp; omega) (fun b e => by have := (hrc b e).1; omega)).setCell (p := ⟨z, 0, none⟩) (by show w.heap.size ≤ z; omega) _
  case done =>
    rintro W ⟨⟨v, h1, h2⟩, h3⟩ hK
    have s0 : W.cell? ⟨z, 0, none⟩ = some v := h1.cell 0
    have HRes : Hid (HulAll n X Y V w (.returned v) (W.putObj W0.heap.size (.deferred none))) := Lib.hid (by
      unfold HulAll
      rw [if_pos HOk.out]
      refine ⟨v, z + 2, rfl, ?_, (hB0.trans h3).trans (putObj_below (by omega) _)⟩
      refine h2.kept (grownBy_putObj' W _ _) ?_
      rcases h2.2 with ⟨rfl, _⟩ | ⟨g, cap', cur, rfl, _, hg, _⟩
      · exact Or.inl rfl
      · refine Or.inr (fun e => ?_)
        obtain rfl : g = W0.heap.size := by simpa [Value.ownBlock] using e
        rw [hg] at hK
        cases hK)
    clear h1 h2 h3
    gi_wp2
    refine ⟨by simp, .inl ⟨_, _, rfl, run_takeDeferred hK, ?_⟩⟩
    refine ⟨v, ?_, HRes.out⟩
    exact results_tmp (show Try.f42.results = #[.tmp 2] from rfl) _ _ _

theorem hull_any (A : Option Addr) (n cap : Nat) (X Y V : Nat → Int) (w : World) (hcl : Cloud w A n X Y V) :
    Calls Try.prog 42 #[.slice A n cap] w (HulAll n X Y V w) := by
  by_cases hok : chkF n X Y V = 0
  · exact callsIn_wide.1 (hull_in 3 (Nat.le_refl _) A n cap X Y V hok w hcl)
  · have HK := Lib.hid (check_any A n cap X Y V w hcl)
    have HZ := Lib.hid hok
    obtain ⟨z, hz⟩ : ∃ z, z = chkF n X Y V := ⟨_, rfl⟩
    rw [← hz] at HK hok
    clear hcl hz
    go_enter Try.func42, Try.ntmps42
    go_wp2_with (go_at_call 22; (with_reducible refine HK.out.mono ?_); rintro e w1 ⟨rfl, hb1⟩)
    go_ret
    exact HulAll.nil HZ.out hb1
theorem rhull_any (A : Option Addr) (n cap : Nat) (X Y V : Nat → Int) (w : World) (hcl : Cloud w A n X Y V) :
    Calls Try.prog 43 #[.slice A n cap] w (HulAll n X Y V w) := by
  by_cases hok : chkF n X Y V = 0
  · rcases Nat.eq_zero_or_pos n with h0 | h0
    · have HK := Lib.hid (rcheck_any A n cap X Y V w hcl)
      rw [hok] at HK
      have HE : Hid (∀ w', Below w.heap.size w w' → HulAll n X Y V w (.returned (.slice none 0 0)) w') := Lib.hid (fun w' hb => by
        unfold HulAll
        rw [if_pos hok, h0]
        exact ⟨_, 0, rfl, World.ownsRow_nil _ _ _ _, hb⟩)
      clear hok hcl
      subst h0
      go_enter Try.func43, Try.ntmps43
      go_wp2_with (go_at_call 23; (with_reducible refine HK.out.mono ?_); rintro e w1 ⟨rfl, hb1⟩)
      go_ret
      exact HE.out _ hb1
    · exact rhull_good A n cap X Y V hok h0 w hcl
  · have HK := Lib.hid (rcheck_any A n cap X Y V w hcl)
    have HZ := Lib.hid hok
    obtain ⟨z, hz⟩ : ∃ z, z = chkF n X Y V := ⟨_, rfl⟩
    rw [← hz] at HK hok
    clear hcl hz
    go_enter Try.func43, Try.ntmps43
    go_wp2_with (go_at_call 23; (with_reducible refine HK.out.mono ?_); rintro e w1 ⟨rfl, hb1⟩)
    go_ret
    exact HulAll.nil HZ.out hb1
end Go.Proofs.Ytaehfildhmljeaa
