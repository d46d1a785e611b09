/- The program's Register of valid clouds, window and slack in range. -/
import Derived.Test.YtaehfildhmljeaaCand
namespace Go.Proofs.Ytaehfildhmljeaa
open Go.RowKit Go.Shelf
attribute [local go_sem] Oper.semAt_some

theorem boxAt_own {β : Type} (g : Nat) (t : TypeId) (f : β → Array Value) : Own (fun s W => BoxAt W g t (f s)) := by
  intro s W W' row h hg hr
  refine h.grown hg (fun e => ?_)
  obtain ⟨o, ho, hc⟩ := hr g e.symm
  rw [show W.heap[g]? = _ from h] at ho
  cases ho; cases hc
theorem own_and {β : Type} {I I' : β → World → Prop} (h : Own I) (h' : Own I') : Own (fun s W => I s W ∧ I' s W) := fun s W W' row hs hg hr => ⟨h s W W' row hs.1 hg hr, h' s W W' row hs.2 hg hr⟩

section
variable (n : Nat) (X Y : Nat → Int) (m : Nat) (X' Y' : Nat → Int) (win s : Int)
def stepL (st : Pt × Nat) (x : Cw win) : Pt × Nat := if betB x.1 (matF n X Y m X' Y' x.1.1 x.1.2 s) st then (x.1, matF n X Y m X' Y' x.1.1 x.1.2 s) else st
def foldL (pre : List (Cw win)) : Pt × Nat := pre.foldl (stepL n X Y m X' Y' win s) ((0, 0), matF n X Y m X' Y' 0 0 s)
end
section
variable {n : Nat} {X Y : Nat → Int} {m : Nat} {X' Y' : Nat → Int} {win s : Int}
theorem foldL_snoc (pre : List (Cw win)) (x : Cw win) : foldL n X Y m X' Y' win s (pre ++ [x]) = stepL n X Y m X' Y' win s (foldL n X Y m X' Y' win s pre) x := by
  unfold foldL; rw [List.foldl_append]; rfl
theorem step_cnd (st : Pt × Nat) (p : Pt) : (cnd win p).foldl (stepL n X Y m X' Y' win s) st = regStep n X Y m X' Y' win s st p := by
  cases h : inW p win with
  | true => rw [cnd_yes h, regStep_in h]; rfl
  | false => rw [cnd_no h, regStep_out h]; rfl
theorem foldJ (st : Pt × Nat) (i : Nat) : ∀ j, (cndJ X Y X' Y' win i j).foldl (stepL n X Y m X' Y' win s) st = regJ n X Y m X' Y' win s st i j := by
  intro j
  induction j with
  | zero => rfl
  | succ j ih => rw [cndJ, List.foldl_append, ih, step_cnd, regJ]
theorem foldI : ∀ i, foldL n X Y m X' Y' win s (cndI X Y X' Y' m win i) = regI n X Y m X' Y' win s i := by
  intro i
  induction i with
  | zero => rfl
  | succ i ih =>
    unfold foldL at ih ⊢
    rw [cndI, List.foldl_append, ih, foldJ, regI]
theorem stepL_sml (hm : m ≤ 60) (hw : win ≤ 2000) {st : Pt × Nat} (h : smlP st) (x : Cw win) : smlP (stepL n X Y m X' Y' win s st x) := by
  unfold stepL
  split
  · have := (inW_iff x.1 win).1 x.2
    have hh := matF_le n X Y m X' Y' x.1.1 x.1.2 s
    unfold smlP
    simp only
    omega
  · exact h
theorem foldL_sml (hm : m ≤ 60) (hw : win ≤ 2000) (pre : List (Cw win)) : smlP (foldL n X Y m X' Y' win s pre) := by
  rcases List.eq_nil_or_concat pre with rfl | ⟨ini, x, rfl⟩
  · have hh := matF_le n X Y m X' Y' 0 0 s
    unfold smlP foldL
    simp only [List.foldl_nil]
    omega
  · have hl : ∀ (l : List (Cw win)) st, smlP st → smlP (l.foldl (stepL n X Y m X' Y' win s) st) := by
      intro l
      induction l with
      | nil => intro st h; exact h
      | cons y r ih => intro st h; exact ih _ (stepL_sml hm hw h y)
    have hh := matF_le n X Y m X' Y' 0 0 s
    exact hl _ _ (by unfold smlP; simp only; omega)
end

theorem after_loop {w W : World} {D : Nat} (hB : Below w.heap.size w W) (hD : w.heap.size ≤ D) (hK : W.heap[D]? = some (.deferred (some []))) : Below w.heap.size w (W.putObj D (.deferred none)) :=
  hB.trans (belowK_b (w := w) (Nat.le_refl _) W D _ _ hD hK rfl rfl)

/-- The four boxes that Register lays first. -/
structure Fst (W : World) (z : Nat) (A : Option Addr) (n c1 : Nat) (B : Option Addr) (m c2 : Nat) (s : Int) : Prop where
  a : BoxAt W z 22 #[.slice A n c1]
  b : BoxAt W (z + 1) 22 #[.slice B m c2]
  s : BoxAt W (z + 2) 2 #[.int .i64 s]
  r : BoxAt W (z + 3) 24 #[.int .i64 0, .int .i64 0]
theorem Fst.below {W W' : World} {z k : Nat} {A : Option Addr} {n c1 : Nat} {B : Option Addr} {m c2 : Nat} {s : Int} (h : Fst W z A n c1 B m c2 s) (hb : Below k W W') (hz : z + 3 < k) : Fst W' z A n c1 B m c2 s :=
  ⟨h.a.below hb (by omega), h.b.below hb (by omega), h.s.below hb (by omega), h.r.below hb (by omega)⟩
theorem Fst.new (w : World) (A : Option Addr) (n c1 : Nat) (B : Option Addr) (m c2 : Nat) (s : Int) :
    Fst ((((w.alloc (.cells #[.slice A n c1] 22)).alloc (.cells #[.slice B m c2] 22)).alloc (.cells #[.int .i64 s] 2)).alloc (.cells #[.int .i64 0, .int .i64 0] 24)) w.heap.size A n c1 B m c2 s := by
  refine ⟨(((BoxAt.new w 22 _).alloc _).alloc _).alloc _, ?_, ?_, ?_⟩
  · have := ((BoxAt.new (w.alloc (.cells #[.slice A n c1] 22)) 22 #[.slice B m c2]).alloc (.cells #[.int .i64 s] 2)).alloc (.cells #[.int .i64 0, .int .i64 0] 24)
    rwa [World.size_alloc] at this
  · have := (BoxAt.new ((w.alloc (.cells #[.slice A n c1] 22)).alloc (.cells #[.slice B m c2] 22)) 2 #[.int .i64 s]).alloc (.cells #[.int .i64 0, .int .i64 0] 24)
    rwa [World.size_alloc, World.size_alloc] at this
  · have := BoxAt.new (((w.alloc (.cells #[.slice A n c1] 22)).alloc (.cells #[.slice B m c2] 22)).alloc (.cells #[.int .i64 s] 2)) 24 #[.int .i64 0, .int .i64 0]
    rwa [World.size_alloc, World.size_alloc, World.size_alloc] at this

set_option maxRecDepth 100000 in
set_option maxHeartbeats 16000000 in
theorem register_in (f : Nat) (hf : 3 ≤ f) (A : Option Addr) (n c1 : Nat) (X Y V : Nat → Int) (B : Option Addr) (m c2 : Nat) (X' Y' V' : Nat → Int) (win s : Int) (hok : chkF n X Y V = 0) (hok' : chkF m X' Y' V' = 0)
    (hn : n ≤ 60) (hm : m ≤ 60) (w0 : 0 ≤ win) (w1 : win ≤ 2000) (s0 : 0 ≤ s) (s1 : s ≤ 2000) (w : World) (hc1 : Cloud w A n X Y V) (hc2 : Cloud w B m X' Y' V') :
    CallsIn Fence.wide f Try.prog 49 #[.slice A n c1, .slice B m c2, .int .i64 win, .int .i64 s] w (RegPost (regI n X Y m X' Y' win s n).1 (regI n X Y m X' Y' win s n).2 0 w) := by
  have HO : Hid (∀ i, i < n → okc (X i) ∧ okc (Y i)) := Lib.hid (fun i hi => ⟨(ok_at hok hi).1, (ok_at hok hi).2.1⟩)
  have HO' : Hid (∀ i, i < m → okc (X' i) ∧ okc (Y' i)) := Lib.hid (fun i hi => ⟨(ok_at hok' hi).1, (ok_at hok' hi).2.1⟩)
  have HC1 := Lib.hid hc1
  have HC2 := Lib.hid hc2
  have HE : regE n X Y V m X' Y' V' win s = 0 := regE_e hok hok' (by omega) ⟨w0, w1, s0, s1⟩
  have HK : Hid (∀ W, Below w.heap.size w W → Calls Try.prog 94 #[.slice A n c1, .slice B m c2, .int .i64 win, .int .i64 s] W fun e w' => e = .returned (.int .i64 0) ∧ Below W.heap.size W w') := Lib.hid (fun W hW => by
    have := ckreg_any A n c1 X Y V B m c2 X' Y' V' win s W (HC1.out.below hW) (HC2.out.below hW)
    rwa [HE] at this)
  have HM : Hid (∀ a b W, -2000 ≤ a → a ≤ 2000 → -2000 ≤ b → b ≤ 2000 → Below w.heap.size w W → Calls Try.prog 95 #[.slice A n c1, .slice B m c2, sp a b, .int .i64 s] W fun e w' => e = .returned (.int .i64 ((matF n X Y m X' Y' a b s : Nat) : Int)) ∧ Below W.heap.size W w') := Lib.hid (fun a b W a1 a2 b1 b2 hW =>
    matches_any A n c1 X Y V B m c2 X' Y' V' a b s (by omega) (by omega) HO.out HO'.out (by omega) (by omega) (by omega) (by omega) W (HC1.out.below hW) (HC2.out.below hW))
  have HF := Lib.hid (Fst.new w A n c1 B m c2 s)
  have hB0 : Below w.heap.size w ((((w.alloc (.cells #[.slice A n c1] 22)).alloc (.cells #[.slice B m c2] 22)).alloc (.cells #[.int .i64 s] 2)).alloc (.cells #[.int .i64 0, .int .i64 0] 24)) := ((((Below.refl _ w).alloc (Nat.le_refl _) _).alloc (by simp) _).alloc (by simp; omega) _).alloc (by simp; omega) _
  have hS0 : ((((w.alloc (.cells #[.slice A n c1] 22)).alloc (.cells #[.slice B m c2] 22)).alloc (.cells #[.int .i64 s] 2)).alloc (.cells #[.int .i64 0, .int .i64 0] 24)).heap.size = w.heap.size + 4 := by simp
  have HB0 := Lib.hid hB0
  have HS0 := Lib.hid hS0
  clear hc1 hc2 hok hok' HE hB0 hS0
  refine callsIn_of_wp_marks Try.func49 rfl trivial ?_ rfl
  simp only [Try.ntmps49, List.size_toArray, List.length_cons, List.length_nil, Nat.reduceAdd, Nat.reduceSub, Array.replicate_succ, Array.replicate_zero, List.push_toArray, List.append_toArray, List.nil_append, List.cons_append]
  gi_wp2
  obtain ⟨z, hz⟩ : ∃ z, z = w.heap.size := ⟨_, rfl⟩
  rw [show w.heap.size + 1 + 1 + 1 = w.heap.size + 3 from rfl, show w.heap.size + 1 + 1 = w.heap.size + 2 from rfl]
  rw [← hz] at HF HS0 ⊢
  have HZ := Lib.hid hz
  clear hz
  generalize ((((w.alloc (.cells #[.slice A n c1] 22)).alloc (.cells #[.slice B m c2] 22)).alloc (.cells #[.int .i64 s] 2)).alloc (.cells #[.int .i64 0, .int .i64 0] 24)) = wa at *
  refine ⟨trivial, fun _ => by omega, ?_⟩
  gi_at_call 94
  refine (callsIn_wide.2 (HK.out _ HB0.out)).mono ?_
  rintro e wb ⟨rfl, hb1⟩
  have hFb := HF.out.below hb1 (by have := HS0.out; omega)
  have HFb := Lib.hid hFb
  have HBb := Lib.hid (below_step HB0.out hb1)
  have hsb : z + 4 ≤ wb.heap.size := by have := hb1.size; have := HS0.out; omega
  have k4 : wb.cell? ⟨z, 0, none⟩ = some (.slice A n c1) := hFb.a.cell 0
  have k5 : wb.cell? ⟨z + 1, 0, none⟩ = some (.slice B m c2) := hFb.b.cell 0
  have k7 : wb.cell? ⟨z + 2, 0, none⟩ = some (.int .i64 s) := hFb.s.cell 0
  have l4 : z < wb.heap.size := by omega
  have l5 : z + 1 < wb.heap.size := by omega
  have l7 : z + 2 < wb.heap.size := by omega
  clear HF hb1 HS0 HB0 hFb HK
  gi_wp2
  refine ⟨trivial, fun _ => by omega, ?_⟩
  gi_at_call 95
  refine (callsIn_wide.2 (HM.out 0 0 _ (by omega) (by omega) (by omega) (by omega) (HBb.out.alloc HBb.out.size _))).mono ?_
  rintro e wd ⟨rfl, hb2⟩
  obtain ⟨L12, hL12⟩ : ∃ L, L = wb.heap.size := ⟨_, rfl⟩
  have hbd : Below wb.heap.size wb wd := ((Below.refl _ wb).alloc (Nat.le_refl _) _).trans (hb2.mono (by simp))
  have H12 := Lib.hid (box_step (BoxAt.new wb 24 #[.int .i64 0, .int .i64 0]) hb2)
  have HFd := Lib.hid (HFb.out.below hbd (by omega))
  have HBd := Lib.hid (below_step HBb.out hbd)
  have hsd : L12 + 1 ≤ wd.heap.size := by have := hb2.size; simp at this; omega
  rw [← hL12] at H12 ⊢
  have k4 : wd.cell? ⟨z, 0, none⟩ = some (.slice A n c1) := HFd.out.a.cell 0
  have k5 : wd.cell? ⟨z + 1, 0, none⟩ = some (.slice B m c2) := HFd.out.b.cell 0
  have l4 : z < wd.heap.size := by omega
  have l5 : z + 1 < wd.heap.size := by omega
  have hz12 : z + 4 ≤ L12 := by omega
  clear HFb hb2 hbd k7 l7 hsb hL12 HBb
  gi_wp2
  refine ⟨trivial, fun _ => by omega, ?_⟩
  gi_at_call 96
  refine (callsIn_wide.2 (candidates_any A n c1 B m c2 win _)).mono ?_
  rintro e we ⟨rfl, rfl⟩
  gi_wp2
  obtain ⟨L13, hL13⟩ : ∃ L, L = wd.heap.size := ⟨_, rfl⟩
  have s13 : BoxAt ((((wd.alloc (.cells #[.int .i64 ((matF n X Y m X' Y' 0 0 s : Nat) : Int)] 3)).alloc (.cells #[.slice A n c1] 22)).alloc (.cells #[.slice B m c2] 22)).alloc (.cells #[.int .i64 win] 2)) wd.heap.size 3 #[.int .i64 ((matF n X Y m X' Y' 0 0 s : Nat) : Int)] := (((BoxAt.new wd 3 _).alloc _).alloc _).alloc _
  have sA := ((BoxAt.new (wd.alloc (.cells #[.int .i64 ((matF n X Y m X' Y' 0 0 s : Nat) : Int)] 3)) 22 #[.slice A n c1]).alloc (.cells #[.slice B m c2] 22)).alloc (.cells #[.int .i64 win] 2)
  have sB := (BoxAt.new ((wd.alloc (.cells #[.int .i64 ((matF n X Y m X' Y' 0 0 s : Nat) : Int)] 3)).alloc (.cells #[.slice A n c1] 22)) 22 #[.slice B m c2]).alloc (.cells #[.int .i64 win] 2)
  have sW := BoxAt.new (((wd.alloc (.cells #[.int .i64 ((matF n X Y m X' Y' 0 0 s : Nat) : Int)] 3)).alloc (.cells #[.slice A n c1] 22)).alloc (.cells #[.slice B m c2] 22)) 2 #[.int .i64 win]
  have hbe : Below wd.heap.size wd ((((wd.alloc (.cells #[.int .i64 ((matF n X Y m X' Y' 0 0 s : Nat) : Int)] 3)).alloc (.cells #[.slice A n c1] 22)).alloc (.cells #[.slice B m c2] 22)).alloc (.cells #[.int .i64 win] 2)) := ((((Below.refl _ wd).alloc (Nat.le_refl _) _).alloc (by simp) _).alloc (by simp; omega) _).alloc (by simp; omega) _
  have hse : ((((wd.alloc (.cells #[.int .i64 ((matF n X Y m X' Y' 0 0 s : Nat) : Int)] 3)).alloc (.cells #[.slice A n c1] 22)).alloc (.cells #[.slice B m c2] 22)).alloc (.cells #[.int .i64 win] 2)).heap.size = wd.heap.size + 4 := by simp
  simp only [World.size_alloc] at sA sB sW
  have sF := HFd.out.below hbe (by omega)
  have s12 := box_step H12.out hbe
  have HB0 := Lib.hid (below_step HBd.out hbe)
  rw [← hL13] at s13 sA sB sW hse hsd ⊢
  generalize ((((wd.alloc (.cells #[.int .i64 ((matF n X Y m X' Y' 0 0 s : Nat) : Int)] 3)).alloc (.cells #[.slice A n c1] 22)).alloc (.cells #[.slice B m c2] 22)).alloc (.cells #[.int .i64 win] 2)) = W0 at *
  clear hL13 hbe H12 HFd HBd k4 k5 l4 l5
  have hzw : w.heap.size ≤ L12 := by have := HZ.out; omega
  have HCa : Hid (∀ W', Below L12 W0 W' → Cloud W' A n X Y V) := Lib.hid (fun W' h => HC1.out.below (HB0.out.trans (h.mono hzw)))
  have HCb : Hid (∀ W', Below L12 W0 W' → Cloud W' B m X' Y' V') := Lib.hid (fun W' h => HC2.out.below (HB0.out.trans (h.mono hzw)))
  refine wpIn_rangeFunc_ownH rfl (by omega) (gf := 123) (lb := #[.pointer (some ⟨L13 + 1, 0, none⟩), .pointer (some ⟨L13 + 1 + 1, 0, none⟩), .pointer (some ⟨L13 + 1 + 2, 0, none⟩)]) rfl trivial (enters_of Try.func123 (by kernel_rfl) rfl)
    (cand_stops (f - 1) (by omega) (L13 + 1) L12 (L13 + 1) A n c1 X Y V B m c2 X' Y' V' win hn hm HO.out HO'.out W0 HCa HCb sA sB sW (Nat.le_refl _) (by omega)) Kp2.trans (kp2_b (w := W0) (by omega)) (Below.refl _ _) (fun _ => rfl)
    (fun pre W => (BoxAt W L12 24 #[.int .i64 (foldL n X Y m X' Y' win s pre).1.1, .int .i64 (foldL n X Y m X' Y' win s pre).1.2] ∧ BoxAt W L13 3 #[.int .i64 (((foldL n X Y m X' Y' win s pre).2 : Nat) : Int)]) ∧ Below L12 W0 W)
    (fun _ _ _ => False)
    (OwnFrom.and (Own.from (own_and (boxAt_own _ _ _) (boxAt_own _ _ _)) _) (ownFrom_below (by omega) (by omega)))
    (fun _ _ _ _ _ hs _ _ => hs)
    ⟨⟨s12, s13⟩, Below.refl _ _⟩
    (fun x a' W => ∃ Bx, BoxAt W Bx 24 #[.int .i64 x.1.1, .int .i64 x.1.2] ∧
      a' = { tmps := #[.slice A n c1, .slice B m c2, .int .i64 win, .int .i64 s, .pointer (some ⟨z, 0, none⟩), .pointer (some ⟨z + 1, 0, none⟩), undef, .pointer (some ⟨z + 2, 0, none⟩), .pointer (some ⟨z + 3, 0, none⟩), .int .i64 0, .int .i64 0, .int .i64 0, .pointer (some ⟨L12, 0, none⟩), .pointer (some ⟨L13, 0, none⟩),
          .pointer (some ⟨Bx, 0, none⟩), undef, .slice A n c1, .slice B m c2, .int .i64 win, .int .i64 s, .int .i64 0, .int .i64 0, .bool false, undef, undef, .slice A n c1, .slice B m c2, .agg #[.int .i64 0, .int .i64 0], .int .i64 s, .int .i64 ((matF n X Y m X' Y' 0 0 s : Nat) : Int), .slice A n c1, .slice B m c2, .int .i64 win,
          .func (.func 123) #[] #[.pointer (some ⟨L13 + 1, 0, none⟩), .pointer (some ⟨L13 + 1 + 1, 0, none⟩), .pointer (some ⟨L13 + 1 + 2, 0, none⟩)], sp x.1.1 x.1.2, undef, undef, undef, undef, undef, undef, undef, undef, undef, undef, undef, undef, undef, undef, undef, undef, undef, undef, undef, undef, undef, undef], defers := [] })
    (fun x a' => Own.from (fun _ A B row hs hg hr => by obtain ⟨Bx, h2, h3⟩ := hs; exact ⟨Bx, boxAt_own (β := Unit) _ _ (fun _ => _) () A B row h2 hg hr, h3⟩) _) ?assign ?body ?done ?stop
  case assign =>
    rintro l pre x W K ⟨⟨h1, h2⟩, hB⟩ hK
    gi_wp2
    exact hK _ _ ((KeepsOthers.alloc _ _).from _) ((Kp2.refl _ _ _).alloc (by have := hB.size; omega) _) ⟨⟨h1.alloc _, h2.alloc _⟩, hB.alloc (by have := hB.size; omega) _⟩ ⟨W.heap.size, BoxAt.new _ _ _, rfl⟩
  case body =>
    rintro l pre ⟨⟨p, q⟩, hx⟩ a' W hl hr ⟨⟨h12, h13⟩, hB⟩ ⟨Bx, hbx, rfl⟩ hlt
    have hxb := (inW_iff (p, q) win).1 hx
    have hsm := foldL_sml (n := n) (X := X) (Y := Y) (X' := X') (Y' := Y') (s := s) hm w1 pre
    have HSN : Hid (foldL n X Y m X' Y' win s (pre ++ [⟨(p, q), hx⟩]) = if betB (p, q) (matF n X Y m X' Y' p q s) (foldL n X Y m X' Y' win s pre) then ((p, q), matF n X Y m X' Y' p q s) else foldL n X Y m X' Y' win s pre) := Lib.hid (by rw [foldL_snoc]; rfl)
    have hFW := sF.below hB (by omega)
    have HBW := Lib.hid (HB0.out.trans (hB.mono hzw))
    have hpb : (-2000 ≤ p ∧ p ≤ 2000) ∧ (-2000 ≤ q ∧ q ≤ 2000) := by simp only at hxb; omega
    have HMp : Hid (∀ W, Below w.heap.size w W → Calls Try.prog 95 #[.slice A n c1, .slice B m c2, sp p q, .int .i64 s] W fun e w' => e = .returned (.int .i64 ((matF n X Y m X' Y' p q s : Nat) : Int)) ∧ Below W.heap.size W w') := Lib.hid (fun W h => HM.out p q W hpb.1.1 hpb.1.2 hpb.2.1 hpb.2.2 h)
    have hcm := matF_le n X Y m X' Y' p q s
    generalize foldL n X Y m X' Y' win s pre = st at h12 h13 hsm HSN
    generalize matF n X Y m X' Y' p q s = c at HSN HMp hcm
    obtain ⟨⟨bx, bz⟩, mo⟩ := st
    simp only at h12 h13 hbx
    have hs1 : (-2000 ≤ bx ∧ bx ≤ 2000) ∧ (-2000 ≤ bz ∧ bz ≤ 2000) ∧ mo ≤ 1000 := hsm
    have HSi : Hid (∀ r, smpB (p, q) (bx, bz) = r → ∀ W, Calls Try.prog 97 #[sp p q, sp bx bz] W fun e w' => e = .returned (.bool r) ∧ Below W.heap.size W w') := Lib.hid (fun r h W => simpler_any p q bx bz r (Lib.hid h) W (by omega) (by omega) (by omega) (by omega))
    have k4 : W.cell? ⟨z, 0, none⟩ = some (.slice A n c1) := hFW.a.cell 0
    have k5 : W.cell? ⟨z + 1, 0, none⟩ = some (.slice B m c2) := hFW.b.cell 0
    have k7 : W.cell? ⟨z + 2, 0, none⟩ = some (.int .i64 s) := hFW.s.cell 0
    have kx : W.cell? ⟨Bx, 0, none⟩ = some (.int .i64 p) := hbx.cell 0
    have ky : W.cell? ⟨Bx, 1, none⟩ = some (.int .i64 q) := hbx.cell 1
    have hzW := hB.size
    have HBB := Lib.hid hB
    have H12 := Lib.hid h12
    have H13 := Lib.hid h13
    have HX := Lib.hid hbx
    clear hbx h12 h13 hB hsm hxb hFW sF s12 s13 sA sB sW HM HC1 HC2 HCa HCb HB0
    gi_wp2
    refine ⟨trivial, fun _ => by omega, ?_⟩
    gi_at_call 95
    refine (CallsIn.inRound l (callsIn_wide.2 (HMp.out W HBW.out))).mono ?_
    rintro e W2 ⟨rfl, hb⟩
    have h12 := box_step H12.out hb
    have h13 := box_step H13.out hb
    have hbx := box_step HX.out hb
    have HB2 := Lib.hid (HBB.out.trans (hb.mono (by omega)))
    have HK2 := Lib.hid (Kp2.of_below (n₀ := L12) (D := L13 + 1) hb (by omega))
    have HKo := Lib.hid (KeepsFrom.of_grownBy (B := W0.heap.size) (grown_of_below hb) (fun j e => by cases e))
    have kx : W2.cell? ⟨Bx, 0, none⟩ = some (.int .i64 p) := hbx.cell 0
    have ky : W2.cell? ⟨Bx, 1, none⟩ = some (.int .i64 q) := hbx.cell 1
    have t0 : W2.cell? ⟨L12, 0, none⟩ = some (.int .i64 bx) := h12.cell 0
    have t1 : W2.cell? ⟨L12, 1, none⟩ = some (.int .i64 bz) := h12.cell 1
    have t2 : W2.cell? ⟨L13, 0, none⟩ = some (.int .i64 (mo : Int)) := h13.cell 0
    have f0 : W2.frozen? ⟨L12, 0, none⟩ = false := h12.frozen 0
    have f1 : W2.frozen? ⟨L12, 1, none⟩ = false := h12.frozen 1
    have f2 : W2.frozen? ⟨L13, 0, none⟩ = false := h13.frozen 0
    have l12 := h12.lt
    have l13 := h13.lt
    have lx := hbx.lt
    have h1213 : L12 + 1 ≤ L13 := hsd
    by_cases y1 : mo < c
    · have y2 : decide ((mo : Int) < (c : Int)) = true := decide_eq_true (by omega)
      have HN : Hid (foldL n X Y m X' Y' win s (pre ++ [⟨(p, q), hx⟩]) = ((p, q), c)) := Lib.hid (by rw [HSN.out, betB_lt (p := (p, q)) (st := ((bx, bz), mo)) y1]; rfl)
      gi_wp2
      all_goals (try (rename_i hz1 hz2; cases hz1; done))
      refine And.intro trivial ?_
      gi_wp2
      exact ⟨HKo.out.trans (((KeepsOthers.setCell _ _ _).trans ((KeepsOthers.setCell _ _ _).trans (KeepsOthers.setCell _ _ _))).from _), ((HK2.out.setCell (p := ⟨L12, 0, none⟩) (by show L12 ≤ L12; omega) (by show L12 < L13 + 1; omega) _).setCell (p := ⟨L12, 1, none⟩) (by show L12 ≤ L12; omega) (by show L12 < L13 + 1; omega) _).setCell (p := ⟨L13, 0, none⟩) (by show L12 ≤ L13; omega) (by show L13 < L13 + 1; omega) _,
          ⟨by rw [HN.out]; exact (bset2 h12).other (by omega) 0 _, by rw [HN.out]; exact (bother2 h13 (by omega)).set 0 _⟩, ((HB2.out.setCell (p := ⟨L12, 0, none⟩) (by show L12 ≤ L12; omega) _).setCell (p := ⟨L12, 1, none⟩) (by show L12 ≤ L12; omega) _).setCell (p := ⟨L13, 0, none⟩) (by show L12 ≤ L13; omega) _⟩
    · have y2 : decide ((mo : Int) < (c : Int)) = false := decide_eq_false (by omega)
      by_cases y3 : c = mo
      · subst y3
        have y4 : ((c : Int) == (c : Int)) = true := by simp
        obtain ⟨r, hr⟩ : ∃ r, smpB (p, q) (bx, bz) = r := ⟨_, rfl⟩
        have HSr := Lib.hid (HSi.out r hr)
        have HBt : Hid (betB (p, q) c ((bx, bz), c) = r) := Lib.hid (by unfold betB; simp [hr])
        clear hr
        gi_wp2
        refine ⟨trivial, fun _ => by omega, ?_⟩
        gi_at_call 97
        refine (CallsIn.inRound l (callsIn_wide.2 (HSr.out W2))).mono ?_
        rintro e W3 ⟨rfl, hb3⟩
        replace h12 := box_step h12 hb3
        replace h13 := box_step h13 hb3
        replace hbx := box_step hbx hb3
        replace HB2 := Lib.hid (HB2.out.trans (hb3.mono (by have := hb.size; omega)))
        replace HK2 := Lib.hid (HK2.out.trans (Kp2.of_below (n₀ := L12) (D := L13 + 1) hb3 (by have := hb.size; omega)))
        replace HKo := Lib.hid (HKo.out.trans (KeepsFrom.of_grownBy (B := W0.heap.size) (grown_of_below hb3) (fun j e => by cases e)))
        clear kx ky t0 t1 t2 f0 f1 f2 l12 l13 lx
        have kx : W3.cell? ⟨Bx, 0, none⟩ = some (.int .i64 p) := hbx.cell 0
        have ky : W3.cell? ⟨Bx, 1, none⟩ = some (.int .i64 q) := hbx.cell 1
        have t0 : W3.cell? ⟨L12, 0, none⟩ = some (.int .i64 bx) := h12.cell 0
        have t1 : W3.cell? ⟨L12, 1, none⟩ = some (.int .i64 bz) := h12.cell 1
        have t2 : W3.cell? ⟨L13, 0, none⟩ = some (.int .i64 (c : Int)) := h13.cell 0
        have f0 : W3.frozen? ⟨L12, 0, none⟩ = false := h12.frozen 0
        have f1 : W3.frozen? ⟨L12, 1, none⟩ = false := h12.frozen 1
        have f2 : W3.frozen? ⟨L13, 0, none⟩ = false := h13.frozen 0
        have l12 := h12.lt
        have l13 := h13.lt
        have lx := hbx.lt
        cases r with
        | true =>
          have HN : Hid (foldL n X Y m X' Y' win s (pre ++ [⟨(p, q), hx⟩]) = ((p, q), c)) := Lib.hid (by rw [HSN.out, HBt.out]; rfl)
          gi_wp2
          exact ⟨HKo.out.trans (((KeepsOthers.setCell _ _ _).trans ((KeepsOthers.setCell _ _ _).trans (KeepsOthers.setCell _ _ _))).from _), ((HK2.out.setCell (p := ⟨L12, 0, none⟩) (by show L12 ≤ L12; omega) (by show L12 < L13 + 1; omega) _).setCell (p := ⟨L12, 1, none⟩) (by show L12 ≤ L12; omega) (by show L12 < L13 + 1; omega) _).setCell (p := ⟨L13, 0, none⟩) (by show L12 ≤ L13; omega) (by show L13 < L13 + 1; omega) _,
          ⟨by rw [HN.out]; exact (bset2 h12).other (by omega) 0 _, by rw [HN.out]; exact (bother2 h13 (by omega)).set 0 _⟩, ((HB2.out.setCell (p := ⟨L12, 0, none⟩) (by show L12 ≤ L12; omega) _).setCell (p := ⟨L12, 1, none⟩) (by show L12 ≤ L12; omega) _).setCell (p := ⟨L13, 0, none⟩) (by show L12 ≤ L13; omega) _⟩
        | false =>
          have HN : Hid (foldL n X Y m X' Y' win s (pre ++ [⟨(p, q), hx⟩]) = ((bx, bz), c)) := Lib.hid (by rw [HSN.out, HBt.out]; rfl)
          gi_wp2
          exact ⟨HKo.out, HK2.out, ⟨by rw [HN.out]; exact h12, by rw [HN.out]; exact h13⟩, HB2.out⟩
      · have y4 : ((c : Int) == (mo : Int)) = false := by simp; omega
        have HN : Hid (foldL n X Y m X' Y' win s (pre ++ [⟨(p, q), hx⟩]) = ((bx, bz), mo)) := Lib.hid (by rw [HSN.out, betB_ne (p := (p, q)) (st := ((bx, bz), mo)) y1 y3]; rfl)
        gi_wp2
        refine And.intro trivial ?_
        gi_wp2
        exact ⟨HKo.out, HK2.out, ⟨by rw [HN.out]; exact h12, by rw [HN.out]; exact h13⟩, HB2.out⟩
  case done =>
    rintro D ys W hD rfl ⟨⟨h12, h13⟩, hB⟩ hK
    rw [foldI] at h12 h13
    have hFW := sF.below hB (by omega)
    generalize regI n X Y m X' Y' win s n = st at *
    obtain ⟨⟨bx, bz⟩, mo⟩ := st
    simp only at h12 h13
    have t0 : W.cell? ⟨L12, 0, none⟩ = some (.int .i64 bx) := h12.cell 0
    have t1 : W.cell? ⟨L12, 1, none⟩ = some (.int .i64 bz) := h12.cell 1
    have t2 : W.cell? ⟨L13, 0, none⟩ = some (.int .i64 (mo : Int)) := h13.cell 0
    have v0 : W.frozen? ⟨z + 3, 0, none⟩ = false := hFW.r.frozen 0
    have v1 : W.frozen? ⟨z + 3, 1, none⟩ = false := hFW.r.frozen 1
    have r0 : W.cell? ⟨z + 3, 0, none⟩ = some (.int .i64 0) := hFW.r.cell 0
    have r1 : W.cell? ⟨z + 3, 1, none⟩ = some (.int .i64 0) := hFW.r.cell 1
    have lr := hFW.r.lt
    have l12 := h12.lt
    have l13 := h13.lt
    gi_wp2
    refine wpIn_wide.2 ?_
    go_region
    gi_wp2
    have hK2 : (((W.setCell ⟨z + 3, 0, none⟩ (.int .i64 bx)).setCell ⟨z + 3, 1, none⟩ (.int .i64 bz)).drew).heap[D]? = some (.deferred (some [])) := (((KeepsOthers.setCell W ⟨z + 3, 0, none⟩ (.int .i64 bx)).trans (KeepsOthers.setCell _ ⟨z + 3, 1, none⟩ (.int .i64 bz))).trans (KeepsOthers.drew _)).same D _ hK rfl
    have hbz : Below w.heap.size w (((W.setCell ⟨z + 3, 0, none⟩ (.int .i64 bx)).setCell ⟨z + 3, 1, none⟩ (.int .i64 bz)).drew) := (bbel2 (HB0.out.trans (hB.mono hzw)) (by have := HZ.out; omega) _ _).drew
    have hrz : BoxAt (((W.setCell ⟨z + 3, 0, none⟩ (.int .i64 bx)).setCell ⟨z + 3, 1, none⟩ (.int .i64 bz)).drew) (z + 3) 24 #[.int .i64 bx, .int .i64 bz] := BoxAt.drew (bset2 hFW.r)
    have hrz2 : BoxAt ((((W.setCell ⟨z + 3, 0, none⟩ (.int .i64 bx)).setCell ⟨z + 3, 1, none⟩ (.int .i64 bz)).drew).putObj D (.deferred none)) (z + 3) 24 #[.int .i64 bx, .int .i64 bz] := (World.putObj_heap_other (by omega)).trans hrz
    refine ⟨by simp, .inl ⟨_, _, rfl, run_takeDeferred hK2, ?_⟩⟩
    have hbz2 := after_loop hbz (by omega) hK2
    generalize (((W.setCell ⟨z + 3, 0, none⟩ (.int .i64 bx)).setCell ⟨z + 3, 1, none⟩ (.int .i64 bz)).drew).putObj D (.deferred none) = Wz at *
    have z0 : Wz.cell? ⟨z + 3, 0, none⟩ = some (.int .i64 bx) := hrz2.cell 0
    have z1 : Wz.cell? ⟨z + 3, 1, none⟩ = some (.int .i64 bz) := hrz2.cell 1
    exact ⟨.tuple #[.agg #[.int .i64 bx, .int .i64 bz], .int .i64 ((mo : Nat) : Int), .int .i64 0], by simp [results, Try.results49, go_sem, z0, z1], rfl, hbz2⟩
  case stop =>
    rintro D cd pre W _ _ h _
    exact h.elim

theorem register_good (A : Option Addr) (n c1 : Nat) (X Y V : Nat → Int) (B : Option Addr) (m c2 : Nat) (X' Y' V' : Nat → Int) (win s : Int) (hok : chkF n X Y V = 0) (hok' : chkF m X' Y' V' = 0)
    (hn : n ≤ 60) (hm : m ≤ 60) (w0 : 0 ≤ win) (w1 : win ≤ 2000) (s0 : 0 ≤ s) (s1 : s ≤ 2000) (w : World) (hc1 : Cloud w A n X Y V) (hc2 : Cloud w B m X' Y' V') :
    Calls Try.prog 49 #[.slice A n c1, .slice B m c2, .int .i64 win, .int .i64 s] w (RegPost (regI n X Y m X' Y' win s n).1 (regI n X Y m X' Y' win s n).2 0 w) :=
  callsIn_wide.1 (register_in 3 (Nat.le_refl _) A n c1 X Y V B m c2 X' Y' V' win s hok hok' hn hm w0 w1 s0 s1 w hc1 hc2)
end Go.Proofs.Ytaehfildhmljeaa
