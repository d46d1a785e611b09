/- 'Check'. -/
import Derived.Test.YtglkpabcflecmaaCheck
namespace Go.Proofs.Ytglkpabcflecmaa
open Go.RowKit Go.Shelf
attribute [local go_sem] Oper.semAt_some

theorem boxAt_own {β : Type} (g : Nat) (t : TypeId) (f : β → Array Value) : Own (fun s W => BoxAt W g t (f s)) := by
  intro s W W' row h hg hr
  refine h.grown hg (fun e => ?_)
  obtain ⟨o, ho, hc⟩ := hr g e.symm
  rw [show W.heap[g]? = _ from h] at ho
  cases ho; cases hc
theorem own_and {β : Type} {I I' : β → World → Prop} (h : Own I) (h' : Own I') : Own (fun s W => I s W ∧ I' s W) := fun s W W' row hs hg hr => ⟨h s W W' row hs.1 hg hr, h' s W W' row hs.2 hg hr⟩
theorem own_pure {β : Type} (p : β → Prop) : Own (fun (s : β) (_ : World) => p s) := fun _ _ _ _ hs _ _ => hs

section
variable (c : Crv) {N : Nat}
def befX (pre : List (Ix N)) : Int := (pre.getLast?).elim 0 (fun x => c.wx x.1)
def befY (pre : List (Ix N)) : Int := (pre.getLast?).elim 0 (fun x => c.wy x.1)
theorem befX_snoc (pre : List (Ix N)) (x : Ix N) : befX c (pre ++ [x]) = c.wx x.1 := by simp [befX]
theorem befY_snoc (pre : List (Ix N)) (x : Ix N) : befY c (pre ++ [x]) = c.wy x.1 := by simp [befY]
theorem okd_zero : okd 0 := by simp [okd]
theorem okd_befX (h : c.AllOk) (pre : List (Ix (c.n - 1))) : okd (befX c pre) := by
  unfold befX
  cases pre.getLast? with
  | none => exact okd_zero
  | some x => exact Crv.okd_wx h (by have := x.2; omega)
theorem okd_befY (h : c.AllOk) (pre : List (Ix (c.n - 1))) : okd (befY c pre) := by
  unfold befY
  cases pre.getLast? with
  | none => exact okd_zero
  | some x => exact Crv.okd_wy h (by have := x.2; omega)
def befT (pre : List (Ix N)) (x : Ix N) : Int := befX c pre * c.wx x.1 + befY c pre * c.wy x.1
def errAt (pre : List (Ix N)) (x : Ix N) : Int := if c.perr x.1 ≠ 0 then c.perr x.1 else if 0 < x.1 ∧ befT c pre x ≤ 0 then 12 else 0
def OKs (pre : List (Ix N)) : Prop := ∀ ini x post, pre = ini ++ x :: post → errAt c ini x = 0
theorem OKs_nil : OKs c ([] : List (Ix N)) := fun ini x post h => by cases ini <;> cases h
theorem OKs_snoc {pre : List (Ix N)} {x : Ix N} (h : OKs c pre) (hx : errAt c pre x = 0) : OKs c (pre ++ [x]) := by
  intro ini y post e
  rcases List.eq_nil_or_concat post with rfl | ⟨post', z, rfl⟩
  · obtain ⟨rfl, e2⟩ := List.append_inj' e rfl
    cases e2; exact hx
  · rw [show ini ++ y :: (post'.concat z) = (ini ++ y :: post') ++ [z] by simp] at e
    obtain ⟨e1, _⟩ := List.append_inj' e rfl
    exact h ini y post' e1
theorem errAt_upto (k : Nat) (hk : k < N) : errAt c (upto N k) ⟨k, hk⟩ = c.ferr k := by
  unfold errAt Crv.ferr
  cases k with
  | zero => simp
  | succ k =>
    have e : befT c (upto N (k + 1)) ⟨k + 1, hk⟩ = c.turn (k + 1) := by
      rw [upto_succ (by omega)]; unfold befT Crv.turn; rw [befX_snoc, befY_snoc]; simp
    rw [e]
theorem allIx_split (k : Nat) (hk : k < N) : ∃ post, allIx N = upto N k ++ ⟨k, hk⟩ :: post := by
  refine ⟨(allIx N).drop (k + 1), ?_⟩
  have h1 : k < (allIx N).length := by rw [allIx_length]; exact hk
  have h2 := List.take_append_drop k (allIx N)
  rw [List.drop_eq_getElem_cons h1, allIx_get N k hk] at h2
  exact h2.symm
theorem OKs_all (h : OKs c (allIx N)) : ∀ k, k < N → c.ferr k = 0 := fun k hk => by
  obtain ⟨post, e⟩ := allIx_split (N := N) k hk
  rw [← errAt_upto c k hk]; exact h _ _ _ e
theorem OKs_upto {k : Nat} (hk : k ≤ N) (h : OKs c (upto N k)) : ∀ j, j < k → c.ferr j = 0 := fun j hj => by
  have hjN : j < N := by omega
  have e : ∃ post, upto N k = upto N j ++ ⟨j, hjN⟩ :: post := by
    refine ⟨(upto N k).drop (j + 1), ?_⟩
    have h1 : j < (upto N k).length := by rw [upto_length hk]; exact hj
    have h2 := List.take_append_drop j (upto N k)
    have h3 : (upto N k)[j] = ⟨j, hjN⟩ := by
      have : (upto N k)[j] = (allIx N)[j]'(by rw [allIx_length]; exact hjN) := by simp [upto]
      rw [this, allIx_get N j hjN]
    have h4 : (upto N k).take j = upto N j := by unfold upto; rw [List.take_take, Nat.min_eq_left (by omega)]
    rw [List.drop_eq_getElem_cons h1, h3, h4] at h2
    exact h2.symm
  obtain ⟨post, e⟩ := e
  rw [← errAt_upto c j hjN]; exact h _ _ _ e
end

theorem BoxAt.alloc {w : World} {g : Nat} {t : TypeId} {cs : Array Value} (h : BoxAt w g t cs) (o : Obj) : BoxAt (w.alloc o) g t cs := h.grown (World.grownBy_alloc w o none) (by simp)

theorem BoxAt.other {w : World} {g g' : Nat} {t : TypeId} {cs : Array Value} (h : BoxAt w g t cs) (hne : g ≠ g') (i : Nat) (u : Value) : BoxAt (w.setCell ⟨g', i, none⟩ u) g t cs := (Below.heap_setCell w _ u g hne).trans h

theorem box2 {W w2 : World} {g : Nat} {t : TypeId} {a b : Value} (h : BoxAt W g t #[a, b]) (hb : Below W.heap.size W w2) :
    Hid (BoxAt w2 g t #[a, b]) ∧ w2.cell? ⟨g, 0, none⟩ = some a ∧ w2.cell? ⟨g, 1, none⟩ = some b ∧ w2.frozen? ⟨g, 0, none⟩ = false ∧ w2.frozen? ⟨g, 1, none⟩ = false :=
  have q := h.below hb h.lt
  ⟨q, q.cell 0, q.cell 1, q.frozen 0, q.frozen 1⟩
theorem box6w {W w2 : World} {g : Nat} {t : TypeId} {a0 a1 a2 a3 a4 a5 : Value} (h : BoxAt W g t #[a0, a1, a2, a3, a4, a5]) (hb : Below W.heap.size W w2) :
    Hid (BoxAt w2 g t #[a0, a1, a2, a3, a4, a5]) ∧ w2.cell? ⟨g, 2, none⟩ = some a2 ∧ w2.cell? ⟨g, 3, none⟩ = some a3 :=
  have q := h.below hb h.lt
  ⟨q, q.cell 2, q.cell 3⟩

theorem pcheck_r (x y p q l s d r : Int) (w : World) (hp : okd p) (hq : okd q) (hd : Hid (p * p + q * q = d)) (hr : Hid (perrOf l d = r)) (hl : 0 ≤ l * l) (hl' : l * l ≤ 4503599627370496) :
    Calls Try.prog 61 #[.agg #[.int .i64 x, .int .i64 y, .int .i64 p, .int .i64 q, .int .i64 l, .int .i64 s]] w fun e w' => e = .returned (.int .i64 r) ∧ Below w.heap.size w w' := by
  have := pcheck_n x y p q l s d w hp hq hd hl hl'
  rwa [hr.out] at this

theorem pre_facts {w w1 : World} {s : Value} (hb1 : Below ((w.alloc (.cells #[s] 24)).alloc (.cells #[.int .i64 0] 28)).heap.size ((w.alloc (.cells #[s] 24)).alloc (.cells #[.int .i64 0] 28)) w1) :
    Below w.heap.size w w1 ∧ w.heap.size + 1 + 1 ≤ w1.heap.size ∧ w1.cell? ⟨w.heap.size, 0, none⟩ = some s ∧ Hid (BoxAt w1 (w.heap.size + 1) 28 #[.int .i64 0]) := by
  have hB2 : Below w.heap.size w ((w.alloc (.cells #[s] 24)).alloc (.cells #[.int .i64 0] 28)) := ((Below.refl _ w).alloc (Nat.le_refl _) _).alloc (by simp) _
  have hR : BoxAt ((w.alloc (.cells #[s] 24)).alloc (.cells #[.int .i64 0] 28)) (w.heap.size + 1) 28 #[.int .i64 0] := by
    have := BoxAt.new (w.alloc (.cells #[s] 24)) 28 #[.int .i64 0]
    rwa [World.size_alloc] at this
  have hC : BoxAt ((w.alloc (.cells #[s] 24)).alloc (.cells #[.int .i64 0] 28)) w.heap.size 24 #[s] := (Below.heap_alloc _ _ _ (by simp)).trans (BoxAt.new w 24 #[s])
  have hC' : BoxAt w1 w.heap.size 24 #[s] := hC.below hb1 (by simp; omega)
  exact ⟨hB2.trans (hb1.mono (by simp; omega)), by have := hb1.size; simp at this; omega, hC'.cell 0, hR.below hb1 (by simp)⟩

set_option maxRecDepth 100000 in
set_option maxHeartbeats 4000000 in
theorem check_ok_in (m : Nat) (hm : 3 ≤ m) (b off cap : Nat) (c : Crv) (hn : 2 ≤ c.n) (hn' : c.n ≤ 16) (hok : c.AllOk) (w : World) (hp : Pts w b off c.n c.X c.Y) (hb : b < w.heap.size) :
    CallsIn Fence.wide m Try.prog 20 #[cv b off c.n cap] w fun e w' => e = .returned (.int .i64 (firstE c.ferr (c.n - 1))) ∧ Below w.heap.size w w' := by
  refine callsIn_of_wp_marks Try.func20 rfl trivial ?_ rfl
  simp only [Try.ntmps20, List.size_toArray, List.length_cons, List.length_nil, Nat.reduceAdd, Nat.reduceSub, Array.replicate_succ, Array.replicate_zero, List.push_toArray, List.append_toArray, List.nil_append, List.cons_append]
  have hB2 : Below w.heap.size w ((w.alloc (.cells #[.slice (some ⟨b, off, none⟩) c.n cap] 24)).alloc (.cells #[.int .i64 0] 28)) := ((Below.refl _ w).alloc (Nat.le_refl _) _).alloc (by simp) _
  have hp2 := hp.below hB2 hb
  have hR2 : BoxAt ((w.alloc (.cells #[.slice (some ⟨b, off, none⟩) c.n cap] 24)).alloc (.cells #[.int .i64 0] 28)) (w.heap.size + 1) 28 #[.int .i64 0] := by
    have := BoxAt.new (w.alloc (.cells #[.slice (some ⟨b, off, none⟩) c.n cap] 24)) 28 #[.int .i64 0]
    rwa [World.size_alloc] at this
  gi_wp2_with (first
    | (refine ⟨trivial, fun _ => by omega, ?_⟩; gi_at_call 59; refine (callsIn_wide.2 (valid_yes b off c.n cap c.X c.Y _ hp2 (by simp; omega) (by omega) hok)).mono ?_; rintro e w1 ⟨rfl, hb1⟩; obtain ⟨hbw, hz1, cC, hR⟩ := pre_facts hb1; clear hb1; have hz2 : w.heap.size < w1.heap.size := (by omega))
    | (refine ⟨trivial, fun _ => by omega, ?_⟩; gi_at_call 60; refine (callsIn_wide.2 (pieces_any b off c.n cap _)).mono ?_; rintro e w2 ⟨rfl, rfl⟩))
  obtain ⟨Bb, hBb⟩ : ∃ Bb, Bb = w1.heap.size := ⟨_, rfl⟩
  obtain ⟨W0, hW0⟩ : ∃ W0, ((w1.alloc (.cells #[.int .i64 0, .int .i64 0] 43)).alloc (.cells #[.slice (some ⟨b, off, none⟩) c.n cap] 24)) = W0 := ⟨_, rfl⟩
  have sB : BoxAt W0 Bb 43 #[.int .i64 0, .int .i64 0] := by rw [← hW0, hBb]; exact (Below.heap_alloc _ _ _ (by simp)).trans (BoxAt.new w1 43 _)
  have sP : BoxAt W0 (Bb + 1) 24 #[.slice (some ⟨b, off, none⟩) c.n cap] := by
    have := BoxAt.new (w1.alloc (.cells #[.int .i64 0, .int .i64 0] 43)) 24 #[.slice (some ⟨b, off, none⟩) c.n cap]
    rw [World.size_alloc] at this
    rw [← hW0, hBb]; exact this
  have hB10 : Below w1.heap.size w1 W0 := by rw [← hW0]; exact ((Below.refl _ _).alloc (Nat.le_refl _) _).alloc (by simp) _
  have sR : BoxAt W0 (w.heap.size + 1) 28 #[.int .i64 0] := hR.out.below hB10 (by omega)
  have hB0 : Below w.heap.size w W0 := hbw.trans (hB10.mono (by omega))
  have hsz : W0.heap.size = Bb + 2 := by rw [← hW0, hBb]; simp
  rw [hW0, ← hBb]
  rw [← hBb] at hz1 hz2
  have hp0 := hp.below hB0 hb
  clear hW0 hBb hB10 cC hR hbw hp2 hR2 hB2
  refine wpIn_rangeFunc_ownH rfl (by omega) (gf := 89) (lb := #[.pointer (some ⟨Bb + 1, 0, none⟩)]) rfl trivial (enters_of Try.func89 (by kernel_rfl) rfl)
    (pieces_stops (m - 1) (by omega) (Bb + 1) w.heap.size (Bb + 1) b off cap c hn hn' hok hb W0 sP (Nat.le_refl _) hp0 hB0.size) Kp2.trans (kp2_b hB0.size) (Below.refl _ _) (fun _ => rfl)
    (fun pre W => ((OKs c pre ∧ BoxAt W (w.heap.size + 1) 28 #[.int .i64 0]) ∧ BoxAt W Bb 43 #[.int .i64 (befX c pre), .int .i64 (befY c pre)]) ∧ Below w.heap.size w W)
    (fun cd pre W => (∃ ini x, (cd = .ret ∧ pre = ini ++ [x] ∧ OKs c ini ∧ errAt c ini x ≠ 0) ∧ BoxAt W (w.heap.size + 1) 28 #[.int .i64 (errAt c ini x)]) ∧ Below w.heap.size w W)
    (OwnFrom.and (Own.from (own_and (own_and (own_pure _) (boxAt_own _ _ _)) (boxAt_own _ _ _)) _) (ownFrom_below (Nat.le_refl _) (by omega)))
    (fun cd => OwnFrom.and (Own.from (fun s A B row hs hg hr => by obtain ⟨ini, x, h1, h2⟩ := hs; exact ⟨ini, x, h1, boxAt_own (β := Unit) _ _ (fun _ => _) () A B row h2 hg hr⟩) _) (ownFrom_below (Nat.le_refl _) (by omega)))
    ⟨⟨⟨OKs_nil c, sR⟩, sB⟩, hB0⟩
    (fun x a' W => ∃ Bx, BoxAt W Bx 81 #[.int .i64 (c.X x.1), .int .i64 (c.Y x.1), .int .i64 (c.wx x.1), .int .i64 (c.wy x.1), .int .i64 (c.len x.1), .int .i64 (c.st x.1)] ∧
      a' = { tmps := #[cv b off c.n cap, .pointer (some ⟨w.heap.size, 0, none⟩), .pointer (some ⟨w.heap.size + 1, 0, none⟩), .pointer (some ⟨Bb, 0, none⟩), .int .i64 (x.1 : Int), .pointer (some ⟨Bx, 0, none⟩), undef, .pointer (some ⟨w.heap.size, 0, none⟩),
          .slice (some ⟨b, off, none⟩) c.n cap, .int .i64 (c.n : Int), .bool (decide ((c.n : Int) < 2)), .pointer (some ⟨w.heap.size, 0, none⟩), .slice (some ⟨b, off, none⟩) c.n cap, .int .i64 (c.n : Int), .bool (decide (16 < (c.n : Int))), .pointer (some ⟨w.heap.size, 0, none⟩),
          .slice (some ⟨b, off, none⟩) c.n cap, .bool true, .bool false, .agg #[.slice (some ⟨b, off, none⟩) c.n cap], .func (.func 89) #[] #[.pointer (some ⟨Bb + 1, 0, none⟩)], .int .i64 (x.1 : Int), pcv c x.1, undef, undef, undef, undef, undef, undef, undef, undef, undef, undef, undef, undef, undef, undef, undef, undef], defers := [] })
    (fun x a' => Own.from (fun _ A B row hs hg hr => by obtain ⟨Bx, h2, h3⟩ := hs; exact ⟨Bx, boxAt_own (β := Unit) _ _ (fun _ => _) () A B row h2 hg hr, h3⟩) _) ?assign ?body ?done ?stop
  case assign =>
    rintro l pre x W K ⟨⟨⟨h1, h2⟩, h3⟩, hB⟩ hK
    gi_wp2
    exact hK _ _ ((KeepsOthers.alloc _ _).from _) ((Kp2.refl _ _ _).alloc hB.size _) ⟨⟨⟨h1, h2.alloc _⟩, h3.alloc _⟩, hB.alloc hB.size _⟩ ⟨W.heap.size, BoxAt.new _ _ _, rfl⟩
  case body =>
    rintro l pre x a' W hl hr ⟨⟨⟨hO, hR⟩, hBf⟩, hB⟩ ⟨Bx, hbx, rfl⟩ hlt
    have hx2 : x.1 + 1 < c.n := by have := x.2; omega
    have owx := Crv.okd_wx hok hx2
    have owy := Crv.okd_wy hok hx2
    have obx := okd_befX c hok pre
    have oby := okd_befY c hok pre
    obtain ⟨r, hr0⟩ : ∃ r, r = c.perr x.1 := ⟨_, rfl⟩
    have hpr : Hid (perrOf (c.len x.1) (c.d2 x.1) = r) := hr0.symm
    have hl0 := Crv.len_nonneg (c := c) x.1
    have hl1 := Crv.len_lt hok hx2
    have hll0 : 0 ≤ c.len x.1 * c.len x.1 := Int.mul_nonneg hl0 hl0
    have hll1 : c.len x.1 * c.len x.1 ≤ 4503599627370496 := by have := mul_bound (A := 67108864) (B := 67108864) (a := c.len x.1) (b := c.len x.1) (by omega) (by omega) (by omega) (by omega); omega
    have hd2 : Hid (c.wx x.1 * c.wx x.1 + c.wy x.1 * c.wy x.1 = c.d2 x.1) := rfl
    have k0 : W.cell? ⟨Bx, 0, none⟩ = some (.int .i64 (c.X x.1)) := hbx.cell 0
    have k1 : W.cell? ⟨Bx, 1, none⟩ = some (.int .i64 (c.Y x.1)) := hbx.cell 1
    have k2 : W.cell? ⟨Bx, 2, none⟩ = some (.int .i64 (c.wx x.1)) := hbx.cell 2
    have k3 : W.cell? ⟨Bx, 3, none⟩ = some (.int .i64 (c.wy x.1)) := hbx.cell 3
    have k4 : W.cell? ⟨Bx, 4, none⟩ = some (.int .i64 (c.len x.1)) := hbx.cell 4
    have k5 : W.cell? ⟨Bx, 5, none⟩ = some (.int .i64 (c.st x.1)) := hbx.cell 5
    have HR := Lib.hid hr0
    clear hr0
    by_cases he : r = 0
    · subst he
      have hp0 : Hid (c.perr x.1 = 0) := HR.out.symm
      obtain ⟨t, ht⟩ : ∃ t, t = befT c pre x := ⟨_, rfl⟩
      have ht0 : Hid (befX c pre * c.wx x.1 + befY c pre * c.wy x.1 = t) := ht.symm
      have HT := Lib.hid ht
      clear ht
      have e12 : Hid (0 < x.1 → t ≤ 0 → errAt c pre x = 12) := fun h1 h2 => by unfold errAt; rw [if_neg (by simp [hp0.out]), if_pos ⟨h1, by rw [← HT.out]; exact h2⟩]
      have e00 : Hid (¬ (0 < x.1 ∧ t ≤ 0) → errAt c pre x = 0) := fun h1 => by unfold errAt; rw [if_neg (by simp [hp0.out]), if_neg (by rw [← HT.out]; exact h1)]
      have HO := Lib.hid hO
      have eX : Hid (befX c (pre ++ [x]) = c.wx x.1) := befX_snoc c pre x
      have eY : Hid (befY c (pre ++ [x]) = c.wy x.1) := befY_snoc c pre x
      clear hO
      by_cases hx0 : 0 < x.1
      · have hx1 : 0 < (x.1 : Int) := by omega
        by_cases ht1 : t ≤ 0
        · have E := Lib.hid (e12.out hx0 ht1)
          gi_wp2_with (first | (refine ⟨trivial, fun _ => by omega, ?_⟩; gi_at_call 61; refine (CallsIn.inRound l (callsIn_wide.2 (pcheck_r _ _ _ _ _ _ _ _ _ owx owy hd2 hpr hll0 hll1))).mono ?_; rintro e w2 ⟨rfl, hb2⟩; have qR : Hid (BoxAt w2 (w.heap.size + 1) 28 #[.int .i64 0]) := (BoxAt.below hR hb2 hR.lt); have r0 : w2.cell? ⟨w.heap.size + 1, 0, none⟩ = some (.int .i64 0) := (BoxAt.cell qR.out 0); have r1 : w2.frozen? ⟨w.heap.size + 1, 0, none⟩ = false := (BoxAt.frozen qR.out 0); obtain ⟨qB, g0, g1, g2, g3⟩ := box2 hBf hb2; obtain ⟨qX, x2, x3⟩ := box6w hbx hb2) | (refine ⟨trivial, fun _ => by omega, ?_⟩; gi_at_call 62; refine (CallsIn.inRound l (callsIn_wide.2 (dot_n _ _ _ _ t _ obx oby owx owy ht0.out))).mono ?_; rintro e w3 ⟨rfl, hb3⟩; have qR3 : Hid (BoxAt w3 (w.heap.size + 1) 28 #[.int .i64 0]) := (BoxAt.below qR.out hb3 (BoxAt.lt qR.out)); have s0 : w3.cell? ⟨w.heap.size + 1, 0, none⟩ = some (.int .i64 0) := (BoxAt.cell qR3.out 0); have s1 : w3.frozen? ⟨w.heap.size + 1, 0, none⟩ = false := (BoxAt.frozen qR3.out 0); obtain ⟨qB3, m0, m1, m2, m3⟩ := box2 qB.out hb3; obtain ⟨qX3, y2, y3⟩ := box6w qX.out hb3))
          exact ⟨(KeepsFrom.of_grownBy (grown_of_below (hb2.trans (hb3.mono hb2.size))) (fun j e => by cases e)).trans ((KeepsOthers.setCell _ _ _).from _), ⟨pre, x, ⟨rfl, rfl, HO.out, by rw [E.out]; decide⟩, by rw [E.out]; exact qR3.out.set 0 _⟩, (hB.trans ((hb2.trans (hb3.mono hb2.size)).mono hB.size)).setCell (p := ⟨w.heap.size + 1, 0, none⟩) (by simp) _⟩
        · have E := Lib.hid (e00.out (fun h => ht1 h.2))
          have ht2 : 0 < t := by omega
          have ht3 : decide (t ≤ 0) = false := by simp; omega
          clear ht1
          gi_wp2_with (first | (refine ⟨trivial, fun _ => by omega, ?_⟩; gi_at_call 61; refine (CallsIn.inRound l (callsIn_wide.2 (pcheck_r _ _ _ _ _ _ _ _ _ owx owy hd2 hpr hll0 hll1))).mono ?_; rintro e w2 ⟨rfl, hb2⟩; have qR : Hid (BoxAt w2 (w.heap.size + 1) 28 #[.int .i64 0]) := (BoxAt.below hR hb2 hR.lt); have r0 : w2.cell? ⟨w.heap.size + 1, 0, none⟩ = some (.int .i64 0) := (BoxAt.cell qR.out 0); have r1 : w2.frozen? ⟨w.heap.size + 1, 0, none⟩ = false := (BoxAt.frozen qR.out 0); obtain ⟨qB, g0, g1, g2, g3⟩ := box2 hBf hb2; obtain ⟨qX, x2, x3⟩ := box6w hbx hb2) | (refine ⟨trivial, fun _ => by omega, ?_⟩; gi_at_call 62; refine (CallsIn.inRound l (callsIn_wide.2 (dot_n _ _ _ _ t _ obx oby owx owy ht0.out))).mono ?_; rintro e w3 ⟨rfl, hb3⟩; have qR3 : Hid (BoxAt w3 (w.heap.size + 1) 28 #[.int .i64 0]) := (BoxAt.below qR.out hb3 (BoxAt.lt qR.out)); have s0 : w3.cell? ⟨w.heap.size + 1, 0, none⟩ = some (.int .i64 0) := (BoxAt.cell qR3.out 0); have s1 : w3.frozen? ⟨w.heap.size + 1, 0, none⟩ = false := (BoxAt.frozen qR3.out 0); obtain ⟨qB3, m0, m1, m2, m3⟩ := box2 qB.out hb3; obtain ⟨qX3, y2, y3⟩ := box6w qX.out hb3))
          exact ⟨(KeepsFrom.of_grownBy (grown_of_below (hb2.trans (hb3.mono hb2.size))) (fun j e => by cases e)).trans (((KeepsOthers.setCell _ _ _).trans (KeepsOthers.setCell _ _ _)).from _), ((Kp2.of_below (hb2.trans (hb3.mono hb2.size)) hB.size).setCell (p := ⟨Bb, 0, none⟩) (by show w.heap.size ≤ Bb; omega) (by show Bb < Bb + 1; omega) _).setCell (p := ⟨Bb, 1, none⟩) (by show w.heap.size ≤ Bb; omega) (by show Bb < Bb + 1; omega) _,
            ⟨⟨OKs_snoc c HO.out E.out, (qR3.out.other (g' := Bb) (by omega) _ _).other (g' := Bb) (by omega) _ _⟩, by rw [eX.out, eY.out]; exact (qB3.out.set 0 _).set 1 _⟩, ((hB.trans ((hb2.trans (hb3.mono hb2.size)).mono hB.size)).setCell (p := ⟨Bb, 0, none⟩) (by show w.heap.size ≤ Bb; omega) _).setCell (p := ⟨Bb, 1, none⟩) (by show w.heap.size ≤ Bb; omega) _⟩
      · have hx1 : decide (0 < (x.1 : Int)) = false := by simp; omega
        have hx3 : decide (0 < x.1) = false := by simp; omega
        have E := Lib.hid (e00.out (fun h => hx0 h.1))
        gi_wp2_with (refine ⟨trivial, fun _ => by omega, ?_⟩; gi_at_call 61; refine (CallsIn.inRound l (callsIn_wide.2 (pcheck_r _ _ _ _ _ _ _ _ _ owx owy hd2 hpr hll0 hll1))).mono ?_; rintro e w2 ⟨rfl, hb2⟩; have qR : Hid (BoxAt w2 (w.heap.size + 1) 28 #[.int .i64 0]) := (BoxAt.below hR hb2 hR.lt); have r0 : w2.cell? ⟨w.heap.size + 1, 0, none⟩ = some (.int .i64 0) := (BoxAt.cell qR.out 0); have r1 : w2.frozen? ⟨w.heap.size + 1, 0, none⟩ = false := (BoxAt.frozen qR.out 0); obtain ⟨qB, g0, g1, g2, g3⟩ := box2 hBf hb2; obtain ⟨qX, x2, x3⟩ := box6w hbx hb2)
        refine ⟨trivial, ?_⟩
        gi_wp2
        exact ⟨(KeepsFrom.of_grownBy (grown_of_below hb2) (fun j e => by cases e)).trans (((KeepsOthers.setCell _ _ _).trans (KeepsOthers.setCell _ _ _)).from _), ((Kp2.of_below hb2 hB.size).setCell (p := ⟨Bb, 0, none⟩) (by show w.heap.size ≤ Bb; omega) (by show Bb < Bb + 1; omega) _).setCell (p := ⟨Bb, 1, none⟩) (by show w.heap.size ≤ Bb; omega) (by show Bb < Bb + 1; omega) _,
            ⟨⟨OKs_snoc c HO.out E.out, (qR.out.other (g' := Bb) (by omega) _ _).other (g' := Bb) (by omega) _ _⟩, by rw [eX.out, eY.out]; exact (qB.out.set 0 _).set 1 _⟩, ((hB.trans (hb2.mono hB.size)).setCell (p := ⟨Bb, 0, none⟩) (by show w.heap.size ≤ Bb; omega) _).setCell (p := ⟨Bb, 1, none⟩) (by show w.heap.size ≤ Bb; omega) _⟩
    · have hne : (r != 0) = true := by simpa using he
      have hEr0 : errAt c pre x = r := by unfold errAt; rw [← HR.out, if_pos he]
      have E := Lib.hid hEr0
      have HO := Lib.hid hO
      clear hEr0 hO
      gi_wp2_with (refine ⟨trivial, fun _ => by omega, ?_⟩; gi_at_call 61; refine (CallsIn.inRound l (callsIn_wide.2 (pcheck_r _ _ _ _ _ _ _ _ _ owx owy hd2 hpr hll0 hll1))).mono ?_; rintro e w2 ⟨rfl, hb2⟩; have qR : Hid (BoxAt w2 (w.heap.size + 1) 28 #[.int .i64 0]) := (BoxAt.below hR hb2 hR.lt); have r0 : w2.cell? ⟨w.heap.size + 1, 0, none⟩ = some (.int .i64 0) := (BoxAt.cell qR.out 0); have r1 : w2.frozen? ⟨w.heap.size + 1, 0, none⟩ = false := (BoxAt.frozen qR.out 0); obtain ⟨qB, g0, g1, g2, g3⟩ := box2 hBf hb2; obtain ⟨qX, x2, x3⟩ := box6w hbx hb2)
      exact ⟨(KeepsFrom.of_grownBy (grown_of_below hb2) (fun j e => by cases e)).trans ((KeepsOthers.setCell _ _ _).from _), ⟨pre, x, ⟨rfl, rfl, HO.out, by rw [E.out]; exact he⟩, by rw [E.out]; exact qR.out.set 0 _⟩, (hB.trans (hb2.mono hB.size)).setCell (p := ⟨w.heap.size + 1, 0, none⟩) (by simp) _⟩
  case done =>
    rintro D ys W hD rfl ⟨⟨⟨hO, hR⟩, hBf⟩, hB⟩ hK
    have q0 : W.cell? ⟨w.heap.size + 1, 0, none⟩ = some (.int .i64 0) := hR.cell 0
    have q1 : W.frozen? ⟨w.heap.size + 1, 0, none⟩ = false := hR.frozen 0
    have hz : Hid (firstE c.ferr (c.n - 1) = 0) := firstE_zero (OKs_all c hO)
    gi_wp2
    have hK' := (KeepsOthers.setCell W ⟨w.heap.size + 1, 0, none⟩ (.int .i64 0)).same D _ hK rfl
    refine ⟨by simp, .inl ⟨_, _, rfl, run_takeDeferred hK', ?_⟩⟩
    have hc5 := cell_kept (BoxAt.cell (hR.set 0 (.int .i64 0)) 0) (grownBy_putObj' _ D (.deferred none)) (fun r e => by cases e; exact ⟨_, hK', rfl⟩)
    refine ⟨.int .i64 0, ?_, by rw [hz.out], (hB.setCell (p := ⟨w.heap.size + 1, 0, none⟩) (by simp) _).trans (belowK_b (w := w) (Nat.le_refl _) _ D _ _ (by omega) hK' rfl rfl)⟩
    simp [results, Try.f20, go_sem, hc5]
  case stop =>
    rintro D cd pre W hD ⟨k, hk, rfl⟩ ⟨⟨ini, x, ⟨rfl, e1, e2, e3⟩, hR⟩, hB⟩ hK
    have hz : Hid (firstE c.ferr (c.n - 1) = errAt c ini x) := by
      cases k with
      | zero => simp [upto] at e1
      | succ k' =>
        have hkN : k' < c.n - 1 := by omega
        rw [upto_succ hkN] at e1
        obtain ⟨rfl, e5⟩ := List.append_inj' e1 rfl
        have e6 : (⟨k', hkN⟩ : Ix (c.n - 1)) = x := by simpa using e5
        rw [← e6, errAt_upto] at e3 ⊢
        exact firstE_at (by omega) (OKs_upto c (by omega) e2) e3
    generalize errAt c ini x = r at *
    gi_wp2
    refine ⟨by simp, .inl ⟨_, _, rfl, run_takeDeferred hK, ?_⟩⟩
    have hc5 := cell_kept (BoxAt.cell hR 0) (grownBy_putObj' _ D (.deferred none)) (fun r e => by cases e; exact ⟨_, hK, rfl⟩)
    refine ⟨.int .i64 r, ?_, by rw [hz.out], hB.trans (belowK_b (w := w) (Nat.le_refl _) W D _ _ (by omega) hK rfl rfl)⟩
    simp [results, Try.f20, go_sem, hc5]

/-- **Check of 2 to 16 valid points.** -/
theorem check_ok (b off cap : Nat) (c : Crv) (hn : 2 ≤ c.n) (hn' : c.n ≤ 16) (hok : c.AllOk) (w : World) (hp : Pts w b off c.n c.X c.Y) :
    Calls Try.prog 20 #[cv b off c.n cap] w fun e w' => e = .returned (.int .i64 (firstE c.ferr (c.n - 1))) ∧ Below w.heap.size w w' :=
  callsIn_wide.1 (check_ok_in 3 (Nat.le_refl _) b off cap c hn hn' hok w hp (hp.lt (by omega)))
end Go.Proofs.Ytglkpabcflecmaa
