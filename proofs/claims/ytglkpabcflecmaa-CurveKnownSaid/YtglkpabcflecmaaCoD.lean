/- The program's Corridors, of valid curves and of any. -/
import Derived.Test.YtglkpabcflecmaaCoB
import Derived.Test.YtglkpabcflecmaaCoC
import Derived.Test.YtglkpabcflecmaaRLen
import Derived.Test.YtglkpabcflecmaaKCur
import Derived.Deep.AppendLies
namespace Go.Proofs.Ytglkpabcflecmaa
open Go.RowKit Go.Shelf

theorem Try.info66 : (Try.prog.info? 66).map (fun i => (i.zero, i.size, i.bytes)) = some (some (.agg #[.int .i64 0, .int .i64 0, .int .i64 0, .int .i64 0]), 4, 32) := by kernel_rfl

/-- A cross: the offsets of both. -/
structure Quad where
  (fa ta fb tb : Int)
abbrev quadC (q : Quad) : Array Value := #[.int .i64 q.fa, .int .i64 q.ta, .int .i64 q.fb, .int .i64 q.tb]
def qcells (L : List Quad) : List Value := L.flatMap (fun q => (quadC q).toList)
theorem qcells_snoc (L : List Quad) (q : Quad) : qcells (L ++ [q]) = qcells L ++ [.int .i64 q.fa, .int .i64 q.ta, .int .i64 q.fb, .int .i64 q.tb] := by simp [qcells]
/-- The cross of two corridors, if they meet. -/
def crossQ (A B : Cor) : Quad := ⟨A.cFrom B, A.cTo B, B.cFrom A, B.cTo A⟩
def crossOf (A B : Cor) : List Quad := if A.meetB B = true then [crossQ A B] else []
def innerL (A : Cor) (G : Nat → Cor) : Nat → List Quad
  | 0 => []
  | j + 1 => innerL A G j ++ crossOf A (G j)
def outerL (F G : Nat → Cor) (m : Nat) : Nat → List Quad
  | 0 => []
  | i + 1 => outerL F G m i ++ innerL (F i) G m
theorem innerL_len (A : Cor) (G : Nat → Cor) (j : Nat) : (innerL A G j).length ≤ j := by
  induction j with
  | zero => simp [innerL]
  | succ j ih =>
    unfold innerL crossOf
    rw [List.length_append]
    split <;> simp <;> omega
theorem outerL_len (F G : Nat → Cor) (m i : Nat) : (outerL F G m i).length ≤ i * m := by
  induction i with
  | zero => simp [outerL]
  | succ i ih =>
    unfold outerL
    rw [List.length_append, Nat.succ_mul]
    have := innerL_len (F i) G m
    omega
/-- All crosses of two curves' corridors. -/
def crossL (c d : Crv) (ha hb : Int) : List Quad := outerL (corAt c ha) (corAt d hb) (d.n - 1) (c.n - 1)

theorem cors_cells {W : World} {g n : Nat} {F : Nat → Cor} (h : CorsAt W g n F) {i : Nat} (hi : i < n) : W.cell? ⟨g, i * 15, none⟩ = some (.int .i64 (F i).x) ∧ W.cell? ⟨g, i * 15 + 1, none⟩ = some (.int .i64 (F i).y) ∧ W.cell? ⟨g, i * 15 + 2, none⟩ = some (.int .i64 (F i).p) ∧ W.cell? ⟨g, i * 15 + 3, none⟩ = some (.int .i64 (F i).q) ∧ W.cell? ⟨g, i * 15 + 4, none⟩ = some (.int .i64 (F i).l) ∧ W.cell? ⟨g, i * 15 + 5, none⟩ = some (.int .i64 (F i).s) ∧ W.cell? ⟨g, i * 15 + 6, none⟩ = some (.int .i64 (F i).h) ∧ W.cell? ⟨g, i * 15 + 7, none⟩ = some (.int .i64 (F i).p) ∧ W.cell? ⟨g, i * 15 + 8, none⟩ = some (.int .i64 (F i).q) ∧ W.cell? ⟨g, i * 15 + 9, none⟩ = some (.int .i64 (-(F i).q)) ∧ W.cell? ⟨g, i * 15 + 10, none⟩ = some (.int .i64 (F i).p) ∧ W.cell? ⟨g, i * 15 + 11, none⟩ = some (.int .i64 (F i).a) ∧ W.cell? ⟨g, i * 15 + 12, none⟩ = some (.int .i64 (-(F i).h)) ∧ W.cell? ⟨g, i * 15 + 13, none⟩ = some (.int .i64 (F i).b) ∧ W.cell? ⟨g, i * 15 + 14, none⟩ = some (.int .i64 (F i).h) :=
  ⟨h i hi 0 (by omega), h i hi 1 (by omega), h i hi 2 (by omega), h i hi 3 (by omega), h i hi 4 (by omega), h i hi 5 (by omega), h i hi 6 (by omega), h i hi 7 (by omega), h i hi 8 (by omega), h i hi 9 (by omega), h i hi 10 (by omega), h i hi 11 (by omega), h i hi 12 (by omega), h i hi 13 (by omega), h i hi 14 (by omega)⟩

def CrsPost (L : List Quad) (w : World) (e : Ending) (w' : World) : Prop := ∃ v, e = .returned v ∧ w'.ownsRow w.heap.size 66 4 v L.length (qcells L) ∧ Below w.heap.size w w'

theorem crs_boxes (w : World) (s s2 : Value) : BoxAt ((w.alloc (.cells #[s] 24)).alloc (.cells #[s2] 24)) w.heap.size 24 #[s] ∧ BoxAt ((w.alloc (.cells #[s] 24)).alloc (.cells #[s2] 24)) (w.heap.size + 1) 24 #[s2] ∧ Below w.heap.size w ((w.alloc (.cells #[s] 24)).alloc (.cells #[s2] 24)) := by
  have h2 := BoxAt.new (w.alloc (.cells #[s] 24)) 24 #[s2]
  rw [World.size_alloc] at h2
  exact ⟨(BoxAt.new w 24 _).alloc _, h2, ((Below.refl _ w).alloc (Nat.le_refl _) _).alloc (by simp) _⟩
theorem crossOf_yes {A B : Cor} (h : A.meetB B = true) : crossOf A B = [crossQ A B] := if_pos h
theorem crossOf_no {A B : Cor} (h : A.meetB B = false) : crossOf A B = [] := if_neg (by rw [h]; simp)
theorem zero4 {W : World} {g : Nat} (h : BoxAt W g 66 #[.int .i64 0, .int .i64 0, .int .i64 0, .int .i64 0]) (a b : Int) : BoxAt ((W.setCell ⟨g, 0, none⟩ (.int .i64 a)).setCell ⟨g, 1, none⟩ (.int .i64 b)) g 66 #[.int .i64 a, .int .i64 b, .int .i64 0, .int .i64 0] := (h.set 0 _).set 1 _
theorem zero2 {W : World} {g : Nat} {a b : Int} (h : BoxAt W g 66 #[.int .i64 a, .int .i64 b, .int .i64 0, .int .i64 0]) (x y : Int) : BoxAt ((W.setCell ⟨g, 2, none⟩ (.int .i64 x)).setCell ⟨g, 3, none⟩ (.int .i64 y)) g 66 #[.int .i64 a, .int .i64 b, .int .i64 x, .int .i64 y] := (h.set 2 _).set 3 _

theorem box_other2' {W : World} {g h : Nat} {t : TypeId} {cs : Array Value} (hb : BoxAt W g t cs) (hne : g ≠ h) (i j : Nat) (a b : Value) : BoxAt ((W.setCell ⟨h, i, none⟩ a).setCell ⟨h, j, none⟩ b) g t cs := (hb.other hne i a).other hne j b
theorem below_set2 {W0 W : World} {n h : Nat} (hb : Below n W0 W) (hh : n ≤ h) (i j : Nat) (a b : Value) : Below n W0 ((W.setCell ⟨h, i, none⟩ a).setCell ⟨h, j, none⟩ b) := (hb.setCell (p := ⟨h, i, none⟩) hh a).setCell (p := ⟨h, j, none⟩) hh b
theorem owns_set2 {W : World} {base : Nat} {e : TypeId} {size : Nat} {v : Value} {k : Nat} {xs : List Value} {h : Nat} (ho : W.ownsRow base e size v k xs) (hne : v.ownBlock = some h → False) (i j : Nat) (a b : Value) : ((W.setCell ⟨h, i, none⟩ a).setCell ⟨h, j, none⟩ b).ownsRow base e size v k xs :=
  (ho.kept (grownBy_set W h i a) (.inr hne)).kept (grownBy_set _ h j b) (.inr hne)
theorem owns_mono {W : World} {base base' : Nat} {e : TypeId} {size : Nat} {v : Value} {k : Nat} {xs : List Value} (ho : W.ownsRow base e size v k xs) (hb : base' ≤ base) : W.ownsRow base' e size v k xs := by
  obtain ⟨h1, h2⟩ := ho
  refine ⟨h1, ?_⟩
  rcases h2 with h2 | ⟨g, cap, cur, h3, h4, h5⟩
  · exact .inl h2
  · exact .inr ⟨g, cap, cur, h3, by omega, h5⟩

set_option maxRecDepth 100000 in
set_option maxHeartbeats 8000000 in
theorem crs_good (b1 o1 c1 b2 o2 c2 : Nat) (c d : Crv) (hc : Good c) (hd : Good d) (ha hb : Int) (a0 : 0 ≤ ha) (a1 : ha ≤ 4000) (g0 : 0 ≤ hb) (g1 : hb ≤ 4000) (w : World) (h1 : Pts w b1 o1 c.n c.X c.Y) (h2 : Pts w b2 o2 d.n d.X d.Y) :
    Calls Try.prog 46 #[cv b1 o1 c.n c1, .int .i64 ha, cv b2 o2 d.n c2, .int .i64 hb] w (CrsPost (crossL c d ha hb) w) := by
  obtain ⟨i0_, hi0, hz0, hz1, hz2⟩ := info_parts Try.info66
  have hI0 := Lib.hid hi0
  have hZ0 := Lib.hid hz0
  have hZ1 := Lib.hid hz1
  have hZ2 := Lib.hid hz2
  clear hi0 hz0 hz1 hz2
  have hlc := hc.lo
  have hld := hd.lo
  have hhc := hc.hi
  have hhd := hd.hi
  obtain ⟨x1, x2, hB⟩ := crs_boxes w (.slice (some ⟨b1, o1, none⟩) c.n c1) (.slice (some ⟨b2, o2, none⟩) d.n c2)
  have k1 := Lib.hid (fun W (hW : Below w.heap.size w W) => check_good b1 o1 c1 c hc W (h1.below hW (h1.lt (by omega))))
  have k2 := Lib.hid (fun W (hW : Below w.heap.size w W) => check_good b2 o2 c2 d hd W (h2.below hW (h2.lt (by omega))))
  have k3 := Lib.hid (fun W (hW : Below w.heap.size w W) => cors_good b1 o1 c1 c hc ha a0 a1 W (h1.below hW (h1.lt (by omega))))
  have k4 := Lib.hid (fun W (hW : Below w.heap.size w W) => cors_good b2 o2 c2 d hd hb g0 g1 W (h2.below hW (h2.lt (by omega))))
  have k5 : Hid (∀ W, Calls Try.prog 76 #[.int .i64 ha] W fun e w' => e = .returned (.bool true) ∧ Below W.heap.size W w') := Lib.hid (fun W => by
    have := validHalf_any ha W
    rw [decide_eq_true a0, decide_eq_true a1] at this
    exact this)
  have k6 : Hid (∀ W, Calls Try.prog 76 #[.int .i64 hb] W fun e w' => e = .returned (.bool true) ∧ Below W.heap.size W w') := Lib.hid (fun W => by
    have := validHalf_any hb W
    rw [decide_eq_true g0, decide_eq_true g1] at this
    exact this)
  have HF : Hid (∀ i, i < c.n - 1 → (corAt c ha i).Ok ∧ 0 ≤ (corAt c ha i).s ∧ (corAt c ha i).s ≤ 100000000000000) := Lib.hid (fun i hi => ⟨corAt_ok hc a0 a1 (by omega), Crv.st_nonneg (c := c) i, by have := Crv.st_lt hc.ok (i := i) (by omega); dsimp only [corAt]; omega⟩)
  have HG : Hid (∀ i, i < d.n - 1 → (corAt d hb i).Ok ∧ 0 ≤ (corAt d hb i).s ∧ (corAt d hb i).s ≤ 100000000000000) := Lib.hid (fun i hi => ⟨corAt_ok hd g0 g1 (by omega), Crv.st_nonneg (c := d) i, by have := Crv.st_lt hd.ok (i := i) (by omega); dsimp only [corAt]; omega⟩)
  have HL : Hid (crossL c d ha hb = outerL (corAt c ha) (corAt d hb) (d.n - 1) (c.n - 1)) := Lib.hid rfl
  obtain ⟨LL, hLL⟩ : ∃ L, L = crossL c d ha hb := ⟨_, rfl⟩
  rw [← hLL] at HL ⊢
  clear hLL
  generalize corAt c ha = F at *
  generalize corAt d hb = G at *
  obtain ⟨n, hn⟩ : ∃ n, n = c.n - 1 := ⟨_, rfl⟩
  obtain ⟨m, hm⟩ : ∃ m, m = d.n - 1 := ⟨_, rfl⟩
  have n15 : n ≤ 15 := by omega
  have m15 : m ≤ 15 := by omega
  rw [← hn] at k3 HF
  rw [← hm] at k4 HG
  rw [← hn, ← hm] at HL
  clear h1 h2 hn hm hlc hld hhc hhd
  go_enter Try.func46, Try.ntmps46
  go_upto_region 1 with fail
  obtain ⟨w0, hw0⟩ : ∃ x, x = (w.alloc (.cells #[.slice (some ⟨b1, o1, none⟩) c.n c1] 24)).alloc (.cells #[.slice (some ⟨b2, o2, none⟩) d.n c2] 24) := ⟨_, rfl⟩
  rw [← hw0] at x1 x2 hB ⊢
  clear hw0
  have e1 : w0.cell? ⟨w.heap.size, 0, none⟩ = some (.slice (some ⟨b1, o1, none⟩) c.n c1) := x1.cell 0
  have HW : Hid (∀ W, Below w0.heap.size w0 W → W.cell? ⟨w.heap.size, 0, none⟩ = some (.slice (some ⟨b1, o1, none⟩) c.n c1) ∧ W.cell? ⟨w.heap.size + 1, 0, none⟩ = some (.slice (some ⟨b2, o2, none⟩) d.n c2)) := Lib.hid (fun W hW => ⟨(box_step x1 hW).cell 0, (box_step x2 hW).cell 0⟩)
  clear x1 x2
  go_upto_region 4 with (first
    | (go_at_call 20; (with_reducible refine (k1.out _ hB).mono ?_); rintro e w1 ⟨rfl, hb1⟩; have hB1 := below_step hB hb1; have e2 := (HW.out _ hb1).2)
    | (go_at_call 20; (with_reducible refine (k2.out _ hB1).mono ?_); rintro e w2 ⟨rfl, hb2⟩; have hB2 := below_step hB1 hb2)
    | (go_at_call 76; (with_reducible refine (k5.out _).mono ?_); rintro e w3 ⟨rfl, hb3⟩; have hB3 := below_step hB2 hb3)
    | (go_at_call 76; (with_reducible refine (k6.out _).mono ?_); rintro e w4 ⟨rfl, hb4⟩; have hB4 := below_step hB3 hb4))
  have hb04 := below_step (below_step (below_step hb1 hb2) hb3) hb4
  obtain ⟨e3, e4⟩ := HW.out _ hb04
  clear e1 e2 hb1 hb2 hb3 hb4 hB1 hB2 hB3 k1 k2 k5 k6
  go_upto_region 5 with (go_at_call 81; (with_reducible refine (k4.out _ hB4).mono ?_); rintro e w5 ⟨gG, capG, rfl, hG, lG, lG0, hb5⟩)
  have hB5 := below_step hB4 hb5
  obtain ⟨e5, e6⟩ := HW.out _ (below_step hb04 hb5)
  clear e3 e4
  go_upto_region 6 with (go_at_call 81; (with_reducible refine (k3.out _ hB5).mono ?_); rintro e w6 ⟨gF, capF, rfl, hF, lF, lF0, hb6⟩)
  have hB6 := below_step hB5 hb6
  have HN : Hid (∀ W, Below w6.heap.size w6 W → CorsAt W gF n F ∧ CorsAt W gG m G) := Lib.hid (fun W hW => ⟨hF.below hW lF, (hG.below hb6 lG).below hW (by have := hb6.size; omega)⟩)
  have hgF : gF < w6.heap.size := lF
  have hgG : gG < w6.heap.size := by have := hb6.size; omega
  clear hF hG lF lG lF0 lG0 hb5 hb6 e5 e6 hb04 hB4 hB5 HW k3 k4 hB
  have HB6 := Lib.hid hB6
  clear hB6
  have I : ∃ (i : Nat) (v : Value), i ≤ n ∧ v = (Value.slice none 0 0) ∧ (Value.int .i64 0) = .int .i64 i ∧ Hid (w6.ownsRow w6.heap.size 66 4 v (outerL F G m i).length (qcells (outerL F G m i))) ∧ Hid (Below w6.heap.size w6 w6) := ⟨0, _, by omega, rfl, rfl, Lib.hid (World.ownsRow_nil _ _ _ _), Lib.hid (Below.refl _ _)⟩
  go_loopw [9, 41] (fun vv iv wr => ∃ (i : Nat) (v : Value), i ≤ n ∧ v = vv ∧ iv = .int .i64 i ∧ Hid (wr.ownsRow w6.heap.size 66 4 v (outerL F G m i).length (qcells (outerL F G m i))) ∧ Hid (Below w6.heap.size w6 wr)) (fun _ iv _ => n + 1 - (intOf iv).toNat)
  case atStart => exact I
  case round =>
    clear I
    obtain ⟨wi, rfl⟩ : ∃ x : World, x = wr := ⟨_, rfl⟩
    obtain ⟨i, v, hi, rfl, rfl, HO, HX⟩ := hrel
    by_cases hi2 : i < n
    · have i1 : (i : Int) < (n : Int) := by omega
      have iz : (0 : Int) ≤ (i : Int) := by omega
      obtain ⟨okA, sA0, sA1⟩ := HF.out i hi2
      obtain ⟨c0, c1', c2', c3, c4, c5, c6, c7, c8, c9, c10, c11, c12, c13, c14⟩ := cors_cells (HN.out wi HX.out).1 hi2
      have lz := HX.out.size
      have lgF : gF < wi.heap.size := by omega
      obtain ⟨A, hA⟩ : ∃ A, A = F i := ⟨_, rfl⟩
      rw [← hA] at okA sA0 sA1 c0 c1' c2' c3 c4 c5 c6 c7 c8 c9 c10 c11 c12 c13 c14
      have HA := Lib.hid hA
      have OKA := Lib.hid okA
      clear hA okA
      go_upto_region 8 with fail
      have bA := BoxAt.new wi 101 (corC A)
      have HX8 := Lib.hid (HX.out.alloc (by omega) (.cells (corC A) 101))
      have HO8 := Lib.hid (HO.out.alloc (.cells (corC A) 101))
      obtain ⟨Bp, hBp⟩ : ∃ z, z = wi.heap.size := ⟨_, rfl⟩
      rw [← hBp] at bA ⊢
      have hBl : w6.heap.size ≤ Bp := by omega
      clear hBp c0 c1' c2' c3 c4 c5 c6 c7 c8 c9 c10 c11 c12 c13 c14 lz lgF HO HX
      generalize wi.alloc (.cells (corC A) 101) = w8 at *
      have HbA := Lib.hid bA
      clear bA
      go_wp2
      have I : ∃ (j : Nat) (u : Value), j ≤ m ∧ u = v ∧ (Value.int .i64 0) = .int .i64 j ∧ Hid (w8.ownsRow w6.heap.size 66 4 u (outerL F G m i ++ innerL A G j).length (qcells (outerL F G m i ++ innerL A G j))) ∧ Hid (BoxAt w8 Bp 101 (corC A)) ∧ Hid (Below w6.heap.size w6 w8) := ⟨0, _, by omega, rfl, rfl, by unfold innerL; rw [List.append_nil]; exact HO8, HbA, HX8⟩
      go_loopw [9, 47] (fun uu jv ws => ∃ (j : Nat) (u : Value), j ≤ m ∧ u = uu ∧ jv = .int .i64 j ∧ Hid (ws.ownsRow w6.heap.size 66 4 u (outerL F G m i ++ innerL A G j).length (qcells (outerL F G m i ++ innerL A G j))) ∧ Hid (BoxAt ws Bp 101 (corC A)) ∧ Hid (Below w6.heap.size w6 ws)) (fun _ jv _ => m + 1 - (intOf jv).toNat)
      case atStart => exact I
      case round =>
        clear I HO8 HbA HX8
        obtain ⟨ws, rfl⟩ : ∃ x : World, x = wr := ⟨_, rfl⟩
        obtain ⟨j, u, hj, rfl, rfl, HO, HbA, HX⟩ := hrel
        by_cases hj2 : j < m
        · have j1 : (j : Int) < (m : Int) := by omega
          have jz : (0 : Int) ≤ (j : Int) := by omega
          obtain ⟨okB, sB0, sB1⟩ := HG.out j hj2
          obtain ⟨d0, d1, d2, d3, d4, d5, d6, d7, d8, d9, d10, d11, d12, d13, d14⟩ := cors_cells (HN.out ws HX.out).2 hj2
          have lz := HX.out.size
          have lgG : gG < ws.heap.size := by omega
          have hlen : (outerL F G m i ++ innerL A G j).length ≤ 225 := by
            have := outerL_len F G m i
            have := innerL_len A G j
            have := Nat.mul_le_mul (show i ≤ 14 by omega) m15
            rw [List.length_append]
            omega
          obtain ⟨B, hBj⟩ : ∃ B, B = G j := ⟨_, rfl⟩
          rw [← hBj] at okB sB0 sB1 d0 d1 d2 d3 d4 d5 d6 d7 d8 d9 d10 d11 d12 d13 d14
          have hnext : innerL A G (j + 1) = innerL A G j ++ crossOf A B := by rw [hBj]; rfl
          obtain ⟨L, hL⟩ : ∃ L, L = outerL F G m i ++ innerL A G j := ⟨_, rfl⟩
          have hnx : outerL F G m i ++ innerL A G (j + 1) = L ++ crossOf A B := by rw [hnext, hL, List.append_assoc]
          rw [← hL] at HO hlen
          have HM := Lib.hid (fun W => meets_any A B OKA.out okB W)
          have HC1 := Lib.hid (fun W => common_any A B OKA.out okB sA0 sA1 W)
          have HC2 := Lib.hid (fun W => common_any B A okB OKA.out sB0 sB1 W)
          obtain ⟨t, ht⟩ : ∃ t, t = A.meetB B := ⟨_, rfl⟩
          rw [← ht] at HM
          have hvb : ∀ k, u.ownBlock = some k → w6.heap.size ≤ k ∧ k < ws.heap.size := HO.out.lt
          have hz : ws.heap.size < (ws.alloc (.cells (corC B) 101)).heap.size := by simp
          clear hnext hL hBj okB
          go_upto_region 11 with fail
          have bB := BoxAt.new ws 101 (corC B)
          have HbA1 := Lib.hid (HbA.out.alloc (.cells (corC B) 101))
          have HX1 := Lib.hid (HX.out.alloc (by omega) (.cells (corC B) 101))
          have HO1 := Lib.hid (HO.out.alloc (.cells (corC B) 101))
          obtain ⟨Bq, hBq⟩ : ∃ z, z = ws.heap.size := ⟨_, rfl⟩
          rw [← hBq] at bB ⊢
          rw [← hBq] at hz hvb
          clear hBq d0 d1 d2 d3 d4 d5 d6 d7 d8 d9 d10 d11 d12 d13 d14 lz lgG HO HX HbA
          generalize ws.alloc (.cells (corC B) 101) = wt at *
          have HbB := Lib.hid bB
          have lA := HbA1.out.lt
          have lB := bB.lt
          obtain ⟨c0, c1', c2', c3, c4, c5, c6, c7, c8, c9, c10, c11, c12, c13, c14⟩ := cor_cells HbA1.out
          obtain ⟨d0, d1, d2, d3, d4, d5, d6, d7, d8, d9, d10, d11, d12, d13, d14⟩ := cor_cells bB
          clear bB
          cases t with
          | false => as_aux_lemma =>
            have HR : Hid (outerL F G m i ++ innerL A G (j + 1) = L) := Lib.hid (by rw [hnx, crossOf_no ht.symm, List.append_nil])
            clear hnx ht
            go_wp2_with (go_at_call 82; (with_reducible refine (HM.out _).mono ?_); rintro e wu ⟨rfl, hbu⟩)
            go_roundw
            case rel => exact ⟨j + 1, _, by omega, rfl, by go_num, Lib.hid (by rw [HR.out]; exact HO1.out.kept (grown_of_below hbu) (Classical.em _)), Lib.hid (box_step HbA1.out hbu), Lib.hid (HX1.out.trans (hbu.mono (HX1.out.size)))⟩
            case measure => simp [intOf]; omega
          | true => as_aux_lemma =>
            have HR : Hid (outerL F G m i ++ innerL A G (j + 1) = L ++ [crossQ A B]) := Lib.hid (by rw [hnx, crossOf_yes ht.symm])
            clear hnx ht
            go_upto_region 13 with (go_at_call 82; (with_reducible refine (HM.out _).mono ?_); rintro e wu ⟨rfl, hbu⟩)
            clear c0 c1' c2' c3 c4 c5 c6 c7 c8 c9 c10 c11 c12 c13 c14 d0 d1 d2 d3 d4 d5 d6 d7 d8 d9 d10 d11 d12 d13 d14
            have bX := BoxAt.new wu 66 #[.int .i64 0, .int .i64 0, .int .i64 0, .int .i64 0]
            have hsu := hbu.size
            have HbA2 := Lib.hid ((box_step HbA1.out hbu).alloc (.cells #[.int .i64 0, .int .i64 0, .int .i64 0, .int .i64 0] 66))
            have HbB2 := Lib.hid ((box_step HbB.out hbu).alloc (.cells #[.int .i64 0, .int .i64 0, .int .i64 0, .int .i64 0] 66))
            have HX2 := Lib.hid ((HX1.out.trans (hbu.mono HX1.out.size)).alloc (by have := HX1.out.size; omega) (.cells #[.int .i64 0, .int .i64 0, .int .i64 0, .int .i64 0] 66))
            have HO2 := Lib.hid ((HO1.out.kept (grown_of_below hbu) (Classical.em _)).alloc (.cells #[.int .i64 0, .int .i64 0, .int .i64 0, .int .i64 0] 66))
            obtain ⟨Bx, hBx⟩ : ∃ z, z = wu.heap.size := ⟨_, rfl⟩
            rw [← hBx] at bX ⊢
            have hxp : Bp ≠ Bx := by omega
            have hxq : Bq ≠ Bx := by omega
            have hx6 : w6.heap.size ≤ Bx := by have := HX1.out.size; omega
            have hxu : u.ownBlock = some Bx → False := fun e => by have := hvb _ e; omega
            clear hBx hbu hsu HO1 HX1 HbA1 HbB hvb hz lA lB
            generalize wu.alloc (.cells #[.int .i64 0, .int .i64 0, .int .i64 0, .int .i64 0] 66) = wx at *
            have lA := HbA2.out.lt
            have lB := HbB2.out.lt
            have lX := bX.lt
            obtain ⟨c0, c1', c2', c3, c4, c5, c6, c7, c8, c9, c10, c11, c12, c13, c14⟩ := cor_cells HbA2.out
            obtain ⟨d0, d1, d2, d3, d4, d5, d6, d7, d8, d9, d10, d11, d12, d13, d14⟩ := cor_cells HbB2.out
            have HbX := Lib.hid bX
            clear bX
            go_upto_region 14 with (go_at_call 83; (with_reducible refine (HC1.out _).mono ?_); rintro e wy ⟨rfl, hby⟩; have z0 : wy.cell? ⟨Bx, 0, none⟩ = some (.int .i64 0) := (box_step HbX.out hby).cell 0; have z1 : wy.cell? ⟨Bx, 1, none⟩ = some (.int .i64 0) := (box_step HbX.out hby).cell 1; have f0 : wy.frozen? ⟨Bx, 0, none⟩ = false := (box_step HbX.out hby).frozen 0; have f1 : wy.frozen? ⟨Bx, 1, none⟩ = false := (box_step HbX.out hby).frozen 1)
            have hsy := hby.size
            have HbX3 := Lib.hid (zero4 (box_step HbX.out hby) (A.cFrom B) (A.cTo B))
            have HbA3 := Lib.hid (box_other2' (box_step HbA2.out hby) hxp 0 1 (.int .i64 (A.cFrom B)) (.int .i64 (A.cTo B)))
            have HbB3 := Lib.hid (box_other2' (box_step HbB2.out hby) hxq 0 1 (.int .i64 (A.cFrom B)) (.int .i64 (A.cTo B)))
            have HX3 := Lib.hid (below_set2 (HX2.out.trans (hby.mono HX2.out.size)) hx6 0 1 (.int .i64 (A.cFrom B)) (.int .i64 (A.cTo B)))
            have HO3 := Lib.hid (owns_set2 (HO2.out.kept (grown_of_below hby) (Classical.em _)) hxu 0 1 (.int .i64 (A.cFrom B)) (.int .i64 (A.cTo B)))
            clear c0 c1' c2' c3 c4 c5 c6 c7 c8 c9 c10 c11 c12 c13 c14 d0 d1 d2 d3 d4 d5 d6 d7 d8 d9 d10 d11 d12 d13 d14 lA lB lX z0 z1 f0 f1 HbA2 HbB2 HbX HX2 HO2 hby hsy
            generalize (wy.setCell ⟨Bx, 0, none⟩ (.int .i64 (A.cFrom B))).setCell ⟨Bx, 1, none⟩ (.int .i64 (A.cTo B)) = wz at *
            have lA := HbA3.out.lt
            have lB := HbB3.out.lt
            have lX := HbX3.out.lt
            obtain ⟨c0, c1', c2', c3, c4, c5, c6, c7, c8, c9, c10, c11, c12, c13, c14⟩ := cor_cells HbA3.out
            obtain ⟨d0, d1, d2, d3, d4, d5, d6, d7, d8, d9, d10, d11, d12, d13, d14⟩ := cor_cells HbB3.out
            go_upto_region 15 with (go_at_call 83; (with_reducible refine (HC2.out _).mono ?_); rintro e wp ⟨rfl, hbp⟩; have z2 : wp.cell? ⟨Bx, 2, none⟩ = some (.int .i64 0) := (box_step HbX3.out hbp).cell 2; have z3 : wp.cell? ⟨Bx, 3, none⟩ = some (.int .i64 0) := (box_step HbX3.out hbp).cell 3; have f2 : wp.frozen? ⟨Bx, 2, none⟩ = false := (box_step HbX3.out hbp).frozen 2; have f3 : wp.frozen? ⟨Bx, 3, none⟩ = false := (box_step HbX3.out hbp).frozen 3)
            have hsp := hbp.size
            have HbX4 := Lib.hid (zero2 (box_step HbX3.out hbp) (B.cFrom A) (B.cTo A))
            have HbA4 := Lib.hid (box_other2' (box_step HbA3.out hbp) hxp 2 3 (.int .i64 (B.cFrom A)) (.int .i64 (B.cTo A)))
            have HX4 := Lib.hid (below_set2 (HX3.out.trans (hbp.mono HX3.out.size)) hx6 2 3 (.int .i64 (B.cFrom A)) (.int .i64 (B.cTo A)))
            have HO4 := Lib.hid (owns_set2 (HO3.out.kept (grown_of_below hbp) (Classical.em _)) hxu 2 3 (.int .i64 (B.cFrom A)) (.int .i64 (B.cTo A)))
            clear c0 c1' c2' c3 c4 c5 c6 c7 c8 c9 c10 c11 c12 c13 c14 d0 d1 d2 d3 d4 d5 d6 d7 d8 d9 d10 d11 d12 d13 d14 lA lB lX z2 z3 f2 f3 HbA3 HbB3 HbX3 HX3 HO3 hbp hsp
            generalize (wp.setCell ⟨Bx, 2, none⟩ (.int .i64 (B.cFrom A))).setCell ⟨Bx, 3, none⟩ (.int .i64 (B.cTo A)) = wq at *
            have y0 : wq.cell? ⟨Bx, 0, none⟩ = some (.int .i64 (A.cFrom B)) := HbX4.out.cell 0
            have y1 : wq.cell? ⟨Bx, 1, none⟩ = some (.int .i64 (A.cTo B)) := HbX4.out.cell 1
            have y2 : wq.cell? ⟨Bx, 2, none⟩ = some (.int .i64 (B.cFrom A)) := HbX4.out.cell 2
            have y3 : wq.cell? ⟨Bx, 3, none⟩ = some (.int .i64 (B.cTo A)) := HbX4.out.cell 3
            have lX := HbX4.out.lt
            have hws := HX4.out.size
            have hqs := qcells_snoc L (crossQ A B)
            have HQ : Hid (qcells L ++ [.int .i64 (A.cFrom B), .int .i64 (A.cTo B), .int .i64 (B.cFrom A), .int .i64 (B.cTo A)] = qcells (L ++ [crossQ A B])) := Lib.hid (by rw [hqs]; rfl)
            clear hqs
            generalize A.cFrom B = qa at *
            generalize A.cTo B = qb at *
            generalize B.cFrom A = qc at *
            generalize B.cTo A = qd at *
            go_wp2_with (at_builtin; refine wpList_append_lies _ rfl _ _ 55 rfl w6.heap.size 66 i0_ _ 4 32 Try.underlying55 hI0.out hZ0.out hZ1.out hZ2.out rfl (by decide) u L.length (qcells L) rfl (HO4.out.alloc _) ⟨wq.heap.size, 0, none⟩ 1 1 [.int .i64 qa, .int .i64 qb, .int .i64 qc, .int .i64 qd] rfl rfl (World.news_of_block (cs := #[.int .i64 qa, .int .i64 qb, .int .i64 qc, .int .i64 qd]) (t := 66) (fr := (0, 0)) (heap_alloc_new wq _)) (by simp [Value.oneCell']) (by decide) (by unfold maxLen; omega) (by omega) (by simp; omega) _ rfl ?_; intro gg cap1 w7 hown7 hgrow hat hlt7)
            rw [HQ.out] at hown7
            have HbA7 := Lib.hid ((HbA4.out.alloc (.cells #[.int .i64 qa, .int .i64 qb, .int .i64 qc, .int .i64 qd] 66)).grown hgrow (box_ne_row HbA4.out (by decide) HO4.out))
            have HX7 := Lib.hid ((HX4.out.alloc hws (.cells #[.int .i64 qa, .int .i64 qb, .int .i64 qc, .int .i64 qd] 66)).grown hgrow (by simp; omega) (fun g e => (HO4.out.lt _ e).1))
            go_roundw
            case rel => exact ⟨j + 1, _, by omega, rfl, by go_num, Lib.hid (by rw [HR.out, List.length_append]; exact hown7), HbA7, HX7⟩
            case measure => simp [intOf]; omega
        · obtain rfl : j = m := by omega
          have HR : Hid (outerL F G j (i + 1) = outerL F G j i ++ innerL A G j) := Lib.hid (by rw [HA.out]; rfl)
          go_wp2
          go_roundw
          case rel => exact ⟨i + 1, _, by omega, rfl, by go_num, Lib.hid (by rw [HR.out]; exact HO.out), HX⟩
          case measure => simp [intOf]; omega
    · obtain rfl : i = n := by omega
      have HB := Lib.hid (below_step HB6.out HX.out)
      go_wp2
      refine bodyPost_ret (v := v) (by simp [results, Try.results46, go_sem]) rfl ⟨v, rfl, ?_, HB.out⟩
      rw [HL.out]
      exact owns_mono HO.out HB6.out.size
end Go.Proofs.Ytglkpabcflecmaa
namespace Go.Proofs.Ytglkpabcflecmaa
open Go.RowKit Go.Shelf

/-- What Corridors answers. -/
noncomputable def crsF (c d : Crv) (ha hb : Int) : List Quad := open Classical in if chkF c = 0 ∧ chkF d = 0 ∧ (0 ≤ ha ∧ ha ≤ 4000) ∧ 0 ≤ hb ∧ hb ≤ 4000 then crossL c d ha hb else []

theorem half_dec (h : Int) (r : Bool) (hr : r = (decide (0 ≤ h) && decide (h ≤ 4000))) : r = true ↔ 0 ≤ h ∧ h ≤ 4000 := by
  rw [hr]; simp

set_option maxRecDepth 100000 in
set_option maxHeartbeats 8000000 in
theorem crs_bad (A1 A2 : Option Addr) (c1 c2 : Nat) (c d : Crv) (ha hb : Int) (w : World) (h1 : Spots w A1 c.n c.X c.Y) (h2 : Spots w A2 d.n d.X d.Y) (hne : ¬ (chkF c = 0 ∧ chkF d = 0 ∧ (0 ≤ ha ∧ ha ≤ 4000) ∧ 0 ≤ hb ∧ hb ≤ 4000)) :
    Calls Try.prog 46 #[.agg #[.slice A1 c.n c1], .int .i64 ha, .agg #[.slice A2 d.n c2], .int .i64 hb] w fun e w' => e = .returned (.slice none 0 0) ∧ Below w.heap.size w w' := by
  obtain ⟨x1, x2, hB⟩ := crs_boxes w (.slice A1 c.n c1) (.slice A2 d.n c2)
  obtain ⟨k, hk⟩ : ∃ k, k = chkF c := ⟨_, rfl⟩
  obtain ⟨l, hl⟩ : ∃ k, k = chkF d := ⟨_, rfl⟩
  obtain ⟨ra, hra⟩ : ∃ r, r = (decide (0 ≤ ha) && decide (ha ≤ 4000)) := ⟨_, rfl⟩
  obtain ⟨rb, hrb⟩ : ∃ r, r = (decide (0 ≤ hb) && decide (hb ≤ 4000)) := ⟨_, rfl⟩
  have K1 := Lib.hid (check_any A1 c1 c _ (h1.below hB))
  have K2 := Lib.hid (fun W (hW : Below w.heap.size w W) => check_any A2 c2 d W (h2.below hW))
  have K5 := Lib.hid (fun W => validHalf_any ha W)
  have K6 := Lib.hid (fun W => validHalf_any hb W)
  rw [← hra] at K5
  rw [← hrb] at K6
  rw [← hk] at K1 hne
  rw [← hl] at K2 hne
  rw [← half_dec ha ra hra, ← half_dec hb rb hrb] at hne
  clear hra hrb hk hl h1 h2
  obtain ⟨w0, hw0⟩ : ∃ x, x = (w.alloc (.cells #[.slice A1 c.n c1] 24)).alloc (.cells #[.slice A2 d.n c2] 24) := ⟨_, rfl⟩
  rw [← hw0] at x1 x2 hB K1
  have HW0 := Lib.hid hw0
  clear hw0
  have e1 : w0.cell? ⟨w.heap.size, 0, none⟩ = some (.slice A1 c.n c1) := x1.cell 0
  have HW : Hid (∀ W, Below w0.heap.size w0 W → W.cell? ⟨w.heap.size + 1, 0, none⟩ = some (.slice A2 d.n c2)) := Lib.hid (fun W hW => (box_step x2 hW).cell 0)
  clear x1 x2
  by_cases hz : k = 0
  · subst hz
    by_cases hy : l = 0
    · subst hy
      cases ra with
      | false =>
        clear hne
        go_enter Try.func46, Try.ntmps46
        go_upto_region 1 with fail
        rw [← HW0.out]
        go_wp2_with (first
          | (go_at_call 20; (with_reducible refine K1.out.mono ?_); rintro e w1 ⟨rfl, hb1⟩; have hB1 := below_step hB hb1; have e2 := HW.out _ hb1)
          | (go_at_call 20; (with_reducible refine (K2.out _ hB1).mono ?_); rintro e w2 ⟨rfl, hb2⟩; have hB2 := below_step hB1 hb2)
          | (go_at_call 76; (with_reducible refine (K5.out _).mono ?_); rintro e w3 ⟨rfl, hb3⟩; have hB3 := below_step hB2 hb3))
        go_ret
        exact ⟨rfl, hB3⟩
      | true =>
        have hrb : rb = false := by
          cases rb with
          | false => rfl
          | true => exact absurd ⟨rfl, rfl, rfl, rfl⟩ hne
        subst hrb
        clear hne
        go_enter Try.func46, Try.ntmps46
        go_upto_region 1 with fail
        rw [← HW0.out]
        go_wp2_with (first
          | (go_at_call 20; (with_reducible refine K1.out.mono ?_); rintro e w1 ⟨rfl, hb1⟩; have hB1 := below_step hB hb1; have e2 := HW.out _ hb1)
          | (go_at_call 20; (with_reducible refine (K2.out _ hB1).mono ?_); rintro e w2 ⟨rfl, hb2⟩; have hB2 := below_step hB1 hb2)
          | (go_at_call 76; (with_reducible refine (K5.out _).mono ?_); rintro e w3 ⟨rfl, hb3⟩; have hB3 := below_step hB2 hb3)
          | (go_at_call 76; (with_reducible refine (K6.out _).mono ?_); rintro e w4 ⟨rfl, hb4⟩; have hB4 := below_step hB3 hb4))
        go_ret
        exact ⟨rfl, hB4⟩
    · have hrb : (l == 0) = false := by simp [hy]
      have hrn : (l != 0) = true := by simp [hy]
      clear hne hy
      go_enter Try.func46, Try.ntmps46
      go_upto_region 1 with fail
      rw [← HW0.out]
      go_wp2_with (first
        | (go_at_call 20; (with_reducible refine K1.out.mono ?_); rintro e w1 ⟨rfl, hb1⟩; have hB1 := below_step hB hb1; have e2 := HW.out _ hb1)
        | (go_at_call 20; (with_reducible refine (K2.out _ hB1).mono ?_); rintro e w2 ⟨rfl, hb2⟩; have hB2 := below_step hB1 hb2))
      go_ret
      exact ⟨rfl, hB2⟩
  · have hrb : (k == 0) = false := by simp [hz]
    have hrn : (k != 0) = true := by simp [hz]
    clear hne hz
    go_enter Try.func46, Try.ntmps46
    go_upto_region 1 with fail
    rw [← HW0.out]
    go_wp2_with (first
      | (go_at_call 20; (with_reducible refine K1.out.mono ?_); rintro e w1 ⟨rfl, hb1⟩; have hB1 := below_step hB hb1; have e2 := HW.out _ hb1))
    go_ret
    exact ⟨rfl, hB1⟩

/-- **Corridors, of any two curves and half widths.** -/
theorem crs_any (A1 A2 : Option Addr) (c1 c2 : Nat) (c d : Crv) (ha hb : Int) (w : World) (h1 : Spots w A1 c.n c.X c.Y) (h2 : Spots w A2 d.n d.X d.Y) :
    Calls Try.prog 46 #[.agg #[.slice A1 c.n c1], .int .i64 ha, .agg #[.slice A2 d.n c2], .int .i64 hb] w (CrsPost (crsF c d ha hb) w) := by
  unfold crsF
  by_cases hc : chkF c = 0 ∧ chkF d = 0 ∧ (0 ≤ ha ∧ ha ≤ 4000) ∧ 0 ≤ hb ∧ hb ≤ 4000
  · rw [if_pos hc]
    have hg := good_of hc.1
    have hd := good_of hc.2.1
    obtain ⟨b1, o1, rfl, p1⟩ := h1 (by have := hg.lo; omega)
    obtain ⟨b2, o2, rfl, p2⟩ := h2 (by have := hd.lo; omega)
    exact crs_good b1 o1 c1 b2 o2 c2 c d hg hd ha hb hc.2.2.1.1 hc.2.2.1.2 hc.2.2.2.1 hc.2.2.2.2 w p1 p2
  · rw [if_neg hc]
    refine (crs_bad A1 A2 c1 c2 c d ha hb w h1 h2 hc).mono ?_
    rintro e w' ⟨rfl, hb⟩
    exact ⟨_, rfl, World.ownsRow_nil _ _ _ _, hb⟩
end Go.Proofs.Ytglkpabcflecmaa
