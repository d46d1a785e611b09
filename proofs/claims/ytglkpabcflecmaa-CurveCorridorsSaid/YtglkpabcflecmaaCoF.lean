/- The reference's 'stripes' and Corridors. -/
import Derived.Test.YtglkpabcflecmaaCoE
import Derived.Test.YtglkpabcflecmaaCoC
import Derived.Test.YtglkpabcflecmaaKCur
import Derived.Test.YtglkpabcflecmaaCks
import Derived.Test.YtglkpabcflecmaaCoD
namespace Go.Proofs.Ytglkpabcflecmaa
open Go.RowKit Go.Shelf

theorem Try.info109 : (Try.prog.info? 109).map (fun i => (i.zero, i.size, i.bytes)) = some (some (.agg #[.int .i64 0, .int .i64 0, .int .i64 0, .int .i64 0, .int .i64 0, .int .i64 0, .int .i64 0, .int .i64 0]), 8, 64) := by kernel_rfl

/-- Rows of 8 cells. -/
def rows8 (F : Nat → Cor) : Nat → List Value
  | 0 => []
  | n + 1 => rows8 F n ++ (strC (F n)).toList
theorem rows8_len (F : Nat → Cor) (n : Nat) : (rows8 F n).length = n * 8 := by
  induction n with
  | zero => rfl
  | succ n ih => unfold rows8; rw [List.length_append, ih]; simp; omega
theorem rows8_get (F : Nat → Cor) {n i j : Nat} (hi : i < n) (hj : j < 8) : (rows8 F n)[i * 8 + j]? = (strC (F i))[j]? := by
  induction n with
  | zero => omega
  | succ n ih =>
    unfold rows8
    by_cases h : i < n
    · rw [List.getElem?_append_left (by rw [rows8_len]; omega)]
      exact ih h
    · obtain rfl : i = n := by omega
      rw [List.getElem?_append_right (by rw [rows8_len]; omega), rows8_len, show i * 8 + j - i * 8 = j by omega]
      exact Array.getElem?_toList
def StrAt (W : World) (g n : Nat) (F : Nat → Cor) : Prop := ∀ i, i < n → ∀ j, j < 8 → W.cell? ⟨g, i * 8 + j, none⟩ = (strC (F i))[j]?
theorem str_of_own {W : World} {base g n cap : Nat} {F : Nat → Cor} (h : W.ownsRow base 109 8 (.slice (some ⟨g, 0, none⟩) n cap) n (rows8 F n)) : StrAt W g n F := by
  intro i hi j hj
  obtain ⟨_, h2⟩ := h
  rcases h2 with ⟨h2, _⟩ | ⟨g', cap', cur, he, _, hc, _, _, _, ht⟩
  · cases h2
  · cases he
    rw [World.cell?, hc]
    have := rows8_get F hi hj
    rw [← ht, List.getElem?_take, if_pos (by omega)] at this
    rw [← this]
    simp
theorem StrAt.below {W W' : World} {g n : Nat} {F : Nat → Cor} (h : StrAt W g n F) {B : Nat} (hb : Below B W W') (hg : g < B) : StrAt W' g n F := fun i hi j hj => (World.cell?_of_block (hb.block g hg)).trans (h i hi j hj)
theorem straight {W : World} {g n : Nat} {F : Nat → Cor} (h : StrAt W g n F) {i : Nat} (hi : i < n) : W.cell? ⟨g, i * 8, none⟩ = some (.int .i64 (F i).x) ∧ W.cell? ⟨g, i * 8 + 1, none⟩ = some (.int .i64 (F i).y) ∧ W.cell? ⟨g, i * 8 + 2, none⟩ = some (.int .i64 (F i).p) ∧ W.cell? ⟨g, i * 8 + 3, none⟩ = some (.int .i64 (F i).q) ∧ W.cell? ⟨g, i * 8 + 4, none⟩ = some (.int .i64 (F i).l) ∧ W.cell? ⟨g, i * 8 + 5, none⟩ = some (.int .i64 (F i).h) ∧ W.cell? ⟨g, i * 8 + 6, none⟩ = some (.int .i64 (F i).a) ∧ W.cell? ⟨g, i * 8 + 7, none⟩ = some (.int .i64 (F i).b) :=
  ⟨h i hi 0 (by omega), h i hi 1 (by omega), h i hi 2 (by omega), h i hi 3 (by omega), h i hi 4 (by omega), h i hi 5 (by omega), h i hi 6 (by omega), h i hi 7 (by omega)⟩

def StrPost (F : Nat → Cor) (k : Nat) (w : World) (e : Ending) (w' : World) : Prop := ∃ R cap, e = .returned (.slice R k cap) ∧ (0 < k → ∃ g, R = some ⟨g, 0, none⟩ ∧ StrAt w' g k F ∧ g < w'.heap.size) ∧ Below w.heap.size w w'

set_option maxRecDepth 100000 in
set_option maxHeartbeats 8000000 in
theorem stripes_bad (A : Option Addr) (cap : Nat) (c : Crv) (h : Int) (w : World) (hs : Spots w A c.n c.X c.Y) (hne : chkF c ≠ 0) :
    Calls Try.prog 84 #[.agg #[.slice A c.n cap], .int .i64 h] w fun e w' => e = .returned (.slice none 0 0) ∧ Below w.heap.size w w' := by
  have hB : Below w.heap.size w (w.alloc (.cells #[.slice A c.n cap] 24)) := (Below.refl _ w).alloc (Nat.le_refl _) _
  have HC := Lib.hid (rpieces_bad A cap c _ (hs.below hB) hne)
  clear hs hne
  go_enter Try.func84, Try.ntmps84
  go_wp2_with (go_at_call 26; (with_reducible refine HC.out.mono ?_); rintro e w1 ⟨rfl, hb1⟩; have hB1 := below_step hB hb1)
  go_loopw [5, 7] (fun o i wr => o = .slice none 0 0 ∧ i = .int .i64 0 ∧ Hid (Below w.heap.size w wr)) (fun _ _ _ => 0)
  case atStart => exact ⟨rfl, rfl, Lib.hid hB1⟩
  case round =>
    obtain ⟨rfl, rfl, HX⟩ := hrel
    go_wp2
    go_ret
    exact ⟨rfl, HX.out⟩

set_option maxRecDepth 100000 in
set_option maxHeartbeats 8000000 in
theorem stripes_good (b off cap : Nat) (c : Crv) (hg : Good c) (h : Int) (w : World) (hp : Pts w b off c.n c.X c.Y) :
    Calls Try.prog 84 #[cv b off c.n cap, .int .i64 h] w (StrPost (corAt c h) (c.n - 1) w) := by
  obtain ⟨i0_, hi0, hz0, hz1, hz2⟩ := info_parts Try.info109
  have hI0 := Lib.hid hi0
  have hZ0 := Lib.hid hz0
  have hZ1 := Lib.hid hz1
  have hZ2 := Lib.hid hz2
  clear hi0 hz0 hz1 hz2
  obtain ⟨hn, hn', hok, _⟩ := id hg
  have hb := hp.lt (by omega)
  have hB : Below w.heap.size w (w.alloc (.cells #[.slice (some ⟨b, off, none⟩) c.n cap] 24)) := (Below.refl _ w).alloc (Nat.le_refl _) _
  have hBB : BoxAt (w.alloc (.cells #[.slice (some ⟨b, off, none⟩) c.n cap] 24)) w.heap.size 24 #[.slice (some ⟨b, off, none⟩) c.n cap] := BoxAt.new _ _ _
  have HC := Lib.hid (rpieces_good b off cap c hg _ (hp.below hB hb))
  have HOK := Lib.hid hok
  have HP := Lib.hid hp
  clear hok hp hg
  go_enter Try.func84, Try.ntmps84
  go_wp2_with (go_at_call 26; (with_reducible refine HC.out.mono ?_); rintro e w1 ⟨g, capL, rfl, hL, hb1⟩; have hB1 := below_step hB hb1; have hBB1 := box_step hBB hb1)
  have hLg : g < w1.heap.size := World.block_lt_of_cell? w1 _ (hL 0 (by omega))
  have hlb := hBB1.lt
  have hb1' : b < w1.heap.size := by have := hB1.size; omega
  have HW : Hid (∀ W, Below w1.heap.size w1 W → W.cell? ⟨w.heap.size, 0, none⟩ = some (.slice (some ⟨b, off, none⟩) c.n cap) ∧ (∀ i, i < c.n → W.cell? ⟨b, off + i * 2, none⟩ = some (.int .i64 (c.X i)) ∧ W.cell? ⟨b, off + i * 2 + 1, none⟩ = some (.int .i64 (c.Y i))) ∧ ∀ i, i < c.n - 1 → W.cell? ⟨g, i, none⟩ = some (.int .i64 (c.len i))) := Lib.hid (fun W hW => ⟨(box_step hBB1 hW).cell 0, fun i hi => ((HP.out.below hB1 hb).below hW hb1') i hi, fun i hi => (hL.below hW) i hi⟩)
  have HB1 := Lib.hid hB1
  clear HC hB hBB hBB1 hB1 hL hb1 HP
  have I : ∃ (k : Nat) (v : Value), k ≤ c.n - 1 ∧ v = (Value.slice none 0 0) ∧ (Value.int .i64 0) = .int .i64 k ∧ Hid (w1.ownsRow w1.heap.size 109 8 v k (rows8 (corAt c h) k)) ∧ Hid (Below w1.heap.size w1 w1) := ⟨0, _, by omega, rfl, rfl, Lib.hid (World.ownsRow_nil _ _ _ _), Lib.hid (Below.refl _ _)⟩
  go_loopw [5, 7] (fun o i wr => ∃ (k : Nat) (v : Value), k ≤ c.n - 1 ∧ v = o ∧ i = .int .i64 k ∧ Hid (wr.ownsRow w1.heap.size 109 8 v k (rows8 (corAt c h) k)) ∧ Hid (Below w1.heap.size w1 wr)) (fun _ i _ => c.n - (intOf i).toNat)
  case atStart => exact I
  case round =>
    clear I
    obtain ⟨wr, rfl⟩ : ∃ x : World, x = wr := ⟨_, rfl⟩
    obtain ⟨k, v, hk, rfl, rfl, HO, HX⟩ := hrel
    obtain ⟨hBx0, hXY, hLn⟩ := HW.out _ HX.out
    by_cases hlt2 : k < c.n - 1
    · obtain ⟨hx0, hy0⟩ := hXY k (by omega)
      obtain ⟨hx1, hy1⟩ := hXY (k + 1) (by omega)
      have hl0 := hLn k hlt2
      have ox0 := HOK.out k (by omega)
      have ox1 := HOK.out (k + 1) (by omega)
      have i0 : (0 : Int) ≤ (k : Int) := Int.natCast_nonneg _
      have i1 : (k : Int) < (c.n : Int) := by omega
      have i2 : (0 : Int) ≤ (k : Int) + 1 := by omega
      have i3 : (k : Int) + 1 < (c.n : Int) := by omega
      have i6 : (k : Int) < ((c.n - 1 : Nat) : Int) := by omega
      have i4 : IntKind.i64.wrap ((k : Int) + 1) = (k : Int) + 1 := IntWalk.i64_in _ (by omega)
      have i5 : ((k : Int) + 1).toNat = k + 1 := by omega
      have hsz := HX.out.size
      have lb : b < wr.heap.size := by omega
      have lg : g < wr.heap.size := by omega
      have lB : w.heap.size < wr.heap.size := by omega
      have HM := Lib.hid (fun W => rminus_any (c.X (k + 1)) (c.Y (k + 1)) (c.X k) (c.Y k) W ox1.1 ox1.2 ox0.1 ox0.2)
      have HR : Hid (rows8 (corAt c h) (k + 1) = rows8 (corAt c h) k ++ [.int .i64 (c.X k), .int .i64 (c.Y k), .int .i64 (c.X (k + 1) - c.X k), .int .i64 (c.Y (k + 1) - c.Y k), .int .i64 (c.len k), .int .i64 h, .int .i64 0, .int .i64 (c.len k)]) := Lib.hid rfl
      have HK : Hid (∀ W, Below w1.heap.size w1 W → W.cell? ⟨w.heap.size, 0, none⟩ = some (.slice (some ⟨b, off, none⟩) c.n cap) ∧ W.cell? ⟨b, off + k * 2, none⟩ = some (.int .i64 (c.X k)) ∧ W.cell? ⟨b, off + k * 2 + 1, none⟩ = some (.int .i64 (c.Y k)) ∧ W.cell? ⟨b, off + (k + 1) * 2, none⟩ = some (.int .i64 (c.X (k + 1))) ∧ W.cell? ⟨b, off + (k + 1) * 2 + 1, none⟩ = some (.int .i64 (c.Y (k + 1))) ∧ W.cell? ⟨g, k, none⟩ = some (.int .i64 (c.len k))) := Lib.hid (fun W hW => by
        obtain ⟨q0, q1, q2⟩ := HW.out W hW
        exact ⟨q0, (q1 k (by omega)).1, (q1 k (by omega)).2, (q1 (k + 1) (by omega)).1, (q1 (k + 1) (by omega)).2, q2 k hlt2⟩)
      clear hXY hLn ox0 ox1
      generalize c.X (k + 1) - c.X k = vx at *
      generalize c.Y (k + 1) - c.Y k = vy at *
      generalize c.X k = x0 at *
      generalize c.Y k = y0 at *
      generalize c.X (k + 1) = x1 at *
      generalize c.Y (k + 1) = y1 at *
      generalize c.len k = ln at *
      have hBx : Below wr.heap.size wr wr.drew := (Below.refl _ _).drew
      go_upto_region 6 with fail
      go_region_held3 (fun w' => w'.cell? ⟨w.heap.size, 0, none⟩ = some (.slice (some ⟨b, off, none⟩) c.n cap) ∧ w'.cell? ⟨b, off + k * 2, none⟩ = some (.int .i64 x0) ∧ w'.cell? ⟨b, off + k * 2 + 1, none⟩ = some (.int .i64 y0) ∧ w'.cell? ⟨b, off + (k + 1) * 2, none⟩ = some (.int .i64 x1) ∧ w'.cell? ⟨b, off + (k + 1) * 2 + 1, none⟩ = some (.int .i64 y1) ∧ w'.cell? ⟨g, k, none⟩ = some (.int .i64 ln))
        (first | exact HK.out _ (HX.out.trans (hBx.mono hsz)) | go_keep | exact HK.out _ hBd)
        (first
          | (go_at_call 48; (with_reducible refine (HM.out _).mono ?_); rintro e w7 ⟨rfl, hb7⟩; replace hBx := below_step hBx hb7)
          | (refine step_append_lies _ rfl _ _ 105 rfl w1.heap.size 109 i0_ _ 8 64 Try.underlying105 hI0.out hZ0.out hZ1.out hZ2.out rfl (by decide) v k (rows8 (corAt c h) k) rfl ((HO.out.kept (grown_of_below hBx) (Classical.em _)).alloc _) ⟨w7.heap.size, 0, none⟩ 1 1 [.int .i64 x0, .int .i64 y0, .int .i64 vx, .int .i64 vy, .int .i64 ln, .int .i64 h, .int .i64 0, .int .i64 ln] rfl rfl (World.news_of_block (cs := #[.int .i64 x0, .int .i64 y0, .int .i64 vx, .int .i64 vy, .int .i64 ln, .int .i64 h, .int .i64 0, .int .i64 ln]) (t := 109) (fr := (0, 0)) (heap_alloc_new w7 _)) (by simp [Value.oneCell']) (by decide) (by unfold maxLen; omega) (by omega) (by have := hBx.size; simp; omega) _ rfl ?_; intro gg cap1 w8 hown8 hgrow hat hlt8; have hBd := ((HX.out.trans (hBx.mono hsz)).alloc (by have := hBx.size; omega) (.cells #[.int .i64 x0, .int .i64 y0, .int .i64 vx, .int .i64 vy, .int .i64 ln, .int .i64 h, .int .i64 0, .int .i64 ln] 109)).grown hgrow (by have := hBx.size; simp; omega) (fun g e => (HO.out.lt _ e).1)))
      rw [← HR.out] at hown8
      have HO8 := Lib.hid hown8
      have HX8 := Lib.hid hBd
      clear hown8 hBd hgrow hat hBx hb7
      go_wp2
      go_roundw
      case rel => exact ⟨k + 1, _, by omega, rfl, by go_num, HO8, HX8⟩
      case measure => simp [intOf]; omega
    · obtain rfl : k = c.n - 1 := by omega
      have HB2 := Lib.hid (below_step HB1.out HX.out)
      have HO2 := Lib.hid HO.out
      obtain ⟨gg, cap', rfl, hg1, hg2⟩ := HO.out.form (by omega)
      have hl := (HO2.out.lt gg rfl).2
      clear HO hg1 hg2
      go_wp2
      refine bodyPost_ret (v := .slice (some ⟨gg, 0, none⟩) (c.n - 1 : Nat) cap') (by simp [results, Try.results84, go_sem]) rfl ⟨_, cap', rfl, fun _ => ⟨gg, rfl, str_of_own HO2.out, hl⟩, HB2.out⟩

/-- **stripes, of any curve.** -/
theorem stripes_any (A : Option Addr) (cap : Nat) (c : Crv) (h : Int) (w : World) (hs : Spots w A c.n c.X c.Y) :
    Calls Try.prog 84 #[.agg #[.slice A c.n cap], .int .i64 h] w (StrPost (corAt c h) (pcN c) w) := by
  unfold pcN
  by_cases hz : chkF c = 0
  · rw [if_pos hz]
    have hg := good_of hz
    obtain ⟨b, off, rfl, hp⟩ := hs (by have := hg.lo; omega)
    exact stripes_good b off cap c hg h w hp
  · rw [if_neg hz]
    refine (stripes_bad A cap c h w hs hz).mono ?_
    rintro e w' ⟨rfl, hb⟩
    exact ⟨none, 0, rfl, fun h => absurd h (by omega), hb⟩
end Go.Proofs.Ytglkpabcflecmaa
namespace Go.Proofs.Ytglkpabcflecmaa
open Go.RowKit Go.Shelf

set_option maxRecDepth 100000 in
set_option maxHeartbeats 8000000 in
theorem rcrs_loop (n m : Nat) (F G : Nat → Cor) (sF sG : Nat → Int) (n15 : n ≤ 15) (m15 : m ≤ 15)
    (HF : Hid (∀ i, i < n → (F i).Ok ∧ (F i).s = sF i ∧ sF (i + 1) = sF i + (F i).l)) (HG : Hid (∀ i, i < m → (G i).Ok ∧ (G i).s = sG i ∧ sG (i + 1) = sG i + (G i).l))
    (HFb : Hid (sF 0 = 0 ∧ ∀ i, i ≤ n → 0 ≤ sF i ∧ sF i ≤ 100000000000000)) (HGb : Hid (sG 0 = 0 ∧ ∀ i, i ≤ m → 0 ≤ sG i ∧ sG i ≤ 100000000000000))
    (v1 v2 : Value) (ha hb : Int) (a0 : 0 ≤ ha) (a1 : ha ≤ 4000) (g0 : 0 ≤ hb) (g1 : hb ≤ 4000) (w : World)
    (H1 : Hid (∀ W, Below w.heap.size w W → Calls Try.prog 84 #[.agg #[v1], .int .i64 ha] W (StrPost F n W)))
    (H2 : Hid (∀ W, Below w.heap.size w W → Calls Try.prog 84 #[.agg #[v2], .int .i64 hb] W (StrPost G m W))) :
    Calls Try.prog 47 #[.agg #[v1], .int .i64 ha, .agg #[v2], .int .i64 hb] w (CrsPost (outerL F G m n) w) := by
  obtain ⟨i0_, hi0, hz0, hz1, hz2⟩ := info_parts Try.info66
  have hI0 := Lib.hid hi0
  have hZ0 := Lib.hid hz0
  have hZ1 := Lib.hid hz1
  have hZ2 := Lib.hid hz2
  clear hi0 hz0 hz1 hz2
  obtain ⟨x1, x2, hB⟩ := crs_boxes w v1 v2
  obtain ⟨w0, hw0⟩ : ∃ x, x = (w.alloc (.cells #[v1] 24)).alloc (.cells #[v2] 24) := ⟨_, rfl⟩
  rw [← hw0] at x1 x2 hB
  have HW0 := Lib.hid hw0
  clear hw0
  have HW : Hid (∀ W, Below w0.heap.size w0 W → W.cell? ⟨w.heap.size, 0, none⟩ = some v1 ∧ W.cell? ⟨w.heap.size + 1, 0, none⟩ = some v2) := Lib.hid (fun W hW => ⟨(box_step x1 hW).cell 0, (box_step x2 hW).cell 0⟩)
  have e1 : w0.cell? ⟨w.heap.size, 0, none⟩ = some v1 := x1.cell 0
  have e2 : w0.cell? ⟨w.heap.size + 1, 0, none⟩ = some v2 := x2.cell 0
  have l1 := x1.lt
  have l2 := x2.lt
  have HB := Lib.hid hB
  have hBx : Below w0.heap.size w0 w0.drew := (Below.refl _ _).drew
  clear x1 x2 hB
  go_enter Try.func47, Try.ntmps47
  go_upto_region 1 with fail
  rw [← HW0.out]
  go_upto_region 4 with fail
  go_region_held3 (fun w' => w'.cell? ⟨w.heap.size, 0, none⟩ = some v1 ∧ w'.cell? ⟨w.heap.size + 1, 0, none⟩ = some v2)
    (first | exact HW.out _ hBx | go_keep)
    (first
      | (go_at_call 84; (with_reducible refine (H1.out _ (below_step HB.out hBx)).mono ?_); rintro e wa ⟨R1, cap1, rfl, hR1, hba⟩; replace hBx := below_step hBx hba)
      | (go_at_call 84; (with_reducible refine (H2.out _ (below_step HB.out hBx)).mono ?_); rintro e wb ⟨R2, cap2, rfl, hR2, hbb⟩; replace hBx := below_step hBx hbb))
  have hab := hba.size
  have HN : Hid (∀ W, Below wb.heap.size wb W → (0 < n → ∃ g, R1 = some ⟨g, 0, none⟩ ∧ StrAt W g n F ∧ g < wb.heap.size) ∧ (0 < m → ∃ g, R2 = some ⟨g, 0, none⟩ ∧ StrAt W g m G ∧ g < wb.heap.size)) := Lib.hid (fun W hW => ⟨fun h => by
    obtain ⟨g, h1, h2, h3⟩ := hR1 h
    exact ⟨g, h1, (h2.below hbb h3).below hW (by have := hbb.size; omega), by have := hbb.size; omega⟩, fun h => by
    obtain ⟨g, h1, h2, h3⟩ := hR2 h
    exact ⟨g, h1, h2.below hW h3, h3⟩⟩)
  have HBb := Lib.hid (below_step HB.out hBx)
  clear hab hR1 hR2 hba hbb hBx e1 e2 l1 l2 HW HW0 H1 H2 HB
  go_wp2
  have I : ∃ (i : Nat) (v : Value), i ≤ n ∧ v = (Value.slice none 0 0) ∧ (Value.int .i64 0) = .int .i64 (sF i) ∧ (Value.int .i64 0) = .int .i64 i ∧ Hid (wb.ownsRow wb.heap.size 66 4 v (outerL F G m i).length (qcells (outerL F G m i))) ∧ Hid (Below wb.heap.size wb wb) := ⟨0, _, by omega, rfl, by rw [HFb.out.1], rfl, Lib.hid (World.ownsRow_nil _ _ _ _), Lib.hid (Below.refl _ _)⟩
  go_loopw [9, 12, 13] (fun vv sv iv wr => ∃ (i : Nat) (v : Value), i ≤ n ∧ v = vv ∧ sv = .int .i64 (sF i) ∧ iv = .int .i64 i ∧ Hid (wr.ownsRow wb.heap.size 66 4 v (outerL F G m i).length (qcells (outerL F G m i))) ∧ Hid (Below wb.heap.size wb wr)) (fun _ _ iv _ => n + 1 - (intOf iv).toNat)
  case atStart => exact I
  case round =>
    clear I
    obtain ⟨wi, rfl⟩ : ∃ x : World, x = wr := ⟨_, rfl⟩
    obtain ⟨i, v, hi, rfl, rfl, rfl, HO, HX⟩ := hrel
    by_cases hi2 : i < n
    · have i1 : (i : Int) < (n : Int) := by omega
      have iz : (0 : Int) ≤ (i : Int) := by omega
      obtain ⟨okA, sA, sA2⟩ := HF.out i hi2
      obtain ⟨sA0, sA1⟩ := HFb.out.2 i hi
      obtain ⟨sA3, sA4⟩ := HFb.out.2 (i + 1) (by omega)
      obtain ⟨gF, hgF, _, lgF⟩ := (HN.out _ (Below.refl _ _)).1 (by omega)
      subst hgF
      have HNF : Hid (∀ W, Below wb.heap.size wb W → StrAt W gF n F) := Lib.hid (fun W hW => by
        obtain ⟨g, h1, h2, _⟩ := (HN.out W hW).1 (by omega)
        cases h1
        exact h2)
      obtain ⟨A, hA⟩ : ∃ A, A = F i := ⟨_, rfl⟩
      rw [← hA] at okA sA sA2
      have HA := Lib.hid hA
      have OKA := Lib.hid okA
      have HSA := Lib.hid sA
      have HSA2 := Lib.hid sA2
      rw [sA2] at sA3 sA4
      clear hA okA sA sA2
      generalize sF i = stA at *
      go_upto_region 11 with fail
      have I : ∃ (j : Nat) (u : Value), j ≤ m ∧ u = v ∧ (Value.int .i64 0) = .int .i64 (sG j) ∧ (Value.int .i64 0) = .int .i64 j ∧ Hid (wi.ownsRow wb.heap.size 66 4 u (outerL F G m i ++ innerL A G j).length (qcells (outerL F G m i ++ innerL A G j))) ∧ Hid (Below wb.heap.size wb wi) := ⟨0, _, by omega, rfl, by rw [HGb.out.1], rfl, by unfold innerL; rw [List.append_nil]; exact HO, HX⟩
      go_loopw [9, 14, 15] (fun uu sv jv ws => ∃ (j : Nat) (u : Value), j ≤ m ∧ u = uu ∧ sv = .int .i64 (sG j) ∧ jv = .int .i64 j ∧ Hid (ws.ownsRow wb.heap.size 66 4 u (outerL F G m i ++ innerL A G j).length (qcells (outerL F G m i ++ innerL A G j))) ∧ Hid (Below wb.heap.size wb ws)) (fun _ _ jv _ => m + 1 - (intOf jv).toNat)
      case atStart => exact I
      case round =>
        clear I HO HX
        obtain ⟨ws, rfl⟩ : ∃ x : World, x = wr := ⟨_, rfl⟩
        obtain ⟨j, u, hj, rfl, rfl, rfl, HO, HX⟩ := hrel
        by_cases hj2 : j < m
        · have j1 : (j : Int) < (m : Int) := by omega
          have jz : (0 : Int) ≤ (j : Int) := by omega
          obtain ⟨okB, sB, sB2⟩ := HG.out j hj2
          obtain ⟨sB0, sB1⟩ := HGb.out.2 j hj
          obtain ⟨sB3, sB4⟩ := HGb.out.2 (j + 1) (by omega)
          obtain ⟨gG, hgG, _, lgG⟩ := (HN.out _ (Below.refl _ _)).2 (by omega)
          subst hgG
          have hlen : (outerL F G m i ++ innerL A G j).length ≤ 225 := by
            have := outerL_len F G m i
            have := innerL_len A G j
            have := Nat.mul_le_mul (show i ≤ 14 by omega) m15
            rw [List.length_append]
            omega
          obtain ⟨B, hBj⟩ : ∃ B, B = G j := ⟨_, rfl⟩
          rw [← hBj] at okB sB sB2
          have hnext : innerL A G (j + 1) = innerL A G j ++ crossOf A B := by rw [hBj]; rfl
          have HK : Hid (∀ W, Below wb.heap.size wb W → W.cell? ⟨gF, i * 8, none⟩ = some (.int .i64 A.x) ∧ W.cell? ⟨gF, i * 8 + 1, none⟩ = some (.int .i64 A.y) ∧ W.cell? ⟨gF, i * 8 + 2, none⟩ = some (.int .i64 A.p) ∧ W.cell? ⟨gF, i * 8 + 3, none⟩ = some (.int .i64 A.q) ∧ W.cell? ⟨gF, i * 8 + 4, none⟩ = some (.int .i64 A.l) ∧ W.cell? ⟨gF, i * 8 + 5, none⟩ = some (.int .i64 A.h) ∧ W.cell? ⟨gF, i * 8 + 6, none⟩ = some (.int .i64 A.a) ∧ W.cell? ⟨gF, i * 8 + 7, none⟩ = some (.int .i64 A.b) ∧ W.cell? ⟨gG, j * 8, none⟩ = some (.int .i64 B.x) ∧ W.cell? ⟨gG, j * 8 + 1, none⟩ = some (.int .i64 B.y) ∧ W.cell? ⟨gG, j * 8 + 2, none⟩ = some (.int .i64 B.p) ∧ W.cell? ⟨gG, j * 8 + 3, none⟩ = some (.int .i64 B.q) ∧ W.cell? ⟨gG, j * 8 + 4, none⟩ = some (.int .i64 B.l) ∧ W.cell? ⟨gG, j * 8 + 5, none⟩ = some (.int .i64 B.h) ∧ W.cell? ⟨gG, j * 8 + 6, none⟩ = some (.int .i64 B.a) ∧ W.cell? ⟨gG, j * 8 + 7, none⟩ = some (.int .i64 B.b)) := Lib.hid (fun W hW => by
            obtain ⟨g, h1, h2, _⟩ := (HN.out W hW).2 (by omega)
            cases h1
            have h1 := straight (HNF.out W hW) hi2
            have h2 := straight h2 hj2
            rw [← HA.out] at h1
            rw [← hBj] at h2
            exact ⟨h1.1, h1.2.1, h1.2.2.1, h1.2.2.2.1, h1.2.2.2.2.1, h1.2.2.2.2.2.1, h1.2.2.2.2.2.2.1, h1.2.2.2.2.2.2.2, h2.1, h2.2.1, h2.2.2.1, h2.2.2.2.1, h2.2.2.2.2.1, h2.2.2.2.2.2.1, h2.2.2.2.2.2.2.1, h2.2.2.2.2.2.2.2⟩)
          obtain ⟨L, hL⟩ : ∃ L, L = outerL F G m i ++ innerL A G j := ⟨_, rfl⟩
          have hnx : outerL F G m i ++ innerL A G (j + 1) = L ++ crossOf A B := by rw [hnext, hL, List.append_assoc]
          rw [← hL] at HO hlen
          have HM := Lib.hid (fun W => rmeet_any A B OKA.out okB W)
          have HC1 := Lib.hid (fun W => rcommon_any A B OKA.out okB W)
          have HC2 := Lib.hid (fun W => rcommon_any B A okB OKA.out W)
          have qa0 : stA + max 0 ((A.fromN B : Int) - 1) = A.cFrom B := by rw [← HSA.out]; rfl
          have qb0 : stA + min A.l (A.l - (A.cutN B : Int) + 1) = A.cTo B := by rw [← HSA.out]; rfl
          have qc0 : sG j + max 0 ((B.fromN A : Int) - 1) = B.cFrom A := by rw [← sB]; rfl
          have qd0 : sG j + min B.l (B.l - (B.cutN A : Int) + 1) = B.cTo A := by rw [← sB]; rfl
          have n1 := Cor.fromN_le A B
          have n2 := Cor.cutN_le A B
          have n3 := Cor.fromN_le B A
          have n4 := Cor.cutN_le B A
          have n5 := Cor.n_eq OKA.out
          have n6 := Cor.n_eq okB
          have n7 := OKA.out.l1
          have n8 := okB.l1
          have n9 := OKA.out.l0
          have n10 := okB.l0
          obtain ⟨t, ht⟩ : ∃ t, t = A.meetB B := ⟨_, rfl⟩
          rw [← ht] at HM
          have HT := Lib.hid ht
          have HSB2 := Lib.hid sB2
          rw [sB2] at sB3 sB4
          clear hnext hL hBj okB sB sB2 ht
          generalize sG j = stB at *
          have wqa : IntKind.i64.wrap (stA + max 0 ((A.fromN B : Int) - 1)) = A.cFrom B := by rw [← qa0]; exact IntWalk.i64_in _ (by omega)
          have wqb : IntKind.i64.wrap (stA + min A.l (A.l - (A.cutN B : Int) + 1)) = A.cTo B := by rw [← qb0]; exact IntWalk.i64_in _ (by omega)
          have wqc : IntKind.i64.wrap (stB + max 0 ((B.fromN A : Int) - 1)) = B.cFrom A := by rw [← qc0]; exact IntWalk.i64_in _ (by omega)
          have wqd : IntKind.i64.wrap (stB + min B.l (B.l - (B.cutN A : Int) + 1)) = B.cTo A := by rw [← qd0]; exact IntWalk.i64_in _ (by omega)
          have wsb : IntKind.i64.wrap (stB + B.l) = stB + B.l := IntWalk.i64_in _ (by omega)
          clear qa0 qb0 qc0 qd0 n1 n2 n3 n4 n5 n6 n7 n8 n9 n10
          generalize max 0 ((A.fromN B : Int) - 1) = ra at *
          generalize min A.l (A.l - (A.cutN B : Int) + 1) = rb at *
          generalize max 0 ((B.fromN A : Int) - 1) = rc at *
          generalize min B.l (B.l - (B.cutN A : Int) + 1) = rd at *
          have hsz := HX.out.size
          have zF : gF < ws.heap.size := by omega
          have zG : gG < ws.heap.size := by omega
          obtain ⟨c0, c1, c2, c3, c4, c5, c6, c7, d0, d1, d2, d3, d4, d5, d6, d7⟩ := HK.out _ HX.out
          go_upto_region 13 with fail
          have hBx : Below wb.heap.size wb ws.drew := HX.out.drew
          have hBr : Below ws.heap.size ws ws.drew := (Below.refl _ _).drew
          go_region_held3 (fun w' => w'.cell? ⟨gF, i * 8, none⟩ = some (.int .i64 A.x) ∧ w'.cell? ⟨gF, i * 8 + 1, none⟩ = some (.int .i64 A.y) ∧ w'.cell? ⟨gF, i * 8 + 2, none⟩ = some (.int .i64 A.p) ∧ w'.cell? ⟨gF, i * 8 + 3, none⟩ = some (.int .i64 A.q) ∧ w'.cell? ⟨gF, i * 8 + 4, none⟩ = some (.int .i64 A.l) ∧ w'.cell? ⟨gF, i * 8 + 5, none⟩ = some (.int .i64 A.h) ∧ w'.cell? ⟨gF, i * 8 + 6, none⟩ = some (.int .i64 A.a) ∧ w'.cell? ⟨gF, i * 8 + 7, none⟩ = some (.int .i64 A.b) ∧ w'.cell? ⟨gG, j * 8, none⟩ = some (.int .i64 B.x) ∧ w'.cell? ⟨gG, j * 8 + 1, none⟩ = some (.int .i64 B.y) ∧ w'.cell? ⟨gG, j * 8 + 2, none⟩ = some (.int .i64 B.p) ∧ w'.cell? ⟨gG, j * 8 + 3, none⟩ = some (.int .i64 B.q) ∧ w'.cell? ⟨gG, j * 8 + 4, none⟩ = some (.int .i64 B.l) ∧ w'.cell? ⟨gG, j * 8 + 5, none⟩ = some (.int .i64 B.h) ∧ w'.cell? ⟨gG, j * 8 + 6, none⟩ = some (.int .i64 B.a) ∧ w'.cell? ⟨gG, j * 8 + 7, none⟩ = some (.int .i64 B.b))
            (first | exact HK.out _ hBx | go_keep)
            (first | (go_at_call 85; (with_reducible refine (HM.out _).mono ?_); rintro e w3 ⟨rfl, hb7⟩; replace hBx := hBx.trans (hb7.mono hBx.size); replace hBr := below_step hBr hb7))
          clear c0 c1 c2 c3 c4 c5 c6 c7 d0 d1 d2 d3 d4 d5 d6 d7 zF zG
          have HX3 := Lib.hid hBx
          have HO3 := Lib.hid (HO.out.kept (grown_of_below hBr) (Classical.em _))
          clear hBx hBr HO HX
          have hsz := HX3.out.size
          have zF : gF < w3.heap.size := by omega
          have zG : gG < w3.heap.size := by omega
          obtain ⟨c0, c1, c2, c3, c4, c5, c6, c7, d0, d1, d2, d3, d4, d5, d6, d7⟩ := HK.out _ HX3.out
          cases t with
          | false =>
            have HR : Hid (outerL F G m i ++ innerL A G (j + 1) = L) := Lib.hid (by rw [hnx, crossOf_no HT.out.symm, List.append_nil])
            clear hnx HT
            go_wp2
            go_roundw
            case rel => exact ⟨j + 1, _, by omega, rfl, by rw [HSB2.out], by go_num, Lib.hid (by rw [HR.out]; exact HO3.out), HX3⟩
            case measure => simp [intOf]; omega
          | true =>
            have HR : Hid (outerL F G m i ++ innerL A G (j + 1) = L ++ [crossQ A B]) := Lib.hid (by rw [hnx, crossOf_yes HT.out.symm])
            clear hnx HT
            go_upto_region 14 with fail
            have hBx : Below wb.heap.size wb w3.drew := HX3.out.drew
            have hBr : Below w3.heap.size w3 w3.drew := (Below.refl _ _).drew
            go_region_held3 (fun w' => w'.cell? ⟨gF, i * 8, none⟩ = some (.int .i64 A.x) ∧ w'.cell? ⟨gF, i * 8 + 1, none⟩ = some (.int .i64 A.y) ∧ w'.cell? ⟨gF, i * 8 + 2, none⟩ = some (.int .i64 A.p) ∧ w'.cell? ⟨gF, i * 8 + 3, none⟩ = some (.int .i64 A.q) ∧ w'.cell? ⟨gF, i * 8 + 4, none⟩ = some (.int .i64 A.l) ∧ w'.cell? ⟨gF, i * 8 + 5, none⟩ = some (.int .i64 A.h) ∧ w'.cell? ⟨gF, i * 8 + 6, none⟩ = some (.int .i64 A.a) ∧ w'.cell? ⟨gF, i * 8 + 7, none⟩ = some (.int .i64 A.b) ∧ w'.cell? ⟨gG, j * 8, none⟩ = some (.int .i64 B.x) ∧ w'.cell? ⟨gG, j * 8 + 1, none⟩ = some (.int .i64 B.y) ∧ w'.cell? ⟨gG, j * 8 + 2, none⟩ = some (.int .i64 B.p) ∧ w'.cell? ⟨gG, j * 8 + 3, none⟩ = some (.int .i64 B.q) ∧ w'.cell? ⟨gG, j * 8 + 4, none⟩ = some (.int .i64 B.l) ∧ w'.cell? ⟨gG, j * 8 + 5, none⟩ = some (.int .i64 B.h) ∧ w'.cell? ⟨gG, j * 8 + 6, none⟩ = some (.int .i64 B.a) ∧ w'.cell? ⟨gG, j * 8 + 7, none⟩ = some (.int .i64 B.b))
              (first | exact HK.out _ hBx | go_keep)
              (first | (go_at_call 86; (with_reducible refine (HC1.out _).mono ?_); rintro e w4 ⟨rfl, hb7⟩; replace hBx := hBx.trans (hb7.mono hBx.size); replace hBr := below_step hBr hb7))
            clear c0 c1 c2 c3 c4 c5 c6 c7 d0 d1 d2 d3 d4 d5 d6 d7 zF zG
            have HX4 := Lib.hid hBx
            have HO4 := Lib.hid (HO3.out.kept (grown_of_below hBr) (Classical.em _))
            clear hBx hBr HO3 HX3
            have hsz := HX4.out.size
            have zF : gF < w4.heap.size := by omega
            have zG : gG < w4.heap.size := by omega
            obtain ⟨c0, c1, c2, c3, c4, c5, c6, c7, d0, d1, d2, d3, d4, d5, d6, d7⟩ := HK.out _ HX4.out
            go_upto_region 15 with fail
            have hBx : Below wb.heap.size wb w4.drew := HX4.out.drew
            have hBr : Below w4.heap.size w4 w4.drew := (Below.refl _ _).drew
            go_region_held3 (fun w' => w'.cell? ⟨gF, i * 8, none⟩ = some (.int .i64 A.x) ∧ w'.cell? ⟨gF, i * 8 + 1, none⟩ = some (.int .i64 A.y) ∧ w'.cell? ⟨gF, i * 8 + 2, none⟩ = some (.int .i64 A.p) ∧ w'.cell? ⟨gF, i * 8 + 3, none⟩ = some (.int .i64 A.q) ∧ w'.cell? ⟨gF, i * 8 + 4, none⟩ = some (.int .i64 A.l) ∧ w'.cell? ⟨gF, i * 8 + 5, none⟩ = some (.int .i64 A.h) ∧ w'.cell? ⟨gF, i * 8 + 6, none⟩ = some (.int .i64 A.a) ∧ w'.cell? ⟨gF, i * 8 + 7, none⟩ = some (.int .i64 A.b) ∧ w'.cell? ⟨gG, j * 8, none⟩ = some (.int .i64 B.x) ∧ w'.cell? ⟨gG, j * 8 + 1, none⟩ = some (.int .i64 B.y) ∧ w'.cell? ⟨gG, j * 8 + 2, none⟩ = some (.int .i64 B.p) ∧ w'.cell? ⟨gG, j * 8 + 3, none⟩ = some (.int .i64 B.q) ∧ w'.cell? ⟨gG, j * 8 + 4, none⟩ = some (.int .i64 B.l) ∧ w'.cell? ⟨gG, j * 8 + 5, none⟩ = some (.int .i64 B.h) ∧ w'.cell? ⟨gG, j * 8 + 6, none⟩ = some (.int .i64 B.a) ∧ w'.cell? ⟨gG, j * 8 + 7, none⟩ = some (.int .i64 B.b))
              (first | exact HK.out _ hBx | go_keep)
              (first | (go_at_call 86; (with_reducible refine (HC2.out _).mono ?_); rintro e w5 ⟨rfl, hb7⟩; replace hBx := hBx.trans (hb7.mono hBx.size); replace hBr := below_step hBr hb7))
            clear c0 c1 c2 c3 c4 c5 c6 c7 d0 d1 d2 d3 d4 d5 d6 d7 zF zG
            have HX5 := Lib.hid hBx
            have HO5 := Lib.hid (HO4.out.kept (grown_of_below hBr) (Classical.em _))
            clear hBx hBr HO4 HX4
            have hws := HX5.out.size
            have hqs := qcells_snoc L (crossQ A B)
            have HQ : Hid (qcells L ++ [.int .i64 (A.cFrom B), .int .i64 (A.cTo B), .int .i64 (B.cFrom A), .int .i64 (B.cTo A)] = qcells (L ++ [crossQ A B])) := Lib.hid (by rw [hqs]; rfl)
            clear hqs
            generalize A.cFrom B = qa at *
            generalize A.cTo B = qb at *
            generalize B.cFrom A = qc at *
            generalize B.cTo A = qd at *
            go_wp2_with (at_builtin; refine wpList_append_lies _ rfl _ _ 55 rfl wb.heap.size 66 i0_ _ 4 32 Try.underlying55 hI0.out hZ0.out hZ1.out hZ2.out rfl (by decide) u L.length (qcells L) rfl (HO5.out.alloc _) ⟨w5.heap.size, 0, none⟩ 1 1 [.int .i64 qa, .int .i64 qb, .int .i64 qc, .int .i64 qd] rfl rfl (World.news_of_block (cs := #[.int .i64 qa, .int .i64 qb, .int .i64 qc, .int .i64 qd]) (t := 66) (fr := (0, 0)) (heap_alloc_new w5 _)) (by simp [Value.oneCell']) (by decide) (by unfold maxLen; omega) (by omega) (by simp; omega) _ rfl ?_; intro gg cap3 w7 hown7 hgrow hat hlt7; have hX7 := (HX5.out.alloc hws (.cells #[.int .i64 qa, .int .i64 qb, .int .i64 qc, .int .i64 qd] 66)).grown hgrow (by simp; omega) (fun g e => (HO5.out.lt _ e).1); obtain ⟨c0, c1, c2, c3, c4, c5, c6, c7, d0, d1, d2, d3, d4, d5, d6, d7⟩ := HK.out _ hX7; have zF : gF < w7.heap.size := (by have := hX7.size; omega); have zG : gG < w7.heap.size := (by have := hX7.size; omega))
            rw [HQ.out] at hown7
            go_roundw
            case rel => exact ⟨j + 1, _, by omega, rfl, by rw [HSB2.out], by go_num, Lib.hid (by rw [HR.out, List.length_append]; exact hown7), Lib.hid hX7⟩
            case measure => simp [intOf]; omega
        · obtain rfl : j = m := by omega
          have HR : Hid (outerL F G j (i + 1) = outerL F G j i ++ innerL A G j) := Lib.hid (by rw [HA.out]; rfl)
          have hA4 : ws.cell? ⟨gF, i * 8 + 4, none⟩ = some (.int .i64 A.l) := by
            have := (straight (HNF.out ws HX.out) hi2).2.2.2.2.1
            rw [← HA.out] at this
            exact this
          have zF : gF < ws.heap.size := by have := HX.out.size; omega
          go_wp2
          go_roundw
          case rel => exact ⟨i + 1, _, by omega, rfl, by rw [HSA2.out], by go_num, Lib.hid (by rw [HR.out]; exact HO.out), HX⟩
          case measure => simp [intOf]; omega
    · obtain rfl : i = n := by omega
      have HB := Lib.hid (below_step HBb.out HX.out)
      go_wp2
      refine bodyPost_ret (v := v) (by simp [results, Try.results47, go_sem]) rfl ⟨v, rfl, ?_, HB.out⟩
      exact owns_mono HO.out HBb.out.size
end Go.Proofs.Ytglkpabcflecmaa
namespace Go.Proofs.Ytglkpabcflecmaa
open Go.RowKit Go.Shelf

theorem outerL_none (F G : Nat → Cor) (n : Nat) : outerL F G 0 n = [] := by
  induction n with
  | zero => rfl
  | succ n ih => unfold outerL innerL; rw [ih]; rfl

set_option maxRecDepth 100000 in
set_option maxHeartbeats 8000000 in
theorem rcrs_half (v1 v2 : Value) (ha hb : Int) (w : World) (hne : ¬ ((0 ≤ ha ∧ ha ≤ 4000) ∧ 0 ≤ hb ∧ hb ≤ 4000)) :
    Calls Try.prog 47 #[.agg #[v1], .int .i64 ha, .agg #[v2], .int .i64 hb] w fun e w' => e = .returned (.slice none 0 0) ∧ Below w.heap.size w w' := by
  have hB := (crs_boxes w v1 v2).2.2
  by_cases h1 : ha < 0
  · clear hne
    go_enter Try.func47, Try.ntmps47
    go_wp2
    go_ret
    exact ⟨rfl, hB⟩
  · by_cases h2 : 4000 < ha
    · clear hne
      go_enter Try.func47, Try.ntmps47
      go_wp2
      go_ret
      exact ⟨rfl, hB⟩
    · by_cases h3 : hb < 0
      · clear hne
        go_enter Try.func47, Try.ntmps47
        go_wp2
        go_ret
        exact ⟨rfl, hB⟩
      · have h4 : 4000 < hb := by
          apply Classical.byContradiction
          intro hc
          exact hne ⟨⟨by omega, by omega⟩, by omega, by omega⟩
        clear hne
        go_enter Try.func47, Try.ntmps47
        go_wp2
        go_ret
        exact ⟨rfl, hB⟩

/-- **The reference's Corridors, of any two curves and half widths.** -/
theorem rcrs_any (A1 A2 : Option Addr) (c1 c2 : Nat) (c d : Crv) (ha hb : Int) (w : World) (h1 : Spots w A1 c.n c.X c.Y) (h2 : Spots w A2 d.n d.X d.Y) :
    Calls Try.prog 47 #[.agg #[.slice A1 c.n c1], .int .i64 ha, .agg #[.slice A2 d.n c2], .int .i64 hb] w (CrsPost (crsF c d ha hb) w) := by
  by_cases hh : (0 ≤ ha ∧ ha ≤ 4000) ∧ 0 ≤ hb ∧ hb ≤ 4000
  · have hn : ∀ c : Crv, pcN c ≤ 15 ∧ ∀ i, i < pcN c → Good c ∧ i + 1 < c.n := by
      intro c
      unfold pcN
      by_cases hz : chkF c = 0
      · rw [if_pos hz]
        have hg := good_of hz
        have := hg.hi
        exact ⟨by omega, fun i hi => ⟨hg, by omega⟩⟩
      · rw [if_neg hz]
        exact ⟨by omega, fun i hi => absurd hi (by omega)⟩
    have hst : ∀ c : Crv, ∀ i, i ≤ pcN c → 0 ≤ c.st i ∧ c.st i ≤ 100000000000000 := by
      intro c i hi
      rcases Nat.eq_zero_or_pos i with h0 | h0
      · subst h0
        exact ⟨Int.le_refl 0, by show (0 : Int) ≤ 100000000000000; omega⟩
      · have hg := (hn c).2 (i - 1) (by omega)
        have h2 := Crv.st_nonneg (c := c) i
        have h3 := Crv.st_lt hg.1.ok (i := i) (by omega)
        have h4 := hg.1.hi
        exact ⟨h2, by omega⟩
    have key := rcrs_loop (pcN c) (pcN d) (corAt c ha) (corAt d hb) c.st d.st (hn c).1 (hn d).1
      (Lib.hid fun i hi => ⟨corAt_ok ((hn c).2 i hi).1 hh.1.1 hh.1.2 ((hn c).2 i hi).2, rfl, rfl⟩)
      (Lib.hid fun i hi => ⟨corAt_ok ((hn d).2 i hi).1 hh.2.1 hh.2.2 ((hn d).2 i hi).2, rfl, rfl⟩)
      (Lib.hid ⟨rfl, hst c⟩) (Lib.hid ⟨rfl, hst d⟩) (.slice A1 c.n c1) (.slice A2 d.n c2) ha hb hh.1.1 hh.1.2 hh.2.1 hh.2.2 w
      (Lib.hid fun W hW => stripes_any A1 c1 c ha W (h1.below hW)) (Lib.hid fun W hW => stripes_any A2 c2 d hb W (h2.below hW))
    have e : crsF c d ha hb = outerL (corAt c ha) (corAt d hb) (pcN d) (pcN c) := by
      unfold crsF
      by_cases hc : chkF c = 0
      · by_cases hd : chkF d = 0
        · rw [if_pos ⟨hc, hd, hh.1, hh.2⟩]
          unfold crossL pcN
          rw [if_pos hc, if_pos hd]
        · rw [if_neg (fun h => hd h.2.1)]
          have : pcN d = 0 := by unfold pcN; rw [if_neg hd]
          rw [this, outerL_none]
      · rw [if_neg (fun h => hc h.1)]
        have : pcN c = 0 := by unfold pcN; rw [if_neg hc]
        rw [this]
        rfl
    rw [e]
    exact key
  · have e : crsF c d ha hb = [] := by
      unfold crsF
      exact if_neg (fun h => hh ⟨h.2.2.1, h.2.2.2⟩)
    rw [e]
    refine (rcrs_half _ _ ha hb w hh).mono ?_
    rintro e w' ⟨rfl, hb⟩
    exact ⟨_, rfl, World.ownsRow_nil _ _ _ _, hb⟩
end Go.Proofs.Ytglkpabcflecmaa
