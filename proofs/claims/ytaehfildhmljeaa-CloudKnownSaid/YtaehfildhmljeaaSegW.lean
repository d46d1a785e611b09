/- The program's Segments, of valid clouds. -/
import Derived.Test.YtaehfildhmljeaaSegR
import Derived.Test.YtaehfildhmljeaaChkC
import Derived.Deep.Onto
namespace Go.Proofs.Ytaehfildhmljeaa
open Go.RowKit Go.Shelf

theorem segs_form {W : World} {base : Nat} {v : Value} {R : List (List Nat)} (h : SegsAt W base v R) : ∃ A c, v = .slice A R.length c := by
  obtain ⟨xs, _, h2, _⟩ := h
  rcases h2.2 with ⟨rfl, h0⟩ | ⟨g, cap, cur, rfl, _⟩
  · exact ⟨none, 0, by rw [h0]⟩
  · exact ⟨_, cap, rfl⟩
theorem row_form {W : World} {base k : Nat} {v : Value} {xs : List Value} {e : TypeId} (h : W.ownsRow base e 1 v k xs) : ∃ A c, v = .slice A k c := by
  rcases h.2 with ⟨rfl, h0⟩ | ⟨g, cap, cur, rfl, _⟩
  · exact ⟨none, 0, by rw [h0]⟩
  · exact ⟨_, cap, rfl⟩
theorem nat_grown {w w' : World} {g h n : Nat} {F : Nat → Nat} (hr : NatAt w g n F) (hg : Only w w' h) (hne : g ≠ h) : NatAt w' g n F := by
  obtain ⟨cs, h1, h2⟩ := hr
  exact ⟨cs, h1.grown hg (by simpa using hne), h2⟩
theorem below_only {w W W' : World} {g : Nat} (h : Below w.heap.size w W) (hg : Only W W' g) (hl : w.heap.size ≤ g) : Below w.heap.size w W' :=
  h.trans ⟨hg.os, hg.tape, hg.output, hg.size, fun q hq => hg.block q (Nat.lt_of_lt_of_le hq h.size) (fun e => by have : q = g := (by simpa using e); omega)⟩
theorem nat_row {w w' : World} {g n Bs : Nat} {F : Nat → Nat} {row : Option Nat} (hr : NatAt w g n F) (hg : w.grownBy w' row) (hl : ∀ k, row = some k → Bs ≤ k) (hb : g < Bs) : NatAt w' g n F := by
  obtain ⟨cs, h1, h2⟩ := hr
  exact ⟨cs, h1.grown hg (fun e => by have := hl g e.symm; omega), h2⟩
theorem box_row {w w' : World} {g Bs : Nat} {t : TypeId} {cs : Array Value} {row : Option Nat} (hr : BoxAt w g t cs) (hg : w.grownBy w' row) (hl : ∀ k, row = some k → Bs ≤ k) (hb : g < Bs) : BoxAt w' g t cs :=
  hr.grown hg (fun e => by have := hl g e.symm; omega)
theorem lab_root {lnk : Nat → Nat → Bool} {n : Nat} {L : Nat → Nat} (h : Lab lnk n L) {i : Nat} (hi : i < n) : L (L i) = L i := by
  rcases (h.con i hi).lab h with e | ⟨_, _, e⟩
  · rw [← e]; exact e.symm
  · exact e.symm
theorem rowsL_bd (L : Nat → Nat) (i : Nat) : ∀ (a : Nat) r, (rowsL L i)[a]? = some r → r.length ≤ i := by
  induction i with
  | zero => intro a r h; simp [rowsL] at h
  | succ i ih =>
    have h5 : ∀ (a : Nat) r, (if L i = i then rowsL L i ++ [[]] else rowsL L i)[a]? = some r → r.length ≤ i := fun a r h => by
      split at h
      · rcases Nat.lt_or_ge a (rowsL L i).length with h1 | h1
        · rw [List.getElem?_append_left h1] at h; exact ih a r h
        · rw [List.getElem?_append_right h1] at h
          rcases Nat.eq_zero_or_pos (a - (rowsL L i).length) with h0 | h0
          · rw [h0] at h
            obtain rfl : r = [] := by simpa using h.symm
            simp
          · rw [List.getElem?_eq_none (by simp; omega)] at h; cases h
      · exact ih a r h
    intro a r h
    unfold rowsL at h
    rw [List.getElem?_modify] at h
    cases hh : (if L i = i then rowsL L i ++ [[]] else rowsL L i)[a]? with
    | none => rw [hh] at h; cases h
    | some r' =>
      rw [hh] at h
      have := h5 a r' hh
      simp at h
      rw [← h]
      split
      · simp; omega
      · omega
theorem rows5_bd (L : Nat → Nat) (i : Nat) : ∀ (a : Nat) r, (if L i = i then rowsL L i ++ [[]] else rowsL L i)[a]? = some r → r.length ≤ i := fun a r h => by
  split at h
  · rcases Nat.lt_or_ge a (rowsL L i).length with h1 | h1
    · rw [List.getElem?_append_left h1] at h; exact rowsL_bd L i a r h
    · rw [List.getElem?_append_right h1] at h
      rcases Nat.eq_zero_or_pos (a - (rowsL L i).length) with h0 | h0
      · rw [h0] at h
        obtain rfl : r = [] := by simpa using h.symm
        simp
      · rw [List.getElem?_eq_none (by simp; omega)] at h; cases h
  · exact rowsL_bd L i a r h
theorem seg_frozen {W : World} {base e gv q c : Nat} {R : Nat} {xs : List Value} (h : W.ownsRow base e 1 (.slice (some ⟨gv, 0, none⟩) q c) R xs) (m : Nat) : W.frozen? ⟨gv, m, none⟩ = false := by
  rcases h.2 with ⟨h1, _⟩ | ⟨g, cap, cur, h1, _, h2, _⟩
  · cases h1
  · obtain ⟨rfl, _⟩ : gv = g ∧ _ := by simpa using h1
    simp [World.frozen?, h2]
theorem seg_cell {W : World} {base e gv q c : Nat} {R m : Nat} {xs : List Value} {x : Value} (h : W.ownsRow base e 1 (.slice (some ⟨gv, 0, none⟩) q c) R xs) (hx : xs[m]? = some x) (hm : m < R) : W.cell? ⟨gv, m, none⟩ = some x := by
  have hq : q = R := by
    rcases h.2 with ⟨h1, _⟩ | ⟨g, cap, cur, h1, _⟩
    · cases h1
    · simp at h1; exact h1.2.1
  subst hq
  rw [World.ownsRow.cellAt h m (by omega), hx]
theorem cnt_le (L : Nat → Nat) (i : Nat) : cnt L i ≤ i := by
  induction i with
  | zero => exact Nat.le_refl _
  | succ i ih => unfold cnt; split <;> omega
theorem own_low {w : World} {base n size g : Nat} {e : TypeId} {v : Value} {xs : List Value} (h : w.ownsRow base e size v n xs) (hg : g < base) : v.ownBlock = none ∨ v.ownBlock ≠ some g := by
  cases hb : v.ownBlock with
  | none => exact Or.inl rfl
  | some k => exact Or.inr (fun he => by obtain rfl := Option.some.inj he; have := (h.lt k hb).1; omega)
theorem segs_mono {W : World} {base base' : Nat} {v : Value} {R : List (List Nat)} (h : SegsAt W base v R) (hb : base' ≤ base) : SegsAt W base' v R := by
  obtain ⟨xs, h1, h2, h3, h4⟩ := h
  exact ⟨xs, h1, h2.mono hb, fun a x r hx hr => (h3 a x r hx hr).mono hb, h4⟩
theorem Try.info41 : (Try.prog.info? 41).map (fun i => (i.zero, i.size, i.bytes)) = some (some (.slice none 0 0), 1, 24) := by kernel_rfl
def SegPost (X Y : Nat → Int) (gap : Int) (n : Nat) (w : World) (e : Ending) (w' : World) : Prop :=
  ∃ L v, Lab (lnkF X Y gap) n L ∧ e = .returned (.tuple #[v, .int .i64 0]) ∧ SegsAt w' w.heap.size v (rowsL L n) ∧ Below w.heap.size w w'
def LRoot (L : Nat → Nat) (n g k : Nat) (w : World) (e : Ending) (w' : World) : Prop :=
  ∃ B', e = .returned (.int .i64 ((L k : Nat) : Int)) ∧ NatAt w' g n B' ∧ Dn B' n ∧ (∀ j, j < n → rt B' j = L j) ∧ Only w w' g

set_option maxRecDepth 100000 in
set_option maxHeartbeats 8000000 in
theorem segments_good (A : Option Addr) (n cap : Nat) (X Y V : Nat → Int) (gap : Int) (hok : chkF n X Y V = 0) (g0 : 0 ≤ gap) (g1 : gap ≤ 33554432) (hc : n ≤ cap) (w : World) (hcl : Cloud w A n X Y V) :
    Calls Try.prog 34 #[.slice A n cap, .int .i64 gap] w (SegPost X Y gap n w) := by
  have hn : n ≤ 1000 := by
    unfold chkF at hok
    split at hok
    · cases hok
    · omega
  have hmk := fun W => run_make_row' (P := Try.prog) 41 3 (.int .i64 0) 8 Try.underlying41 Try.info3 rfl .i64 .i64 n (by omega) (by omega) W
  have HCL := Lib.hid hcl
  have HCK := Lib.hid (fun W (h : Cloud W A n X Y V) => check_any A n cap X Y V W h)
  rw [hok] at HCK
  have n0 : (0 : Int) ≤ (n : Int) := Int.natCast_nonneg _
  clear hcl hok
  have y1 : ¬ gap < 0 := by omega
  have y2 : ¬ 33554432 < gap := by omega
  have hB := Below.refl w.heap.size w
  go_enter Try.func34, Try.ntmps34
  go_upto_region 9 with (first
    | (go_at_call 22; (with_reducible refine (HCK.out _ HCL.out).mono ?_); rintro e w1 ⟨rfl, hb1⟩; replace hB := below_step hB hb1)
    | (go_at_call 80; (with_reducible refine (linked_any A n cap X Y V gap hc hn _ (HCL.out.below hB)).mono ?_); rintro e w2 ⟨g, Lb, Lr, cp, B0, rfl, hA, hD, hLab, hbb, hbr, q1, q2, q3, hb2⟩))
  have q3' := Nat.le_trans hB.size q3
  have hP0 := nat_made w2 n
  have hb3 : Below w2.heap.size w2 (w2.alloc (.cells (madeCells #[.int .i64 0] n) 3)) := (Below.refl _ _).alloc (Nat.le_refl _) _
  have hA3 := hA.below hb3
  have hbb3 := box_step hbb hb3
  have hbr3 := box_step hbr hb3
  have hB3 := below_step (below_step hB hb2) hb3
  have e1 := hA.lt
  have e2 := hbb.lt
  have e3 := hbr.lt
  have e4 : (w2.alloc (.cells (madeCells #[.int .i64 0] n) 3)).heap.size = w2.heap.size + 1 := by simp
  have e5 : w.heap.size ≤ w2.heap.size := by have := (below_step hB hb2).size; exact this
  obtain ⟨gp, hgp⟩ : ∃ z, z = w2.heap.size := ⟨_, rfl⟩
  rw [← hgp] at hP0 e1 e2 e3 e4 e5 ⊢
  clear hA hbb hbr hb2 hb3 hB hgp hmk HCK
  generalize w2.alloc (.cells (madeCells #[.int .i64 0] n) 3) = w3 at *
  obtain ⟨L, hL⟩ : ∃ L, L = rt B0 := ⟨_, rfl⟩
  rw [← hL] at hLab
  have HLab := Lib.hid hLab
  have HRT : Hid (∀ k, k < n → rt B0 k = L k) := Lib.hid (fun k _ => by rw [hL])
  clear hLab hL
  obtain ⟨Bs, hBs⟩ : ∃ z, z = w3.heap.size := ⟨_, rfl⟩
  have b1 : g < Bs := by omega
  have b2 : gp < Bs := by omega
  have b3 : Lb < Bs := by omega
  have b4 : Lr < Bs := by omega
  have b5 : w.heap.size ≤ Bs := by omega
  have b6 : Bs ≤ w3.heap.size := by omega
  have b7 : w.heap.size ≤ gp := by omega
  have d1 : gp ≠ g := by omega
  have d2 : gp ≠ Lb := by omega
  have d3 : gp ≠ Lr := by omega
  obtain ⟨j0, hj0, hz0, hz1, hz2⟩ := info_parts Try.info41
  have hI0 := Lib.hid hj0
  have hZ0 := Lib.hid hz0
  have hZ1 := Lib.hid hz1
  have hZ2 := Lib.hid hz2
  obtain ⟨jj0, hj0', hz0', hz1', hz2'⟩ := info_parts Try.info3
  have hI3 := Lib.hid hj0'
  have hY0 := Lib.hid hz0'
  have hY1 := Lib.hid hz1'
  have hY2 := Lib.hid hz2'
  clear hj0 hz0 hz1 hz2 hj0' hz0' hz1' hz2' e4 hBs e1 e2 e3
  have R1 : Hid (∀ W k B, k < n → Dn B n → NatAt W g n B → BoxAt W Lb 41 #[.slice (some ⟨g, 0, none⟩) n cp] → BoxAt W Lr 100 #[.func (.func 114) #[] #[.pointer (some ⟨Lb, 0, none⟩), .pointer (some ⟨Lr, 0, none⟩)]] → (∀ j, j < n → rt B j = L j) → Calls Try.prog 114 #[.int .i64 ((k : Nat) : Int), .pointer (some ⟨Lb, 0, none⟩), .pointer (some ⟨Lr, 0, none⟩)] W (LRoot L n g k W)) := Lib.hid (fun W k B h1 h2 h3 h4 h5 h6 => (root_any g Lb Lr n cp n (by omega) (Nat.le_refl _) k B W h1 h2 h3 h4 h5 q1 q2).mono (by
    rintro e w' ⟨B', rfl, a1, a2, a3, _, a5⟩
    exact ⟨B', by rw [h6 k h1], a1, a2, fun j hj => (a3 j hj).trans (h6 j hj), a5⟩))
  have I : ∃ (i : Nat) (v : Value) (B P : Nat → Nat), i ≤ n ∧ (Value.slice none 0 0) = v ∧ (Value.int .i64 0) = .int .i64 i ∧ Hid (SegsAt w3 Bs v (rowsL L i)) ∧ Hid (NatAt w3 g n B) ∧ Hid (Dn B n) ∧ Hid (∀ k, k < n → rt B k = L k) ∧ Hid (NatAt w3 gp n P) ∧ Hid (∀ r, r < i → L r = r → P r = cnt L r) ∧ Hid (BoxAt w3 Lb 41 #[.slice (some ⟨g, 0, none⟩) n cp]) ∧ Hid (BoxAt w3 Lr 100 #[.func (.func 114) #[] #[.pointer (some ⟨Lb, 0, none⟩), .pointer (some ⟨Lr, 0, none⟩)]]) ∧ Hid (Below w.heap.size w w3) ∧ Hid (Bs ≤ w3.heap.size) :=
    ⟨0, _, B0, _, Nat.zero_le _, rfl, rfl, Lib.hid (segs_none _ _), Lib.hid hA3, Lib.hid hD, HRT, Lib.hid hP0, Lib.hid (fun r hr => absurd hr (by omega)), Lib.hid hbb3, Lib.hid hbr3, Lib.hid hB3, Lib.hid b6⟩
  clear hA3 hD HRT hP0 hbb3 hbr3 hB3 b6
  go_wp2
  go_loopw [7, 31] (fun sv iv wr => ∃ (i : Nat) (v : Value) (B P : Nat → Nat), i ≤ n ∧ sv = v ∧ iv = .int .i64 i ∧ Hid (SegsAt wr Bs v (rowsL L i)) ∧ Hid (NatAt wr g n B) ∧ Hid (Dn B n) ∧ Hid (∀ k, k < n → rt B k = L k) ∧ Hid (NatAt wr gp n P) ∧ Hid (∀ r, r < i → L r = r → P r = cnt L r) ∧ Hid (BoxAt wr Lb 41 #[.slice (some ⟨g, 0, none⟩) n cp]) ∧ Hid (BoxAt wr Lr 100 #[.func (.func 114) #[] #[.pointer (some ⟨Lb, 0, none⟩), .pointer (some ⟨Lr, 0, none⟩)]]) ∧ Hid (Below w.heap.size w wr) ∧ Hid (Bs ≤ wr.heap.size)) (fun _ iv _ => n + 1 - (intOf iv).toNat)
  case atStart => exact I
  case round =>
    clear I
    obtain ⟨i, v, B, P, hi, rfl, rfl, HS, HA, HD, HR, HP, HC, HBB, HBR, HB, HZ⟩ := hrel
    by_cases hlt : i < n
    · have i0 : (0 : Int) ≤ (i : Int) := Int.natCast_nonneg _
      have i1 : (i : Int) < (n : Int) := by omega
      obtain ⟨Av, cv, hv⟩ := segs_form HS.out
      subst hv
      go_upto_if 38 with (go_at_call 114; (with_reducible refine (R1.out _ i B hlt HD.out HA.out HBB.out HBR.out HR.out).mono ?_); rintro e w4 ⟨B4, rfl, hA4, hD4, hR4, hO4⟩)
      have HA4 := Lib.hid hA4
      have HD4 := Lib.hid hD4
      have HR4 := Lib.hid hR4
      have HS4 := Lib.hid (SegsAt.kept HS.out hO4 (fun k e => by obtain rfl := Option.some.inj e; exact b1))
      have HP4 : Hid (NatAt w4 gp n P) := Lib.hid (nat_grown HP.out hO4 d1)
      have HBB4 := Lib.hid (BoxAt.grown HBB.out hO4 (by simpa using Ne.symm q1))
      have HBR4 := Lib.hid (BoxAt.grown HBR.out hO4 (by simpa using Ne.symm q2))
      have HB4 : Hid (Below w.heap.size w w4) := Lib.hid (below_only HB.out hO4 q3')
      have HZ4 : Hid (Bs ≤ w4.heap.size) := Lib.hid (Nat.le_trans HZ.out hO4.size)
      clear hA4 hD4 hR4 hO4 HS HA HD HR HP HBB HBR HB HZ
      obtain ⟨q, hq⟩ : ∃ q, q = (rowsL L i).length := ⟨_, rfl⟩
      rw [← hq]
      have HQ : Hid (q = cnt L i) := Lib.hid (hq.trans (rowsL_len L i))
      have HQ2 := Lib.hid hq
      have HS5 : Hid (SegsAt w4 Bs (.slice Av q cv) (rowsL L i)) := Lib.hid (by rw [hq]; exact HS4.out)
      clear hq HS4
      obtain ⟨bb, hbb⟩ : ∃ z, z = (((L i : Nat) : Int) == (i : Int)) := ⟨_, rfl⟩
      rw [← hbb]
      have HBO := Lib.hid hbb
      clear hbb
      go_cut [7] from 39 to 46 (fun v2 wx => ∃ P2, SegsAt wx Bs v2 (if L i = i then rowsL L i ++ [[]] else rowsL L i) ∧ NatAt wx gp n P2 ∧ (∀ r, r < i + 1 → L r = r → P2 r = cnt L r) ∧ NatAt wx g n B4 ∧ BoxAt wx Lb 41 #[.slice (some ⟨g, 0, none⟩) n cp] ∧ BoxAt wx Lr 100 #[.func (.func 114) #[] #[.pointer (some ⟨Lb, 0, none⟩), .pointer (some ⟨Lr, 0, none⟩)]] ∧ Below w.heap.size w wx ∧ Bs ≤ wx.heap.size)
      case first =>
        cases bb with
        | false =>
          have hne : ¬ L i = i := by
            have := HBO.out
            simp at this
            omega
          have HN := Lib.hid hne
          clear hne
          go_wp2
          go_meet
          rw [if_neg HN.out]
          exact ⟨P, HS5.out, HP4.out, fun r hr hl => HC.out r (by have : r ≠ i := (fun e => HN.out (by rw [← e]; exact hl)); omega) hl, HA4.out, HBB4.out, HBR4.out, HB4.out, HZ4.out⟩
        | true =>
          have heq : L i = i := by
            have := HBO.out
            simp at this
            omega
          have HN := Lib.hid heq
          clear heq
          have c0 : w4.cell? ⟨gp, i, none⟩ = some (.int .i64 (P i)) := NatAt.cell HP4.out hlt
          have c1 : w4.frozen? ⟨gp, i, none⟩ = false := NatAt.frozen HP4.out i
          have l1 := NatAt.lt HP4.out
          have qz : (0 : Int) ≤ (q : Int) := Int.natCast_nonneg _
          obtain ⟨xs, x1, x2, x3, x4⟩ := HS5.out
          have X1 := Lib.hid x1
          have X2 := Lib.hid x2
          have X3 := Lib.hid x3
          have X4 := Lib.hid x4
          clear x1 x2 x3 x4
          have bz := HZ4.out
          have hq3 : q ≤ 1000000 := by
            have := HQ.out
            have := cnt_le L i
            omega
          go_upto_region 14 with fail
          have HP5 := Lib.hid (NatAt.set HP4.out i q)
          have hgr := only_set w4 gp i (.int .i64 (q : Int))
          have O5 := Lib.hid (X2.out.kept hgr (own_low X2.out b2))
          have X35 : Hid (∀ (a : Nat) x r, xs[a]? = some x → (rowsL L i)[a]? = some r → (w4.setCell ⟨gp, i, none⟩ (.int .i64 (q : Int))).ownsRow Bs 3 1 x r.length (natV r)) := Lib.hid (fun a x r hx hr => (X3.out a x r hx hr).kept hgr (own_low (X3.out a x r hx hr) b2))
          have HA5 := Lib.hid (nat_grown HA4.out hgr (Ne.symm d1))
          have HBB5 := Lib.hid (BoxAt.grown HBB4.out hgr (by simpa using Ne.symm d2))
          have HBR5 := Lib.hid (BoxAt.grown HBR4.out hgr (by simpa using Ne.symm d3))
          have HB5 : Hid (Below w.heap.size w (w4.setCell ⟨gp, i, none⟩ (.int .i64 (q : Int)))) := Lib.hid (below_only HB4.out hgr b7)
          have bz5 : Bs ≤ (w4.setCell ⟨gp, i, none⟩ (.int .i64 (q : Int))).heap.size := by simpa using bz
          clear c0 c1 l1 HP4 X2 X3 HA4 HBB4 HBR4 HB4 HZ4 HS5 hgr bz
          generalize w4.setCell ⟨gp, i, none⟩ (.int .i64 (q : Int)) = w5 at *
          have hn41 := World.news_of_block (cs := #[.slice none 0 0]) (t := 41) (fr := (0, 0)) (heap_alloc_new w5 (.cells #[.slice none 0 0] 41))
          go_wp2_with (at_builtin; refine wpList_append_lies _ rfl _ _ 50 rfl Bs 41 j0 (.slice none 0 0) 1 24 Try.underlying50 hI0.out hZ0.out hZ1.out hZ2.out rfl (by decide) (.slice Av q cv) q xs rfl (by have := O5.out; rw [← HQ2.out] at this; exact this.alloc _) ⟨w5.heap.size, 0, none⟩ 1 1 [.slice none 0 0] rfl rfl (World.news_of_block (cs := #[.slice none 0 0]) (t := 41) (fr := (0, 0)) (heap_alloc_new w5 _)) (by simp [Value.oneCell']) (by decide) (by unfold maxLen; omega) (by omega) (by simp; omega) _ rfl ?_; intro gg cap1 w7 hown7 hgrow hat hlt7)
          go_meet
          rw [if_pos HN.out]
          have hlo' : ∀ k, (Value.slice Av q cv).ownBlock = some k → Bs ≤ k := fun k e => (O5.out.lt k e).1
          rw [HQ2.out] at hown7
          refine ⟨upd P i q, ?_, nat_row (HP5.out.alloc _) hgrow hlo' b2, fun r hr hl => ?_, nat_row (HA5.out.alloc _) hgrow hlo' b1, box_row (HBB5.out.alloc _) hgrow hlo' b3, box_row (HBR5.out.alloc _) hgrow hlo' b4, ((HB5.out.alloc (by omega) _).grown hgrow (by simp; omega) (fun k e => by have := hlo' k e; omega)), Nat.le_trans (Nat.le_trans bz5 (by simp)) hgrow.size⟩
          · have hh := SegsAt.push (v := .slice Av q cv) X1.out (O5.out.alloc (.cells #[.slice none 0 0] 41)) (fun a x r hx hr => (X35.out a x r hx hr).alloc _) X4.out hown7 hgrow
            rw [HQ2.out]
            exact hh
          · by_cases hri : r = i
            · subst hri; rw [upd_same, HQ.out]
            · rw [upd_other _ _ hri]; exact HC.out r (by omega) hl
      case rest =>
        obtain ⟨wx, rfl⟩ : ∃ x : World, x = wc := ⟨_, rfl⟩
        obtain ⟨P2, hS5, hP5, hC5, hA5, hbb5, hbr5, hB5, hz5⟩ := hcut
        have q2' := q2
        obtain ⟨R5, hR5⟩ : ∃ R, R = (if L i = i then rowsL L i ++ [[]] else rowsL L i) := ⟨_, rfl⟩
        rw [← hR5] at hS5
        have HBD : Hid (∀ (a : Nat) r, R5[a]? = some r → r.length ≤ i) := Lib.hid (by rw [hR5]; exact rows5_bd L i)
        have HRR : Hid (R5.modify (cnt L (L i)) (· ++ [i]) = rowsL L (i + 1)) := Lib.hid (by rw [hR5]; rfl)
        have hlen : R5.length = cnt L (i + 1) := by
          have := rowsL_len L (i + 1)
          rw [← HRR.out, List.length_modify] at this
          exact this
        have hli := (HLab.out).le i hlt
        have hroot : L (L i) = L i := by
          have h1 := lab_root HLab.out hlt
          exact h1
        have hm : cnt L (L i) < R5.length := by rw [hlen]; exact cnt_lt hroot (by omega)
        have hp : P2 (L i) = cnt L (L i) := hC5 (L i) (by omega) hroot
        obtain ⟨Av2, cv2, hv2⟩ := segs_form hS5
        subst hv2
        have HS5 := Lib.hid hS5
        have HP5 := Lib.hid hP5
        have HC5 := Lib.hid hC5
        have HA5 := Lib.hid hA5
        have HBB5 := Lib.hid hbb5
        have HBR5 := Lib.hid hbr5
        have HB5 := Lib.hid hB5
        have HZ5 := Lib.hid hz5
        have HL5 := Lib.hid hlen
        obtain ⟨m, hme⟩ : ∃ m, m = cnt L (L i) := ⟨_, rfl⟩
        rw [← hme] at hm hp
        have HM := Lib.hid hme
        have HPM := Lib.hid hp
        have HRoot := Lib.hid hroot
        obtain ⟨q2, hq2⟩ : ∃ q, q = R5.length := ⟨_, rfl⟩
        have hq5 : q2 ≤ 1001 := by
          have := cnt_le L (i + 1)
          omega
        rw [← hq2] at hm ⊢
        have HQ5 := Lib.hid hq2
        have hlin : L i < n := by omega
        have z0 : (0 : Int) ≤ ((L i : Nat) : Int) := Int.natCast_nonneg _
        have z1 : ((L i : Nat) : Int) < (n : Int) := by omega
        have z2 : (0 : Int) ≤ (m : Int) := Int.natCast_nonneg _
        have z3 : (m : Int) < (q2 : Int) := by omega
        clear hR5 hlen hS5 hP5 hC5 hA5 hbb5 hbr5 hB5 hz5 hme hp hroot hq2 HC HBO
        go_upto_region 16 with (go_at_call 114; (with_reducible refine (R1.out _ i B4 hlt HD4.out HA5.out HBB5.out HBR5.out HR4.out).mono ?_); rintro e w6 ⟨B6, rfl, hA6, hD6, hR6, hO6⟩; have HA6 := Lib.hid hA6; have HD6 := Lib.hid hD6; have HR6 := Lib.hid hR6; have HO6 := Lib.hid hO6; have HP6 := Lib.hid (nat_grown HP5.out hO6 d1); have t0 : w6.cell? ⟨gp, L i, none⟩ = some (.int .i64 (m : Int)) := (by rw [NatAt.cell HP6.out hlin, HPM.out]); have t1 := NatAt.lt HP6.out; clear hA6 hD6 hR6 hO6)
        have HS6 := SegsAt.kept HS5.out HO6.out (fun k e => by obtain rfl := Option.some.inj e; exact b1)
        have HBB6 := Lib.hid (BoxAt.grown HBB5.out HO6.out (by simpa using Ne.symm q1))
        have HBR6 := Lib.hid (BoxAt.grown HBR5.out HO6.out (by simpa using Ne.symm q2'))
        have HB6 : Hid (Below w.heap.size w w6) := Lib.hid (below_only HB5.out HO6.out q3')
        have hz6 : Bs ≤ w6.heap.size := Nat.le_trans HZ5.out HO6.out.size
        obtain ⟨xs, x1, x2, x3, x4⟩ := HS6
        have hm5 : m < R5.length := by rw [← HQ5.out]; omega
        obtain ⟨gv, cw, hvv, hgv1, _⟩ := x2.form (by omega)
        have hqv : q2 = R5.length := HQ5.out
        obtain ⟨rfl, rfl⟩ : Av2 = some ⟨gv, 0, none⟩ ∧ cv2 = cw := by simpa [hqv] using hvv
        have hmx : m < xs.length := by omega
        obtain ⟨x, hx⟩ : ∃ x, xs[m]? = some x := ⟨_, List.getElem?_eq_getElem hmx⟩
        obtain ⟨r, hr⟩ : ∃ r, R5[m]? = some r := ⟨_, List.getElem?_eq_getElem hm5⟩
        have hxr := x3 m x r hx hr
        obtain ⟨Ax, cx, hxf⟩ := row_form hxr
        subst hxf
        have hrb : r.length ≤ 1000 := by have := HBD.out m r hr; omega
        have s0 : w6.cell? ⟨gv, m, none⟩ = some (.slice Ax r.length cx) := by
          have := World.ownsRow.cellAt (g := gv) (cap := cv2) (n := R5.length) (by rw [← hqv]; rw [← hqv] at x2; exact x2) m (by omega)
          rw [this, hx]
        have s1 := World.block_lt_of_cell? w6 _ s0
        have X1 := Lib.hid x1
        have X2 := Lib.hid x2
        have X3 := Lib.hid x3
        have X4 := Lib.hid x4
        have HX := Lib.hid hx
        have HRm := Lib.hid hr
        have HXR := Lib.hid hxr
        clear x1 x2 x3 x4 hx hr hxr hvv hqv hgv1
        go_wp2_with (at_builtin; refine wpList_append_lies _ rfl _ _ 41 rfl Bs 3 jj0 (.int .i64 0) 1 8 Try.underlying41 hI3.out hY0.out hY1.out hY2.out rfl (by decide) (.slice Ax r.length cx) r.length (natV r) rfl (HXR.out.alloc _) ⟨w6.heap.size, 0, none⟩ 1 1 [.int .i64 (i : Int)] rfl rfl (World.news_of_block (cs := #[.int .i64 (i : Int)]) (t := 3) (fr := (0, 0)) (heap_alloc_new w6 _)) (by simp [Value.oneCell']) (by decide) (by unfold maxLen; omega) (by omega) (by simp; omega) _ rfl ?_; intro gg cap1 w7 hown7 hgrow hat hlt7; have k7 := Lib.hid ((X2.out.alloc (.cells #[.int .i64 (i : Int)] 3)).kept hgrow (own_ne (X2.out.alloc (.cells #[.int .i64 (i : Int)] 3)) (HXR.out.alloc (.cells #[.int .i64 (i : Int)] 3)) (by decide))); have f7 : w7.frozen? ⟨gv, m, none⟩ = false := (seg_frozen k7.out m); have c7 : w7.cell? ⟨gv, m, none⟩ = some (.slice Ax r.length cx) := (seg_cell k7.out HX.out hm5))
        have hlo : ∀ k, (Value.slice Ax r.length cx).ownBlock = some k → Bs ≤ k := fun k e => (HXR.out.lt k e).1
        have hgvb : Bs ≤ gv := (X2.out.lt gv rfl).1
        have hat' : (Value.slice Ax r.length cx).ownBlock = some gg ∨ (w6.alloc (.cells #[.int .i64 (i : Int)] 3)).heap.size ≤ gg := hat.imp id (fun e => Nat.le_of_eq e.symm)
        have hqs := HQ5.out
        have hadd := SegsAt.add (W := w6.alloc (.cells #[.int .i64 (i : Int)] 3)) (W' := w7) (i := i) X1.out (by rw [← hqs]; have := X2.out; rw [← hqs] at this; exact this.alloc _) (fun a x r hx hr => (X3.out a x r hx hr).alloc _) X4.out HX.out HRm.out hown7 hgrow hat'
        have he : R5.modify m (· ++ [i]) = rowsL L (i + 1) := by rw [HM.out]; exact HRR.out
        rw [he, ← hqs] at hadd
        have HADD := Lib.hid hadd
        clear hadd he hqs hat'
        have N1 := Lib.hid ((nat_row (HA6.out.alloc (.cells #[.int .i64 (i : Int)] 3)) hgrow hlo b1).other (h := gv) (by omega) m (.slice (some ⟨gg, 0, none⟩) (r.length + 1) cap1))
        have N2 := Lib.hid ((nat_row (HP6.out.alloc (.cells #[.int .i64 (i : Int)] 3)) hgrow hlo b2).other (h := gv) (by omega) m (.slice (some ⟨gg, 0, none⟩) (r.length + 1) cap1))
        have N3 := Lib.hid ((box_row (HBB6.out.alloc (.cells #[.int .i64 (i : Int)] 3)) hgrow hlo b3).other (g' := gv) (by omega) m (.slice (some ⟨gg, 0, none⟩) (r.length + 1) cap1))
        have N4 := Lib.hid ((box_row (HBR6.out.alloc (.cells #[.int .i64 (i : Int)] 3)) hgrow hlo b4).other (g' := gv) (by omega) m (.slice (some ⟨gg, 0, none⟩) (r.length + 1) cap1))
        have N5 := Lib.hid (((HB6.out.alloc (by omega) (.cells #[.int .i64 (i : Int)] 3)).grown hgrow (by simp; omega) (fun k e => by have := hlo k e; omega)).setCell (p := ⟨gv, m, none⟩) (by simp; omega) (.slice (some ⟨gg, 0, none⟩) (r.length + 1) cap1))
        have N6 : Hid (Bs ≤ (w7.setCell ⟨gv, m, none⟩ (.slice (some ⟨gg, 0, none⟩) (r.length + 1) cap1)).heap.size) := Lib.hid (by have := hgrow.size; simp at this ⊢; omega)
        clear hgrow hown7 hlo
        go_roundw
        case rel => exact ⟨i + 1, _, B6, P2, by omega, rfl, by go_num, HADD, N1, HD6, HR6, N2, HC5, N3, N4, N5, N6⟩
        case measure => simp [intOf]; omega
    · obtain rfl : i = n := by omega
      have i1 : ¬ (i : Int) < (i : Int) := by omega
      go_wp2
      exact bodyPost_ret (v := .tuple #[_, .int .i64 0]) (by simp [results, Try.results34, go_sem]) rfl ⟨L, _, HLab.out, rfl, segs_mono HS.out b5, HB.out⟩
end Go.Proofs.Ytaehfildhmljeaa
