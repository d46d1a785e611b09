/- What RulesDual says, as mathematics. -/
import Derived.Test.YtnpnfdnaglcnfaaDoorStyM
namespace Go.Proofs.YtnpnfdnaglcnfaaDoor

theorem wst1_neg {d so v : Int} (hd : d = 0 ∨ d = 1) (hs : isV so) (hv : isV v) : wst1 (negV d) (negV so) (negV v) = negV (wst1 d so v) := by
  unfold isV at hs hv
  rcases hd with rfl | rfl <;> rcases hs with rfl | rfl | rfl <;> rcases hv with rfl | rfl | rfl <;> rfl
theorem wst_neg {d : Int} (hd : d = 0 ∨ d = 1) : ∀ (l : List Int) (so : Int), isV so → (∀ x ∈ l, isV x) → wst (negV d) (negV so) (l.map negV) = negV (wst d so l)
  | [], _, _, _ => rfl
  | v :: l, so, h, hl => by
    have e : wst (negV d) (negV so) ((v :: l).map negV) = wst (negV d) (wst1 (negV d) (negV so) (negV v)) (l.map negV) := rfl
    have e2 : wst d so (v :: l) = wst d (wst1 d so v) l := rfl
    rw [e, e2, wst1_neg hd h (hl v (by simp)), wst_neg hd l _ (isV_wst1 h (hl v (by simp))) fun y hy => hl y (by simp [hy])]
theorem wst1_01 {v : Int} (hv : isV v) : wst1 0 1 v = v := by
  rcases hv with rfl | rfl | rfl <;> rfl
theorem wst1_10 {v : Int} (hv : isV v) : wst1 1 0 v = v := by
  rcases hv with rfl | rfl | rfl <;> rfl
theorem bet_one (T : Nat) (a : Nat → Int) (i : Nat) : betL T a i i = [atL T a i] := by
  unfold betL atL
  rw [show min i T + 1 - min i T = 1 from by omega]
  rfl
/-- The tree of a node without parts, and so on. -/
def nNot : Nd := ⟨3, 0, 0, 0, 0, 0⟩
def nAll (x y : Int) : Nd := ⟨6, 0, 0, 0, x, y⟩
def nSome (x y : Int) : Nd := ⟨7, 0, 0, 0, x, y⟩
def nAnd : Nd := ⟨4, 0, 0, 0, 0, 0⟩
def nOr : Nd := ⟨5, 0, 0, 0, 0, 0⟩
def nTrue : Nd := ⟨1, 0, 0, 0, 0, 0⟩
def nUnt (x y : Int) : Nd := ⟨8, 0, 0, 0, x, y⟩
section
variable (t : List (List Int))
theorem ev_not (a : Fm) (i : Nat) : evT t (.un nNot a) i = negV (evT t a i) := by
  show negV (atL t.length (evT t a) i) = _
  rw [ev_atL]
theorem ev_all (a : Fm) (x y : Int) (i : Nat) : evT t (.un (nAll x y) a) i = wst 0 1 (betL t.length (evT t a) (i + x.toNat) (i + y.toNat)) := rfl
theorem ev_some (a : Fm) (x y : Int) (i : Nat) : evT t (.un (nSome x y) a) i = wst 1 0 (betL t.length (evT t a) (i + x.toNat) (i + y.toNat)) := rfl
theorem ev_and (a b : Fm) (i : Nat) : evT t (.bi nAnd a b) i = wst 0 1 [evT t a i, evT t b i] := by
  show wst 0 1 [atL t.length (evT t a) i, atL t.length (evT t b) i] = _
  rw [ev_atL, ev_atL]
theorem ev_or (a b : Fm) (i : Nat) : evT t (.bi nOr a b) i = wst 1 0 [evT t a i, evT t b i] := by
  show wst 1 0 [atL t.length (evT t a) i, atL t.length (evT t b) i] = _
  rw [ev_atL, ev_atL]
theorem dual1 (a : Fm) (x y : Int) (i : Nat) : evT t (.un (nAll x y) a) i = evT t (.un nNot (.un (nSome x y) (.un nNot a))) i := by
  rw [ev_not, ev_some, ev_all]
  have e : betL t.length (evT t (.un nNot a)) (i + x.toNat) (i + y.toNat) = (betL t.length (evT t a) (i + x.toNat) (i + y.toNat)).map negV := by
    unfold betL
    rw [List.map_map]
    refine List.map_congr_left fun j _ => ?_
    exact ev_not t a _
  rw [e]
  have h := wst_neg (d := 0) (.inl rfl) (betL t.length (evT t a) (i + x.toNat) (i + y.toNat)) 1 (.inr (.inl rfl)) (fun v hv => by
    unfold betL at hv
    obtain ⟨j, _, rfl⟩ := List.mem_map.1 hv
    exact isV_ev t a _)
  have e0 : negV 0 = 1 := rfl
  have e1 : negV 1 = 0 := rfl
  rw [e0, e1] at h
  rw [h]
  have hz : isV (wst 0 1 (betL t.length (evT t a) (i + x.toNat) (i + y.toNat))) := isV_ev t (.un (nAll x y) a) i
  rcases hz with h | h | h <;> rw [h] <;> rfl
theorem dual2 (a b : Fm) (i : Nat) : evT t (.bi nAnd a b) i = evT t (.un nNot (.bi nOr (.un nNot a) (.un nNot b))) i := by
  rw [ev_not, ev_or, ev_and, ev_not, ev_not]
  have h1 := isV_ev t a i
  have h2 := isV_ev t b i
  rcases h1 with h1 | h1 | h1 <;> rcases h2 with h2 | h2 | h2 <;> rw [h1, h2] <;> rfl
theorem dual3 (a : Fm) (i : Nat) : evT t (.un (nAll 0 0) a) i = evT t a i := by
  rw [ev_all]
  show wst 0 1 (betL t.length (evT t a) i i) = _
  rw [bet_one, ev_atL]
  exact wst1_01 (isV_ev t a i)
theorem dual4 (a : Fm) (i : Nat) : evT t (.un (nSome 0 0) a) i = evT t a i := by
  rw [ev_some]
  show wst 1 0 (betL t.length (evT t a) i i) = _
  rw [bet_one, ev_atL]
  exact wst1_10 (isV_ev t a i)
theorem unt_true {T : Nat} {b : Nat → Int} {i lo : Nat} (hb : ∀ j, isV (atL T b j)) : ∀ k, untS lo T (fun _ => 1) b i k = (wst 1 0 (winL T b (i + lo) (k - lo)), 1)
  | 0 => by
    rw [show 0 - lo = 0 from by omega]; rfl
  | k + 1 => by
    have ih := unt_true (lo := lo) (i := i) hb k
    have e : untS lo T (fun _ => 1) b i (k + 1) = (if lo ≤ k then wst1 1 (untS lo T (fun _ => 1) b i k).1 (wst 0 1 [(untS lo T (fun _ => 1) b i k).2, atL T b (i + k)]) else (untS lo T (fun _ => 1) b i k).1, wst1 0 (untS lo T (fun _ => 1) b i k).2 1) := rfl
    rw [e, ih]
    have e2 : wst 0 1 [1, atL T b (i + k)] = atL T b (i + k) := wst1_01 (hb _)
    simp only
    rw [e2]
    by_cases h : lo ≤ k
    · rw [if_pos h, show k + 1 - lo = (k - lo) + 1 from by omega, winL_succ, wst_append, show i + lo + (k - lo) = i + k from by omega]
      rfl
    · rw [if_neg h, show k + 1 - lo = k - lo from by omega]
      rfl
theorem dual5 (b : Fm) (x y : Int) (hy : x ≤ y) (i : Nat) : evT t (.bi (nUnt x y) (.lf nTrue) b) i = evT t (.un (nSome x y) b) i := by
  rw [ev_some]
  show (untS x.toNat t.length (fun _ => 1) (evT t b) i (y.toNat + 1)).1 = _
  rw [unt_true (fun j => by rw [ev_atL]; exact isV_ev t b j), bet_win _ _ _ _ _ _ (by omega)]
  simp only
  rw [show i + y.toNat + 1 - (i + x.toNat) = y.toNat + 1 - x.toNat from by omega]
end
/-- A formula that is valid over two columns, of so great a horizon and so many nodes. -/
def Vx (x : Fm) (h : Int) (m : Nat) : Prop := x.wf ∧ x.ok 2 ∧ 0 ≤ x.hor ∧ x.hor ≤ h ∧ x.flat.length ≤ m
theorem Vx.un {n : Nd} {a : Fm} {h : Int} {m : Nat} (hp : prt n.op = 1) (he : ndE 2 n = 0) (hh : n.hi ≤ 4) (ha : Vx a h m) : Vx (.un n a) (h + 4) (m + 1) := by
  obtain ⟨h1, h2, h3, h4, h5⟩ := ha
  have hw : (Fm.un n a).wf := ⟨hp, h1⟩
  have hk := ok_un he h2
  have h6 := ok_hi he
  refine ⟨hw, hk, hor_nn _ hk hw, ?_, ?_⟩
  · show hv n a.hor 0 ≤ h + 4
    unfold hv
    repeat' split
    all_goals omega
  · show a.flat.length + 1 ≤ m + 1
    omega
theorem Vx.bi {n : Nd} {a b : Fm} {h : Int} {m k : Nat} (hp : prt n.op = 2) (he : ndE 2 n = 0) (hh : n.hi ≤ 4) (ha : Vx a h m) (hb : Vx b h k) : Vx (.bi n a b) (h + 4) (m + k + 1) := by
  obtain ⟨h1, h2, h3, h4, h5⟩ := ha
  obtain ⟨g1, g2, g3, g4, g5⟩ := hb
  have hw : (Fm.bi n a b).wf := ⟨hp, h1, g1⟩
  have hk := ok_bi he h2 g2
  have h6 := ok_hi he
  refine ⟨hw, hk, hor_nn _ hk hw, ?_, ?_⟩
  · show hv n a.hor b.hor ≤ h + 4
    unfold hv
    repeat' split
    all_goals omega
  · have e1 : (Fm.bi n a b).flat.length = a.flat.length + b.flat.length + 1 := by simp [Fm.flat]
    omega
theorem Vx.true : Vx (.lf nTrue) 0 1 := ⟨rfl, ok_leaf rfl, Int.le_refl 0, Int.le_refl 0, Nat.le_refl 1⟩
theorem Vx.mono {x : Fm} {h h' : Int} {m m' : Nat} (hx : Vx x h m) (e1 : h ≤ h') (e2 : m ≤ m') : Vx x h' m' := ⟨hx.1, hx.2.1, hx.2.2.1, Int.le_trans hx.2.2.2.1 e1, Nat.le_trans hx.2.2.2.2 e2⟩
theorem Vx.chk {x : Fm} (hx : Vx x 60 40) : chkE x.flat 2 = 0 := by
  obtain ⟨h1, h2, h3, h4, h5⟩ := hx
  have hs : shpE x.flat 2 = 0 := by
    unfold shpE
    have h6 : feL (ndE 2) x.flat = 0 := feL_all h2
    have h7 : one 1 x.flat = 0 := by
      have := one_flat x h1 0 []
      rw [List.append_nil] at this
      exact this
    rw [if_neg (by decide), if_neg (by omega), if_neg (by simp [h6]), h7]
  unfold chkE
  rw [hs, if_neg (by simp), horL_flat h1, if_neg (by omega)]
theorem tr_ok2 {t : List (List Int)} (h : TrOk 2 12 t) : trE t 2 = 0 := by
  obtain ⟨h1, h2⟩ := h
  unfold trE
  rw [if_neg (by decide), if_neg (by omega)]
  refine feL_all fun r hr => ?_
  obtain ⟨h3, h4⟩ := h2 r hr
  unfold rwE
  rw [if_neg (by simp [h3])]
  refine feL_all fun v hv => ?_
  have := h4 v hv
  unfold vlE
  split <;> omega
theorem Vx.ev {t : List (List Int)} {x : Fm} (hx : Vx x 60 40) (ht : TrOk 2 12 t) (i : Nat) : evR x.flat 2 t i = .tuple #[iv (evT t x i), iv 0] := by
  have h0 : ¬ (i : Int) < 0 := by omega
  have he : evE x.flat 2 t i = 0 := by
    unfold evE
    rw [hx.chk, tr_ok2 ht]
    simp [h0]
  have hv : evV x.flat 2 t i = evT t x i := by
    unfold evV
    rw [he, vds_flat _ hx.1]
    simpa using ev_sat t x i
  unfold evR
  rw [he, hv]
open Go.RowKit in
/-- Eval of such a formula. -/
theorem eval_two (A : Option Addr) (cap : Nat) {x : Fm} (B : Option Addr) (cb : Nat) {t : List (List Int)} (hx : Vx x 60 40) (ht : TrOk 2 12 t) (i : Nat) (hi : i ≤ 1000) (w : World) (hA : NdsL w A x.flat) (hB : RowsL w B t) :
    Calls Tryd.prog 29 #[.slice A x.flat.length cap, iv 2, .slice B t.length cb, iv i] w fun e w' => e = .returned (.tuple #[iv (evT t x i), iv 0]) ∧ Below w.heap.size w w' := by
  have h := eval_any A cap x.flat 2 B cb t i w (by omega) (fun r hr => by have := (ht.2 r hr).1; omega) hA hB
  rw [hx.ev ht] at h
  exact h
end Go.Proofs.YtnpnfdnaglcnfaaDoor
