/- Reduce of a valid cloud, the size in range. -/
import Derived.Test.YtaehfildhmljeaaRedK
import Derived.Test.YtaehfildhmljeaaCll
import Derived.Test.YtaehfildhmljeaaCel
import Derived.Test.YtaehfildhmljeaaShfW
namespace Go.Proofs.Ytaehfildhmljeaa
open Go.RowKit Go.Shelf Go.Maps

def redC (X Y : Nat → Int) (s : Int) (i : Nat) : Int × Int := (X i / s, Y i / s)
theorem div_bd {x s : Int} (hx : okc x) (h1 : 1 ≤ s) : -16777216 ≤ x / s ∧ x / s ≤ 16777216 := by
  obtain ⟨a, b⟩ := hx
  constructor
  · rw [Int.le_ediv_iff_mul_le (by omega)]
    omega
  · have h3 : x / s ≤ 16777216 / s := Int.ediv_le_ediv (by omega) b
    have h4 : (16777216 : Int) / s ≤ 16777216 := Int.ediv_le_self _ (by omega)
    omega
theorem wf_small {a : Int} (h1 : -16777216 ≤ a) (h2 : a ≤ 16777216) : (Lit.int .i64 a).wf = true := WalkArith.wf_i64 (by omega)
theorem redC_wf {X Y : Nat → Int} {s : Int} {i : Nat} (hx : okc (X i)) (hy : okc (Y i)) (h1 : 1 ≤ s) : wfC (redC X Y s i) :=
  ⟨wf_small (div_bd hx h1).1 (div_bd hx h1).2, wf_small (div_bd hy h1).1 (div_bd hy h1).2⟩
theorem zero3 (w : World) : (zeroValue 3).run Try.prog w = .ok (.int .i64 0) w := by kernel_rfl

/-- What is kept behind the first k points. -/
abbrev keptC (C : Nat → Int × Int) (n : Nat) (X Y V : Nat → Int) (k : Nat) : List Value := cellsP (fun a => X (nthF C n a)) (fun a => Y (nthF C n a)) (fun a => mxF C V (nthF C n a) k) (rnk C k)
theorem kept_new {C : Nat → Int × Int} {n k : Nat} {X Y V : Nat → Int} (hk : k < n) (hf : fstB C k = true) : keptC C n X Y V (k + 1) = keptC C n X Y V k ++ [.int .i64 (X k), .int .i64 (Y k), .int .i64 (V k)] := by
  unfold keptC
  rw [rnk_fst hf, cellsP, nth_of hf n hk, mx_first hf]
  congr 1
  refine cellsP_ext fun a ha => ⟨rfl, rfl, ?_⟩
  have h0 : rnk C k ≤ rnk C n := rnk_mono (by omega)
  obtain ⟨h1, h2, h3⟩ := nth_spec (C := C) n a (by omega)
  have hne : nthF C n a ≠ k := fun e => by rw [e] at h3; omega
  rw [mxF, if_neg (fun e => hne (fst_uniq h2 hf e.symm))]
theorem kept_old {C : Nat → Int × Int} {n k j : Nat} {X Y V : Nat → Int} (hk : k < n) (hf : fstB C k = false) (hj : fstB C j = true) (hjk : j < k) (e : C j = C k) :
    (keptC C n X Y V k).set (rnk C j * 3 + 2) (.int .i64 (max (mxF C V j k) (V k))) = keptC C n X Y V (k + 1) := by
  unfold keptC
  rw [cellsP_set _ _ _ _ (rnk_lt hj hjk), rnk_not hf]
  refine cellsP_ext fun a ha => ⟨rfl, rfl, ?_⟩
  have h0 : rnk C k ≤ rnk C n := rnk_mono (by omega)
  obtain ⟨h1, h2, h3⟩ := nth_spec (C := C) n a (by omega)
  by_cases he : a = rnk C j
  · subst he
    rw [if_pos rfl, nth_of hj n (by omega), mxF, if_pos e.symm]
  · rw [if_neg he, mxF, if_neg (fun e2 => he ?_)]
    have := fst_uniq hj h2 (e.trans e2)
    rw [this, h3]
theorem kept_get {C : Nat → Int × Int} {n k j : Nat} {X Y V : Nat → Int} (hj : fstB C j = true) (hjk : j < k) (hk : k ≤ n) : (keptC C n X Y V k)[rnk C j * 3 + 2]? = some (.int .i64 (mxF C V j k)) := by
  have h := (cellsP_get (fun a => X (nthF C n a)) (fun a => Y (nthF C n a)) (fun a => mxF C V (nthF C n a) k) (rnk_lt hj hjk)).2.2
  unfold keptC
  rw [h]
  simp only [nth_of hj n (by omega)]
theorem row_low {w : World} {base n size g : Nat} {e : TypeId} {v : Value} {xs : List Value} (h : w.ownsRow base e size v n xs) (hg : g < base) : v.ownBlock = none ∨ v.ownBlock ≠ some g := by
  cases hb : v.ownBlock with
  | none => exact Or.inl rfl
  | some k => exact Or.inr (fun he => by obtain rfl := Option.some.inj he; have := (h.lt k hb).1; omega)
theorem row_frozen {W : World} {base size e gv q c R : Nat} {xs : List Value} (h : W.ownsRow base e size (.slice (some ⟨gv, 0, none⟩) q c) R xs) (m : Nat) : W.frozen? ⟨gv, m, none⟩ = false := by
  rcases h.2 with ⟨h1, _⟩ | ⟨g, cap, cur, h1, _, h2, _⟩
  · cases h1
  · obtain ⟨rfl, _⟩ : gv = g ∧ _ := by simpa using h1
    simp [World.frozen?, h2]
theorem row_cell {W : World} {base size e gv q c R m : Nat} {xs : List Value} {x : Value} (h : W.ownsRow base e size (.slice (some ⟨gv, 0, none⟩) q c) R xs) (hx : xs[m]? = some x) : W.cell? ⟨gv, m, none⟩ = some x := by
  have := h.cells (g := gv) rfl _ _ hx
  rw [add_plain, Nat.zero_add] at this
  exact this
def RedAll (n : Nat) (X Y V : Nat → Int) (s : Int) (w : World) (e : Ending) (w' : World) : Prop :=
  ∃ B c, e = .returned (.tuple #[.slice B (if gridF n X Y V s = 0 then rnk (redC X Y s) n else 0) c, .int .i64 (gridF n X Y V s)]) ∧ (if gridF n X Y V s = 0 then rnk (redC X Y s) n else 0) ≤ c ∧
    Cloud w' B (if gridF n X Y V s = 0 then rnk (redC X Y s) n else 0) (fun a => X (nthF (redC X Y s) n a)) (fun a => Y (nthF (redC X Y s) n a)) (fun a => mxF (redC X Y s) V (nthF (redC X Y s) n a) n) ∧ Below w.heap.size w w'
theorem RedAll.nil {n : Nat} {X Y V : Nat → Int} {s z : Int} {w w' : World} (h : gridF n X Y V s = z) (hz : z ≠ 0) (hb : Below w.heap.size w w') : RedAll n X Y V s w (.returned (.tuple #[.slice none 0 0, .int .i64 z])) w' := by
  unfold RedAll
  rw [h, if_neg hz]
  exact ⟨none, 0, rfl, Nat.le_refl _, fun hh => absurd hh (by omega), hb⟩
end Go.Proofs.Ytaehfildhmljeaa
