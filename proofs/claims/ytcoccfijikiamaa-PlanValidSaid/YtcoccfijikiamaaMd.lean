/- The mathematics of package plan: cars, ramps, speeds, stops. -/
import Derived.Test.YtcoccfijikiamaaRows
namespace Go.Proofs.Ytcoccfijikiamaa

structure Car where
  len : Int
  acc : Int
  brk : Int
  rate : Int
  del : Int
/-- A car is valid. -/
def Car.ok (c : Car) : Prop := (300 ≤ c.len ∧ c.len ≤ 20000) ∧ (1 ≤ c.acc ∧ c.acc ≤ 30) ∧ (20 ≤ c.brk ∧ c.brk ≤ 90) ∧ (5 ≤ c.rate ∧ c.rate ≤ 120) ∧ (0 ≤ c.del ∧ c.del ≤ 5)
instance (c : Car) : Decidable c.ok := by unfold Car.ok; infer_instance
def carE (c : Car) : Int := if c.ok then 0 else 2
/-- The number nearest to x from lo to hi. -/
def clp (x lo hi : Int) : Int := min (max x lo) hi
def rmp (c : Car) (a w : Int) : Int := clp w (max (clp a (-c.brk) c.acc - c.rate) (-c.brk)) (min (clp a (-c.brk) c.acc + c.rate) c.acc)
def fst' (v a : Int) : Int := clp (v + a) 0 2000
theorem rmp_in {c : Car} (h : c.ok) (a w : Int) : -c.brk ≤ rmp c a w ∧ rmp c a w ≤ c.acc := by
  unfold Car.ok at h; unfold rmp clp; omega
theorem rmp_near {c : Car} (h : c.ok) {a : Int} (h1 : -c.brk ≤ a) (h2 : a ≤ c.acc) (w : Int) : a - c.rate ≤ rmp c a w ∧ rmp c a w ≤ a + c.rate := by
  unfold Car.ok at h; unfold rmp clp; omega
theorem rmp_same {c : Car} (h : c.ok) {a : Int} (h1 : -c.brk ≤ a) (h2 : a ≤ c.acc) : rmp c a a = a := by
  unfold Car.ok at h; unfold rmp clp; omega
/-- The reference's ramp. -/
def rmpR (c : Car) (a w : Int) : Int := max (max (-c.brk) (min a c.acc) - c.rate) (min (max (-c.brk) (min w c.acc)) (max (-c.brk) (min a c.acc) + c.rate))
theorem rmpR_eq {c : Car} (h : c.ok) (a w : Int) : rmpR c a w = rmp c a w := by
  unfold Car.ok at h; unfold rmp rmpR clp; omega
theorem fst_in (v a : Int) : 0 ≤ fst' v a ∧ fst' v a ≤ 2000 := by unfold fst' clp; omega
theorem fst_mono {v u : Int} (h : v ≤ u) (a : Int) : fst' v a ≤ fst' u a := by unfold fst' clp; omega
theorem fst_clp (v a : Int) (h : (v < 0 ∧ a < 0) ∨ (0 ≤ v ∧ 0 ≤ a)) : fst' (clp v (-2000) 2000) (clp a (-2000) 2000) = fst' v a := by unfold fst' clp; omega
/-- Some successive ramps. -/
def rmps (c : Car) (w : Int) : Nat → Int → List Int
  | 0, _ => []
  | n + 1, a => rmp c a w :: rmps c w n (rmp c a w)
theorem rmps_len (c : Car) (w : Int) : ∀ n a, (rmps c w n a).length = n
  | 0, _ => rfl
  | n + 1, a => by simp [rmps, rmps_len c w n]
/-- The last one of some acts, behind a first one. -/
def lst (a : Int) : List Int → Int
  | [] => a
  | x :: l => lst x l
def vel (v : Int) (l : List Int) : Int := l.foldl fst' v
theorem lst_append (a x : Int) : ∀ l, lst a (l ++ [x]) = x
  | [] => rfl
  | y :: l => by simp [lst, lst_append y x l]
theorem lst_app2 (a : Int) : ∀ l m, lst a (l ++ m) = lst (lst a l) m
  | [], _ => rfl
  | y :: l, m => by simp [lst, lst_app2 y l m]
theorem vel_append (v x : Int) (l : List Int) : vel v (l ++ [x]) = fst' (vel v l) x := by simp [vel]
theorem vel_app2 (v : Int) (l m : List Int) : vel v (l ++ m) = vel (vel v l) m := by simp [vel]
theorem rmps_succ (c : Car) (w : Int) : ∀ n a, rmps c w (n + 1) a = rmps c w n a ++ [rmp c (lst a (rmps c w n a)) w]
  | 0, a => rfl
  | n + 1, a => by
    rw [rmps, rmps_succ c w n (rmp c a w)]
    rfl
/-- The acceleration and the speed behind n ramps to the full braking. -/
def acN (c : Car) (a : Int) (n : Nat) : Int := lst a (rmps c (-c.brk) n a)
def veN (c : Car) (a v : Int) (n : Nat) : Int := vel v (rmps c (-c.brk) n a)
theorem acN_succ (c : Car) (a : Int) (n : Nat) : acN c a (n + 1) = rmp c (acN c a n) (-c.brk) := by
  unfold acN; rw [rmps_succ, lst_append]
theorem veN_succ (c : Car) (a v : Int) (n : Nat) : veN c a v (n + 1) = fst' (veN c a v n) (acN c a (n + 1)) := by
  unfold veN; rw [rmps_succ, vel_append, acN_succ]; rfl
theorem acN_low {c : Car} (h : c.ok) (a : Int) : ∀ n : Nat, -c.brk ≤ acN c a (n + 1) ∧ (acN c a (n + 1) ≤ 30 - 5 * (n : Int) ∨ acN c a (n + 1) = -c.brk)
  | 0 => by
    rw [acN_succ]
    have h2 := h
    unfold Car.ok at h2; unfold rmp clp; omega
  | n + 1 => by
    obtain ⟨h1, h2⟩ := acN_low h a n
    rw [acN_succ]
    generalize acN c a (n + 1) = x at *
    unfold Car.ok at h; unfold rmp clp; omega
theorem veN_in (c : Car) (a : Int) {v : Int} (h0 : 0 ≤ v) (h1 : v ≤ 2000) : ∀ n, 0 ≤ veN c a v n ∧ veN c a v n ≤ 2000
  | 0 => ⟨h0, h1⟩
  | n + 1 => by rw [veN_succ]; exact fst_in _ _
theorem veN_low {c : Car} (h : c.ok) (a : Int) {v : Int} (h0 : 0 ≤ v) (h1 : v ≤ 2000) : ∀ j : Nat, veN c a v (10 + j) ≤ max 0 (2000 - 20 * (j : Int))
  | 0 => by have := veN_in c a h0 h1 (10 + 0); omega
  | j + 1 => by
    have h2 := veN_low h a h0 h1 j
    have h3 := (veN_in c a h0 h1 (10 + j)).1
    rw [show 10 + (j + 1) = (10 + j) + 1 from rfl, veN_succ]
    obtain ⟨h4, h5⟩ := acN_low h a (10 + j)
    generalize acN c a (10 + j + 1) = x at *
    generalize veN c a v (10 + j) = u at *
    unfold Car.ok at h; unfold fst' clp; omega
theorem veN_end {c : Car} (h : c.ok) (a : Int) {v : Int} (h0 : 0 ≤ v) (h1 : v ≤ 2000) : veN c a v 110 = 0 := by
  have h2 := veN_low h a h0 h1 100
  have h3 := veN_in c a h0 h1 110
  simp at h2; omega
theorem veN_mono (c : Car) (a : Int) {v u : Int} (h : v ≤ u) : ∀ n, veN c a v n ≤ veN c a u n
  | 0 => h
  | n + 1 => by
    rw [veN_succ, veN_succ]
    exact fst_mono (veN_mono c a h n) _
/-- n is how many acts a stop has. -/
def IsStop (c : Car) (a v : Int) (n : Nat) : Prop := 1 ≤ n ∧ n ≤ 110 ∧ veN c a v n = 0 ∧ ∀ j, 1 ≤ j → j < n → 0 < veN c a v j
theorem isStop_uniq {c : Car} {a v : Int} {n m : Nat} (h : IsStop c a v n) (k : IsStop c a v m) : n = m := by
  obtain ⟨h1, _, h2, h3⟩ := h
  obtain ⟨k1, _, k2, k3⟩ := k
  rcases Nat.lt_trichotomy n m with g | g | g
  · have := k3 n h1 g; omega
  · exact g
  · have := h3 m k1 g; omega
theorem isStop_le {c : Car} {a v u : Int} {n m : Nat} (hv : 0 ≤ v) (h : IsStop c a v n) (k : IsStop c a u m) (hu : v ≤ u) : n ≤ m := by
  obtain ⟨h1, _, h2, h3⟩ := h
  obtain ⟨k1, _, k2, k3⟩ := k
  rcases Nat.lt_or_ge m n with g | g
  · have h4 := h3 m k1 g
    have h5 := veN_mono c a hu m
    omega
  · exact g
/-- An act of a stop above 0 leaves a speed above 0. -/
theorem isStop_last {c : Car} (h : c.ok) {a v : Int} {n : Nat} (h0 : 0 ≤ v) (h1 : v ≤ 2000) (k : IsStop c a v n) : acN c a n ≤ 0 := by
  obtain ⟨k1, _, k2, _⟩ := k
  obtain ⟨m, rfl⟩ : ∃ m, n = m + 1 := ⟨n - 1, by omega⟩
  rw [veN_succ] at k2
  have h3 := (veN_in c a h0 h1 m).1
  have h4 := acN_low h a m
  generalize veN c a v m = u at *
  generalize acN c a (m + 1) = x at *
  unfold fst' clp at k2
  unfold Car.ok at h
  omega
end Go.Proofs.Ytcoccfijikiamaa
