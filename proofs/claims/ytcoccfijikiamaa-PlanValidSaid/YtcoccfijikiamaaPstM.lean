/- The mathematics of PlanStops: stops are valid plans. -/
import Derived.Test.YtcoccfijikiamaaWay
namespace Go.Proofs.Ytcoccfijikiamaa

theorem rmps_all {c : Car} (h : c.ok) (w : Int) : ∀ n a, (rmps c w n a).all (inB c) = true
  | 0, _ => rfl
  | n + 1, a => by
    rw [rmps, List.all_cons, rmps_all h w n _, Bool.and_true]
    unfold inB
    exact decide_eq_true (rmp_in h a w)
theorem chn_cons {r a b : Int} {l : List Int} (h1 : a - r ≤ b ∧ b ≤ a + r) (h2 : chn r (b :: l) = true) : chn r (a :: b :: l) = true := by
  show (decide _ && chn r (b :: l)) = true
  rw [h2, Bool.and_true]
  exact decide_eq_true h1
/-- Ramps from what is in range differ by at most the rate. -/
theorem rmps_chn {c : Car} (h : c.ok) (w : Int) : ∀ n a, -c.brk ≤ a → a ≤ c.acc → chn c.rate (a :: rmps c w n a) = true
  | 0, _, _, _ => rfl
  | n + 1, a, h1, h2 => chn_cons (rmp_near h h1 h2 w) (rmps_chn h w n _ (rmp_in h a w).1 (rmp_in h a w).2)
theorem rmps_chn1 {c : Car} (h : c.ok) (w : Int) (n : Nat) (a : Int) : chn c.rate (rmps c w n a) = true := by
  cases n with
  | zero => rfl
  | succ n => exact rmps_chn h w n _ (rmp_in h a w).1 (rmp_in h a w).2
theorem lst_ne (a b : Int) : ∀ l : List Int, 0 < l.length → lst a l = lst b l
  | _ :: _, _ => rfl
  | [], h => by simp at h
theorem chkP_ok {c : Car} {L : List Int} (hc : c.ok) (h1 : 0 < L.length) (h2 : L.length ≤ 200) (h3 : L.all (inB c) = true) (h4 : lst 0 L ≤ 0) (h5 : chn c.rate L = true) : chkP c L = 0 := by
  unfold chkP
  rw [if_neg (fun h => h hc), if_neg (by omega), if_neg (by omega), h3, if_neg (by decide), if_neg (by omega), h5, if_neg (by decide)]
theorem chkP_stop {c : Car} (hc : c.ok) {a v : Int} {n : Nat} (h0 : 0 ≤ v) (h1 : v ≤ 2000) (h : IsStop c a v n) : chkP c (rmps c (-c.brk) n a) = 0 := by
  have hl := rmps_len c (-c.brk) n a
  have hn := h.1
  have hn2 := h.2.1
  refine chkP_ok hc (by omega) (by omega) (rmps_all hc _ n a) ?_ (rmps_chn1 hc _ n a)
  rw [lst_ne 0 a _ (by omega)]
  exact isStop_last hc h0 h1 h
theorem rmps_get (c : Car) (w : Int) : ∀ (n : Nat) (a : Int) (j : Nat), j < n → (rmps c w n a)[j]? = some (lst a (rmps c w (j + 1) a))
  | 0, _, _, h => by omega
  | n + 1, a, 0, _ => rfl
  | n + 1, a, j + 1, h => by
    rw [rmps, List.getElem?_cons_succ, rmps_get c w n _ j (by omega)]
    rfl
theorem stop_get (c : Car) (a : Int) {n j : Nat} (h : j < n) : (rmps c (-c.brk) n a)[j]? = some (acN c a (j + 1)) := rmps_get c _ n a j h
theorem acN_i {c : Car} (h : c.ok) (a : Int) (j : Nat) : -90 ≤ acN c a (j + 1) ∧ acN c a (j + 1) ≤ 30 := by
  rw [acN_succ]
  have h1 := rmp_in h (acN c a j) (-c.brk)
  unfold Car.ok at h
  omega
theorem rmps_i64 {c : Car} (h : c.ok) (w : Int) (n : Nat) (a : Int) : ∀ x ∈ rmps c w n a, I64 x := fun x hx => by
  have h1 := List.all_eq_true.1 (rmps_all h w n a) x hx
  unfold inB at h1
  simp only [decide_eq_true_eq] at h1
  unfold Car.ok at h
  exact ⟨by omega, by omega⟩
/-- The speeds, one after another. -/
theorem way_step (c : Car) (a v : Int) {n j : Nat} (h : j < n) : wayF (veN c a v j) ((rmps c (-c.brk) n a).drop j) = veN c a v (j + 1) + wayF (veN c a v (j + 1)) ((rmps c (-c.brk) n a).drop (j + 1)) := by
  have hj : j < (rmps c (-c.brk) n a).length := by rw [rmps_len]; exact h
  obtain ⟨x, hx, hd⟩ := drop_at hj
  rw [hd, wayF]
  rw [stop_get c a h] at hx
  obtain rfl : acN c a (j + 1) = x := by simpa using hx
  rw [veN_succ]
theorem fst_bd (v a : Int) (hv : 0 ≤ v ∧ v ≤ 2000) : fst' v a = max 0 (min 2000 (v + a)) := by unfold fst' clp; omega
/-- The same car, weak. -/
def weakCar (c : Car) : Car := ⟨c.len, c.acc, 20, 5, c.del⟩
theorem weak_ok {c : Car} (h : c.ok) : (weakCar c).ok := by
  unfold Car.ok weakCar at *
  dsimp only
  omega
end Go.Proofs.Ytcoccfijikiamaa
