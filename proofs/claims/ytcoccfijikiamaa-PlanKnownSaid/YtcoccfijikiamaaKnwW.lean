/- The law PlanKnown: its walk. -/
import Derived.Test.YtcoccfijikiamaaKnwM
namespace Go.Proofs.Ytcoccfijikiamaa
open Go.RowKit Go.Shelf

theorem acts_lit (l : List Int) (cs : Array Value) (h : cs = (l.map fun x => iv x).toArray) (W : World) : Calls Try.prog 19 #[.slice (some ⟨W.heap.size, 0, none⟩) l.length l.length] (W.alloc (.cells cs 2)) fun e w' =>
    e = .returned (pv (some ⟨W.heap.size, 0, none⟩) l.length l.length) ∧ NumL w' (some ⟨W.heap.size, 0, none⟩) l ∧ Below W.heap.size W w' := by
  refine (acts_any (some ⟨W.heap.size, 0, none⟩) l.length l.length _).mono fun e w' ⟨he, hb⟩ => ⟨he, ?_, ?_⟩
  · exact box_num l ((BoxAt.new W 2 cs).below hb (BoxAt.new W 2 cs).lt) h
  · exact below_step2 (Below.refl _ W) hb
theorem longs_lit (l : List Int) (hl : l.length ≤ 1000000) (cs : Array Value) (h : cs = (l.map fun x => iv x).toArray) (A : Option Addr) (cap : Nat) (W : World) (hA : NumL W A l) : Calls Try.prog 21 #[.slice A l.length cap, .slice (some ⟨W.heap.size, 0, none⟩) l.length l.length] (W.alloc (.cells cs 2)) fun e w' =>
    e = .returned (.bool true) ∧ Below W.heap.size W w' := by
  refine (longs_k l hl A cap W.heap.size _ (hA.below ((Below.refl _ W).alloc (Nat.le_refl _) _)) (box_num l (BoxAt.new W 2 cs) h)).mono fun e w' ⟨he, hb⟩ => ⟨he, below_step2 (Below.refl _ W) hb⟩
set_option maxRecDepth 100000 in
set_option maxHeartbeats 8000000 in
theorem known_walk (w : World) : Calls Try.prog 4 #[] w fun e w' => e = .returned (.bool true) ∧ Below w.heap.size w w' := by
  have HCar := Lib.hid (fun W => lcar_any W)
  have H91 : Hid (∀ W, Calls Try.prog 8 #[.agg #[iv kCar.len, iv kCar.acc, iv 91, iv kCar.rate, iv kCar.del]] W fun e w' => e = .returned (iv 2) ∧ Below W.heap.size W w') := Lib.hid (fun W => by
    have h := car_any ⟨kCar.len, kCar.acc, 91, kCar.rate, kCar.del⟩ W
    rw [show carE ⟨kCar.len, kCar.acc, 91, kCar.rate, kCar.del⟩ = 2 from known_car] at h
    exact h)
  have A1 := Lib.hid (acts_lit [0, -30, -60] #[iv 0, iv (-30), iv (-60)] rfl)
  have A2 := Lib.hid (acts_lit [10] #[iv 10] rfl)
  have A4 := Lib.hid (acts_lit [-30, -60, -60] #[iv (-30), iv (-60), iv (-60)] rfl)
  have A5 := Lib.hid (acts_lit [0, -30] #[iv 0, iv (-30)] rfl)
  have A6 := Lib.hid (acts_lit [-30] #[iv (-30)] rfl)
  have K1 := Lib.hid (check_k [0, -30, -60] 0 (by simp) known_c1)
  have K2 := Lib.hid (check_k [10] 2 (by simp) known_c2)
  have K3 := Lib.hid (check_k [] 6 (by simp) known_c3)
  have R1 : Hid (∀ W, Calls Try.prog 20 #[cv kCar, iv 0, iv 20] W fun e w' => e = .returned (iv 20) ∧ Below W.heap.size W w') := Lib.hid (fun W => by have h := Ramp_any kCar 0 20 W; rwa [known_r1] at h)
  have R2 : Hid (∀ W, Calls Try.prog 20 #[cv kCar, iv (-60), iv 0] W fun e w' => e = .returned (iv (-30)) ∧ Below W.heap.size W w') := Lib.hid (fun W => by have h := Ramp_any kCar (-60) 0 W; rwa [known_r2] at h)
  have S1 := Lib.hid (stops_k 0 100 3 [-30, -60, -60] (by simp [I64]) (by rw [show clp 100 0 2000 = 100 by decide]; exact known_s1) (by decide +kernel))
  have S2 := Lib.hid (stops_k 20 0 1 [-10] (by simp [I64]) (by rw [show clp 0 0 2000 = 0 by decide]; exact known_s2) (by decide +kernel))
  have S3 := Lib.hid (stops_k (-60) 0 1 [-60] (by simp [I64]) (by rw [show clp 0 0 2000 = 0 by decide]; exact known_s3) (by decide +kernel))
  have L1 := Lib.hid (longs_lit [-30, -60, -60] (by simp) #[iv (-30), iv (-60), iv (-60)] rfl)
  have L2 := Lib.hid (longs_lit [-10] (by simp) #[iv (-10)] rfl)
  have L3 := Lib.hid (longs_lit [-60] (by simp) #[iv (-60)] rfl)
  have WY : Hid (∀ A W, NumL W A [-30, -60, -60] → Calls Try.prog 23 #[.agg #[iv 0, iv 0, iv 0, iv 100], pv A 3 3] W fun e w' => e = .returned (iv 80) ∧ Below W.heap.size W w') := Lib.hid (fun A W h => by
    have h1 := way_any 0 0 0 100 A 3 [-30, -60, -60] W h (by simp) (by simp [I64]) (by simp [I64])
    rw [show wayF 100 [-30, -60, -60] = 80 by decide +kernel] at h1
    exact h1)
  have AC : Hid (∀ A W, NumL W A [0, -30] → Calls Try.prog 12 #[pv A 2 2, iv 5] W fun e w' => e = .returned (iv (-30)) ∧ Below W.heap.size W w') := Lib.hid (fun A W h => by
    have h1 := act_any A 2 [0, -30] 5 W h (by simp)
    rw [show actF [0, -30] 5 = -30 by decide +kernel] at h1
    exact h1)
  have T1 := Lib.hid (tail_k [0, -30] [-30] (by decide) (by simp))
  have T2 := Lib.hid (tail_k [-30] [-30] (by decide) (by simp))
  have SM := Lib.hid (same_k [-30] (by simp))
  simp only [List.length_cons, List.length_nil, Nat.zero_add, Nat.reduceAdd] at A1 A2 A4 A5 A6 K1 K2 K3 L1 L2 L3 T1 T2 SM
  generalize kCar = k at *
  have hB := Below.refl w.heap.size w
  go_enter Try.func4, Try.ntmps4
  go_upto_region 3 with (go_at_call 18; (with_reducible refine (HCar.out _).mono ?_); rintro e w1 ⟨rfl, hb1⟩)
  replace hB := (below_step hB hb1).alloc (below_step hB hb1).size (.cells #[iv k.len, iv k.acc, iv 91, iv k.rate, iv k.del] 23)
  have HX := BoxAt.new w1 23 #[iv k.len, iv k.acc, iv 91, iv k.rate, iv k.del]
  have x0 := HX.cell 0
  have x1 := HX.cell 1
  have x2 := HX.cell 2
  have x3 := HX.cell 3
  have x4 := HX.cell 4
  have lx := HX.lt
  clear hb1 HX
  go_wp2_with (first
    | (go_at_call 18; (with_reducible refine (HCar.out _).mono ?_); rintro e wn ⟨rfl, hb1⟩; replace hB := below_step hB hb1; clear hb1)
    | (go_at_call 8; (with_reducible refine (H91.out _).mono ?_); rintro e wn ⟨rfl, hb1⟩; replace hB := below_step hB hb1; clear hb1)
    | (go_at_call 20; (with_reducible refine (R1.out _).mono ?_); rintro e wn ⟨rfl, hb1⟩; replace hB := below_step hB hb1; clear hb1)
    | (go_at_call 20; (with_reducible refine (R2.out _).mono ?_); rintro e wn ⟨rfl, hb1⟩; replace hB := below_step hB hb1; clear hb1)
    | (go_at_call 19; (with_reducible refine (A1.out _).mono ?_); rintro e wn ⟨rfl, hq, hb1⟩; have hn1 := Lib.hid hq; replace hB := below_step hB hb1; clear hb1 hq)
    | (go_at_call 19; (with_reducible refine (A2.out _).mono ?_); rintro e wn ⟨rfl, hq, hb1⟩; have hn2 := Lib.hid hq; replace hB := below_step hB hb1; clear hb1 hq)
    | (go_at_call 19; (with_reducible refine (A4.out _).mono ?_); rintro e wn ⟨rfl, hq, hb1⟩; have hn4 := Lib.hid hq; replace hB := below_step hB hb1; clear hb1 hq)
    | (go_at_call 19; (with_reducible refine (A5.out _).mono ?_); rintro e wn ⟨rfl, hq, hb1⟩; have hn5 := Lib.hid hq; replace hB := below_step hB hb1; clear hb1 hq)
    | (go_at_call 19; (with_reducible refine (A6.out _).mono ?_); rintro e wn ⟨rfl, hq, hb1⟩; have hn6 := Lib.hid hq; have ht2 := Lib.hid (ht.out.below hb1); replace hB := below_step hB hb1; clear hb1 hq ht)
    | (go_at_call 19; (with_reducible refine (A6.out _).mono ?_); rintro e wn ⟨rfl, hq, hb1⟩; have hn6 := Lib.hid hq; replace hB := below_step hB hb1; clear hb1 hq)
    | (go_at_call 19; (with_reducible refine (acts_any none 0 0 _).mono ?_); rintro e wn ⟨rfl, hb1⟩; replace hB := below_step hB hb1; clear hb1)
    | (go_at_call 10; (with_reducible refine (K1.out _ 3 (Nat.le_refl _) _ hn1.out).mono ?_); rintro e wn ⟨rfl, hb1⟩; replace hB := below_step hB hb1; clear hb1 hn1)
    | (go_at_call 10; (with_reducible refine (K2.out _ 1 (Nat.le_refl _) _ hn2.out).mono ?_); rintro e wn ⟨rfl, hb1⟩; replace hB := below_step hB hb1; clear hb1 hn2)
    | (go_at_call 10; (with_reducible refine (K3.out none 0 (Nat.le_refl _) _ (NumL.nil _ _)).mono ?_); rintro e wn ⟨rfl, hb1⟩; replace hB := below_step hB hb1; clear hb1)
    | (go_at_call 22; (with_reducible refine (S1.out _).mono ?_); rintro e wn ⟨A, cap, rfl, hq, hb1⟩; have hs1 := Lib.hid hq; replace hB := below_step hB hb1; clear hb1 hq)
    | (go_at_call 22; (with_reducible refine (S2.out _).mono ?_); rintro e wn ⟨A, cap, rfl, hq, hb1⟩; have hs2 := Lib.hid hq; replace hB := below_step hB hb1; clear hb1 hq)
    | (go_at_call 22; (with_reducible refine (S3.out _).mono ?_); rintro e wn ⟨A, cap, rfl, hq, hb1⟩; have hs3 := Lib.hid hq; replace hB := below_step hB hb1; clear hb1 hq)
    | (go_at_call 21; (with_reducible refine (L1.out _ _ _ hs1.out).mono ?_); rintro e wn ⟨rfl, hb1⟩; replace hB := below_step hB hb1; clear hb1 hs1)
    | (go_at_call 21; (with_reducible refine (L2.out _ _ _ hs2.out).mono ?_); rintro e wn ⟨rfl, hb1⟩; replace hB := below_step hB hb1; clear hb1 hs2)
    | (go_at_call 21; (with_reducible refine (L3.out _ _ _ hs3.out).mono ?_); rintro e wn ⟨rfl, hb1⟩; replace hB := below_step hB hb1; clear hb1 hs3)
    | (go_at_call 23; (with_reducible refine (WY.out _ _ hn4.out).mono ?_); rintro e wn ⟨rfl, hb1⟩; replace hB := below_step hB hb1; clear hb1 hn4)
    | (go_at_call 12; (with_reducible refine (AC.out _ _ hn5.out).mono ?_); rintro e wn ⟨rfl, hb1⟩; replace hB := below_step hB hb1; clear hb1 hn5)
    | (go_at_call 14; (with_reducible refine (T1.out _ _ hn5.out).mono ?_); rintro e wn ⟨A, cap, rfl, hq, hb1⟩; have ht := Lib.hid hq; replace hB := below_step hB hb1; clear hb1 hq hn5)
    | (go_at_call 14; (with_reducible refine (T2.out _ _ hn6.out).mono ?_); rintro e wn ⟨A, cap, rfl, hq, hb1⟩; have ht := Lib.hid hq; replace hB := below_step hB hb1; clear hb1 hq hn6)
    | (go_at_call 15; (with_reducible refine (SM.out _ _ _ _ ht2.out hn6.out).mono ?_); rintro e wn ⟨rfl, hb1⟩; replace hB := below_step hB hb1; clear hb1 ht2 hn6)
    | (go_at_call 7; (with_reducible refine (awake_any _).mono ?_); rintro e wn ⟨rfl, hb1⟩; replace hB := below_step hB hb1; clear hb1))
  go_ret
  exact ⟨rfl, hB⟩
end Go.Proofs.Ytcoccfijikiamaa
