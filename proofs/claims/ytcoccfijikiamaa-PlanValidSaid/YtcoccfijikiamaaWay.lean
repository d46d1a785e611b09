/- Way. -/
import Derived.Test.YtcoccfijikiamaaAct
namespace Go.Proofs.Ytcoccfijikiamaa
open Go.RowKit Go.Shelf

def wayF (v : Int) : List Int → Int
  | [] => 0
  | x :: l => fst' v x + wayF (fst' v x) l
set_option maxRecDepth 100000 in
set_option maxHeartbeats 4000000 in
theorem way_any (e0 e1 e2 v : Int) (A : Option Addr) (cap : Nat) (L : List Int) (w : World) (hA : NumL w A L) (hl : L.length ≤ 1000000) (hv : I64 v) (hL : ∀ x ∈ L, I64 x) :
    Calls Try.prog 23 #[.agg #[iv e0, iv e1, iv e2, iv v], pv A L.length cap] w fun e w' => e = .returned (iv (wayF v L)) ∧ Below w.heap.size w w' := by
  have hb : Below w.heap.size w ((w.alloc (.cells #[iv e0, iv e1, iv e2, iv v] 42)).alloc (.cells #[.slice A L.length cap] 26)) := ((Below.refl _ w).alloc (Nat.le_refl _) _).alloc (by simp) _
  have HX := Lib.hid ((BoxAt.new w 42 #[iv e0, iv e1, iv e2, iv v]).alloc (.cells #[.slice A L.length cap] 26))
  have HY : Hid (BoxAt ((w.alloc (.cells #[iv e0, iv e1, iv e2, iv v] 42)).alloc (.cells #[.slice A L.length cap] 26)) (w.heap.size + 1) 26 #[.slice A L.length cap]) := Lib.hid (by
    have h := BoxAt.new (w.alloc (.cells #[iv e0, iv e1, iv e2, iv v] 42)) 26 #[.slice A L.length cap]
    rw [World.size_alloc] at h
    exact h)
  have HB0 := Lib.hid hb
  have HA := Lib.hid (hA.below hb)
  have HL := Lib.hid hL
  have HV := Lib.hid hv
  obtain ⟨N, hN⟩ : ∃ N, N = L.length := ⟨_, rfl⟩
  rw [← hN] at hl HX HY HB0 HA ⊢
  have HN := Lib.hid hN
  obtain ⟨T, hT⟩ : ∃ T, T = wayF v L := ⟨_, rfl⟩
  rw [← hT]
  have HT := Lib.hid hT
  clear hA hb hL hv hN hT
  go_enter Try.func23, Try.ntmps23
  go_upto_region 1 with fail
  generalize (w.alloc (.cells #[iv e0, iv e1, iv e2, iv v] 42)).alloc (.cells #[.slice A N cap] 26) = w0 at *
  have x0 : w0.cell? ⟨w.heap.size, 3, none⟩ = some (iv v) := HX.out.cell 3
  have y0 : w0.cell? ⟨w.heap.size + 1, 0, none⟩ = some (.slice A N cap) := HY.out.cell 0
  have lx := HX.out.lt
  have ly := HY.out.lt
  go_wp2
  go_loopw [5, 6, 14] (fun sv uv kv wr => ∃ (k : Nat) (s u : Int), sv = iv s ∧ uv = iv u ∧ kv = iv k ∧ k ≤ N ∧ 0 ≤ s ∧ s ≤ 2000 * (k : Int) ∧ Hid (I64 u) ∧ Hid (T = s + wayF u (L.drop k)) ∧ Hid (Below w0.heap.size w0 wr)) (fun _ _ kv _ => N - (intOf kv).toNat)
  case atStart => exact ⟨0, 0, v, rfl, rfl, rfl, Nat.zero_le _, Int.le_refl _, by decide, HV, Lib.hid (by rw [HT.out, Int.zero_add]; rfl), Lib.hid (Below.refl _ _)⟩
  case round =>
    obtain ⟨k, s, u, rfl, rfl, rfl, hk, s0, s1, HU, HS, HBr⟩ := hrel
    have k0 : (0 : Int) ≤ (k : Int) := Int.natCast_nonneg _
    by_cases hlt : k < N
    · have k1 : (k : Int) < (N : Int) := by omega
      obtain ⟨x, hx, hd⟩ := drop_at (L := L) (k := k) (by rw [← HN.out]; exact hlt)
      obtain ⟨b, off, rfl, c0⟩ := (HA.out.below HBr.out).at hx
      have lb := World.block_lt_of_cell? wr _ c0
      have HF := Lib.hid (fun W => faster_any u x W HU.out (HL.out x (List.mem_of_getElem? hx)))
      obtain ⟨q0, q1⟩ := fst_in u x
      have HS2 : Hid (T = s + fst' u x + wayF (fst' u x) (L.drop (k + 1))) := Lib.hid (by rw [HS.out, hd, wayF]; omega)
      have HU2 : Hid (I64 (fst' u x)) := Lib.hid ⟨by omega, by omega⟩
      generalize fst' u x = y at *
      clear hx hd
      go_wp2_with (go_at_call 36; (with_reducible refine (HF.out _).mono ?_); rintro e w1 ⟨rfl, hw⟩; obtain rfl := hw.symm)
      refine ⟨⟨k + 1, s + y, y, by go_num, rfl, by go_num, by omega, by omega, by omega, HU2, HS2, HBr⟩, by simp [intOf]; omega⟩
    · obtain rfl : k = N := by omega
      have k1 : ¬ (k : Int) < (k : Int) := by omega
      have hT2 : T = s := by rw [HS.out, HN.out, drop_end, wayF]; omega
      subst hT2
      go_wp2
      go_ret
      exact ⟨rfl, HB0.out.trans (HBr.out.mono HB0.out.size)⟩
end Go.Proofs.Ytcoccfijikiamaa
