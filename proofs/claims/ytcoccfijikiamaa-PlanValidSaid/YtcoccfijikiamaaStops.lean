/- Stops; Profile. -/
import Derived.Test.YtcoccfijikiamaaStp
namespace Go.Proofs.Ytcoccfijikiamaa
open Go.RowKit Go.Shelf

theorem crs_new (c : Car) (a v : Int) (W : World) : Crs (W.alloc (.cells #[iv c.len, iv c.acc, iv c.brk, iv c.rate, iv c.del, .slice none 0 0, iv a, iv v] 58)) W.heap.size c [] a v :=
  ⟨.slice none 0 0, BoxAt.new W 58 _, World.ownsRow_nil _ _ _ _⟩
set_option maxRecDepth 100000 in
set_option maxHeartbeats 4000000 in
theorem stops_any (c : Car) (hc : c.ok) (a v : Int) (w : World) (hv : I64 v) :
    Calls Try.prog 22 #[cv c, iv a, iv v] w fun e w' => ∃ n A cap, IsStop c a (clp v 0 2000) n ∧ e = .returned (.slice A n cap) ∧ n ≤ cap ∧ NumL w' A (rmps c (-c.brk) n a) ∧ Below w.heap.size w w' := by
  have HC := Lib.hid (fun W => car_any c W)
  rw [carE_ok hc] at HC
  have HK := Lib.hid (fun W => crs_new c a v W)
  have HS := Lib.hid (fun (g : Nat) (W : World) (hW : Crs W g c [] a v) => stop_any g c hc [] a v W hW (by simp) hv)
  have hB : Below w.heap.size w (w.alloc (.cells #[iv c.len, iv c.acc, iv c.brk, iv c.rate, iv c.del] 23)) := (Below.refl _ w).alloc (Nat.le_refl _) _
  have HX := Lib.hid (BoxAt.new w 23 #[iv c.len, iv c.acc, iv c.brk, iv c.rate, iv c.del])
  clear hc hv
  go_enter Try.func22, Try.ntmps22
  go_wp2_with (first
    | (go_at_call 8; (with_reducible refine (HC.out _).mono ?_); rintro e w1 ⟨rfl, hb1⟩; have hb2 := below_step hB hb1; obtain ⟨_, c0, c1, c2, c3, c4, l0⟩ := boxC HX.out hb1; have HK1 := Lib.hid (HK.out w1); have hs1 := hb2.size)
    | (go_at_call 35; (with_reducible refine (HS.out _ _ HK1.out).mono ?_); rintro e w2 ⟨rfl, n, hn, hk2, hb3⟩; obtain ⟨sv, hx2, hr2⟩ := hk2.lies; obtain ⟨A, cap, hsv⟩ := own_form hr2; subst hsv; have d5 := hx2.cell 5; have l2 := hx2.lt))
  go_ret
  rw [List.nil_append] at hr2
  rw [rmps_len] at hr2
  exact ⟨n, A, cap, hn, by simp [rmps_len], own_cap hr2, num_row hr2, hb2.trans ((((Below.refl _ w1).alloc (by omega) _)).trans (hb3.mono hs1))⟩
/-- What a profile has before its stop. -/
def prf (c : Car) (q : List Int) (last : Int) (up hold : Nat) : List Int :=
  q.take 5 ++ rmps c c.acc up (lst last (q.take 5)) ++ rmps c 0 hold (lst last (q.take 5 ++ rmps c c.acc up (lst last (q.take 5))))
end Go.Proofs.Ytcoccfijikiamaa
