/- Rule. -/
import Derived.Test.YtnpnfdnaglcnfaaDoorPrt
import Derived.Test.YtnpnfdnaglcnfaaDoorChk
namespace Go.Proofs.YtnpnfdnaglcnfaaDoor
open Go.RowKit Go.Shelf

theorem part_all (w0 : World) (Bx : Nat) (A : Option Addr) (cap : Nat) (l : List Int) (width most : Int) (hp : NP w0 Bx A l) (hw1 : 1 ≤ width) (hw2 : width ≤ 12) (hm1 : 0 ≤ most) (hm2 : most ≤ 20) : ∀ d, d ≤ 3 → PC w0 Bx A cap l width most d
  | 0, hd => part_any w0 Bx A cap l width most hp hw1 hw2 hm1 hm2 0 hd (fun d' h => by omega)
  | d + 1, hd => part_any w0 Bx A cap l width most hp hw1 hw2 hm1 hm2 (d + 1) hd (fun d' h => by
      obtain rfl : d = d' := by omega
      exact part_all w0 Bx A cap l width most hp hw1 hw2 hm1 hm2 d (by omega))
set_option maxHeartbeats 1000000 in
/-- A formula made of numbers. -/
theorem rule_any (A : Option Addr) (cap : Nat) (l : List Int) (width most : Int) (w : World) (hl : l.length ≤ 9223372036854775807) (hA : NumL w A l) (hw1 : 1 ≤ width) (hw2 : width ≤ 12) (hm1 : 0 ≤ most) (hm2 : most ≤ 20) :
    Calls Tryd.prog 27 #[.slice A l.length cap, iv width, iv most] w fun e w' => ∃ (x : Fm) (A' : Option Addr) (c' : Nat), (x.wf ∧ x.ok width ∧ x.hor ≤ most * 3 ∧ x.flat.length ≤ 15) ∧ e = .returned (.slice A' x.flat.length c') ∧ NdsL w' A' x.flat ∧ Below w.heap.size w w' := by
  have hP := part_all w w.heap.size A cap l width most ⟨Nat.le_refl _, hA, hl⟩ hw1 hw2 hm1 hm2 3 (Nat.le_refl _) (w.alloc (.cells #[.slice A l.length cap, iv 0] 93)) (.slice none 0 0) [] 0 3 rfl rfl
    ⟨⟨0, Nat.zero_le _, BoxAt.new w 93 _⟩, (Below.refl _ w).alloc (Nat.le_refl _) _⟩ (World.ownsRow_nil _ _ _ _) (by decide)
  have HP := Lib.hid hP
  clear hP hA
  generalize l.length = N at *
  go_enter Tryd.func27, Tryd.ntmps27
  go_wp2_with (go_at_call 52; (with_reducible refine HP.out.mono ?_); rintro e w9 hpo; obtain ⟨K9, A9, c9, x9, rfl, hx, hk1, hk2, hn, hr⟩ := hpo.form2)
  go_ret
  rw [List.nil_append] at hr hk2
  obtain ⟨h1, h2, h3, h4⟩ := hx
  subst hk2
  have h5 : x9.flat.length ≤ 15 := by omega
  exact ⟨x9, A9, c9, ⟨h1, h2, h3, h5⟩, rfl, nds_own hr, hn.2⟩
end Go.Proofs.YtnpnfdnaglcnfaaDoor
