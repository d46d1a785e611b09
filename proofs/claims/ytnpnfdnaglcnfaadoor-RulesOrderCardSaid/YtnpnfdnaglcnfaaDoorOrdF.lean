/- RulesOrder: what its second half knows of three laws and three traces. -/
import Derived.Test.YtnpnfdnaglcnfaaDoorOw7
namespace Go.Proofs.YtnpnfdnaglcnfaaDoor
open Go.RowKit Go.Shelf

set_option maxRecDepth 100000 in
set_option maxHeartbeats 4000000 in
theorem Costs_ok2 (A : Option Addr) (cap : Nat) (bs : List (Nat × List Nd)) (B : Option Addr) (cb : Nat) (t : List (List Int)) (w : World) (hA : LawsL w A bs) (hb : BkOk bs) (hB : RowsL w B t) (ht : trE t 2 = 0) (hsh : Short t) :
    Calls Tryd.prog 34 #[.slice A bs.length cap, iv 2, .slice B t.length cb] w fun e w' => ∃ g, w.heap.size ≤ g ∧ e = .returned (.tuple #[.slice (some ⟨g, 0, none⟩) 10 10, iv 0]) ∧ NumL w' (some ⟨g, 0, none⟩) (cstL t bs) ∧ Below w.heap.size w w' := by
  have HC := Lib.hid (costs_ok A cap bs B cb t w hA hb hB ht hsh)
  have hlk := cstL_len t bs
  generalize cstL t bs = l at *
  obtain ⟨x0, x1, x2, x3, x4, x5, x6, x7, x8, x9, rfl⟩ := arr10 l hlk
  simp only [List.map_cons, List.map_nil] at HC
  generalize bs.length = M at *
  generalize t.length = T at *
  clear hA hb hB ht hsh hlk
  go_enter Tryd.func34, Tryd.ntmps34
  go_wp2_with (go_at_call 61; (with_reducible refine HC.out.mono ?_); rintro e w1 ⟨rfl, hb1⟩)
  have hx : TenAt (w1.alloc (.cells #[iv x0, iv x1, iv x2, iv x3, iv x4, iv x5, iv x6, iv x7, iv x8, iv x9] 102)) w1.heap.size [x0, x1, x2, x3, x4, x5, x6, x7, x8, x9] := BoxAt.new w1 102 #[iv x0, iv x1, iv x2, iv x3, iv x4, iv x5, iv x6, iv x7, iv x8, iv x9]
  have hb2 := hb1.alloc hb1.size (.cells #[iv x0, iv x1, iv x2, iv x3, iv x4, iv x5, iv x6, iv x7, iv x8, iv x9] 102)
  exact bodyPost_ret (v := .tuple #[.slice (some ⟨w1.heap.size, 0, none⟩) 10 10, iv 0]) (by simp [results, Tryd.results34, go_sem]) rfl ⟨w1.heap.size, hb1.size, rfl, ten_num hx, hb2⟩
structure Fx (wo : World) (Ao : Option Addr) (co b off : Nat) (TC : Nat → Value) (V : Nat → List Int) (cF : Nat → Nat → Int) : Prop where
  cell : ∀ i, i < 3 → ∀ W, Below wo.heap.size wo W → W.cell? ⟨b, off + i, none⟩ = some (TC i)
  cost : ∀ i, i < 3 → ∀ W, Below wo.heap.size wo W → Calls Tryd.prog 34 #[.slice Ao 3 co, iv 2, TC i] W fun e w' => ∃ g, W.heap.size ≤ g ∧ e = .returned (.tuple #[.slice (some ⟨g, 0, none⟩) 10 10, iv 0]) ∧ NumL w' (some ⟨g, 0, none⟩) (V i) ∧ Below W.heap.size W w'
  zero : ∀ i, i < 3 → ∀ W, Below wo.heap.size wo W → Calls Tryd.prog 35 #[.slice Ao 3 co, iv 2, .slice none 0 0, TC i] W fun e w' => ∃ z, e = .returned (.tuple #[iv z, iv 0]) ∧ z ≤ 0 ∧ Below W.heap.size W w'
  bet : ∀ i j, i < 3 → j < 3 → ∀ W, Below wo.heap.size wo W → Calls Tryd.prog 35 #[.slice Ao 3 co, iv 2, TC i, TC j] W fun e w' => e = .returned (.tuple #[iv (cF i j), iv 0]) ∧ Below W.heap.size W w'
  long : ∀ i j W A B, NumL W A (V i) → NumL W B (V j) → Calls Tryd.prog 26 #[.slice A 10 10, .slice B 10 10] W fun e w' => e = .returned (.bool (decide (cF i j = 0))) ∧ Below W.heap.size W w'
  neg : ∀ i j, cF j i = -cF i j
  pm : ∀ i j, cF i j = -1 ∨ cF i j = 0 ∨ cF i j = 1
  trans : ∀ i j k, cF i j ≤ 0 → cF j k ≤ 0 → cF i k ≤ 0
theorem trE_nil : trE [] 2 = 0 := by decide
theorem rows_nil (w : World) (A : Option Addr) : RowsL w A [] := fun h => absurd h (by simp)
theorem fx_of {wo : World} {Ao Bo : Option Addr} {co : Nat} {bs : List (Nat × List Nd)} {ts : List (List (List Int))} (hb : bs.length = 3) (hb2 : ∀ p ∈ bs, p.1 ≤ 9 ∧ chkE p.2 2 = 0) (ht : ts.length = 3) (ht2 : ∀ t ∈ ts, trE t 2 = 0 ∧ Short t) (hL : LawsL wo Ao bs) (hT : TrsL wo Bo ts) :
    ∃ b off TC V cF, Bo = some ⟨b, off, none⟩ ∧ Fx wo Ao co b off TC V cF := by
  have hk : BkOk bs := ⟨by omega, hb2⟩
  obtain ⟨b, off, e, hp⟩ := hT (by omega)
  have hi : ∀ i, i < 3 → ts[i]? = some (ts.getD i []) := fun i h => by
    rw [List.getD_eq_getElem?_getD, List.getElem?_eq_getElem (by omega)]; rfl
  have hm : ∀ i, i < 3 → ts.getD i [] ∈ ts := fun i h => List.mem_of_getElem? (hi i h)
  obtain ⟨f, hf⟩ := Classical.axiomOfChoice (r := fun (i : Nat) (q : Option Addr × Nat) => i < 3 → wo.cell? ⟨b, off + i, none⟩ = some (.slice q.1 (ts.getD i []).length q.2) ∧ RowsL wo q.1 (ts.getD i [])) (fun i => by
    by_cases h : i < 3
    · obtain ⟨C, c, h1, h2⟩ := hp i _ (hi i h)
      exact ⟨(C, c), fun _ => ⟨h1, h2⟩⟩
    · exact ⟨(none, 0), fun h' => absurd h' h⟩)
  have hlen : ∀ i, (cstL (ts.getD i []) bs).length = 10 := fun i => cstL_len _ _
  refine ⟨b, off, fun i => .slice (f i).1 (ts.getD i []).length (f i).2, fun i => cstL (ts.getD i []) bs, fun i j => cmpL (cstL (ts.getD i []) bs) (cstL (ts.getD j []) bs), e, ?_⟩
  constructor
  · exact fun i h W hW => (hW.cell (p := ⟨b, off + i, none⟩) (World.block_lt_of_cell? wo _ (hf i h).1)).trans (hf i h).1
  · intro i h W hW
    have h1 := Costs_ok2 Ao co bs (f i).1 (f i).2 (ts.getD i []) W (hL.below hW) hk ((hf i h).2.below hW) (ht2 _ (hm i h)).1 (ht2 _ (hm i h)).2
    rwa [hb] at h1
  · intro i h W hW
    have h1 := Better_ok Ao co bs none 0 [] (f i).1 (f i).2 (ts.getD i []) W (hL.below hW) hk (rows_nil _ _) trE_nil (fun r hr => by cases hr) ((hf i h).2.below hW) (ht2 _ (hm i h)).1 (ht2 _ (hm i h)).2
    rw [hb] at h1
    exact h1.mono fun e w' ⟨h2, h3⟩ => ⟨_, h2, cmpL_least _ _ (cstL_nil bs) (fun x hx => (cstL_in _ _ x hx).1), h3⟩
  · intro i j h h' W hW
    have h1 := Better_ok Ao co bs (f i).1 (f i).2 (ts.getD i []) (f j).1 (f j).2 (ts.getD j []) W (hL.below hW) hk ((hf i h).2.below hW) (ht2 _ (hm i h)).1 (ht2 _ (hm i h)).2 ((hf j h').2.below hW) (ht2 _ (hm j h')).1 (ht2 _ (hm j h')).2
    rwa [hb] at h1
  · intro i j W A B hA hB
    have h1 := longs_any A 10 _ B 10 _ W (by rw [hlen]; decide) (by rw [hlen]; decide) hA hB
    rw [hlen, hlen] at h1
    have e2 : decide (cstL (ts.getD i []) bs = cstL (ts.getD j []) bs) = decide (cmpL (cstL (ts.getD i []) bs) (cstL (ts.getD j []) bs) = 0) := decide_eq_decide.2 (cmpL_zero _ _ ((hlen i).trans (hlen j).symm)).symm
    rwa [e2] at h1
  · exact fun i j => cmpL_neg _ _
  · exact fun i j => cmpL_pm _ _
  · exact fun i j k => cmpL_trans _ _ _ ((hlen i).trans (hlen j).symm) ((hlen j).trans (hlen k).symm)
/-- Nine numbers in a block. -/
def Nine (w : World) (g : Nat) (M : Nat → Nat → Int) : Prop := BoxAt w g 72 #[iv (M 0 0), iv (M 0 1), iv (M 0 2), iv (M 1 0), iv (M 1 1), iv (M 1 2), iv (M 2 0), iv (M 2 1), iv (M 2 2)]
theorem Nine.set {w : World} {g : Nat} {M : Nat → Nat → Int} (h : Nine w g M) (i j : Nat) (hi : i < 3) (hj : j < 3) (x : Int) : Nine (w.setCell ⟨g, i * 3 + j, none⟩ (iv x)) g (fun a b => if a = i ∧ b = j then x else M a b) := by
  have h2 := BoxAt.set h (i * 3 + j) (iv x)
  unfold Nine
  rcases i with _ | _ | _ | i
  · rcases j with _ | _ | _ | j
    · exact h2
    · exact h2
    · exact h2
    · omega
  · rcases j with _ | _ | _ | j
    · exact h2
    · exact h2
    · exact h2
    · omega
  · rcases j with _ | _ | _ | j
    · exact h2
    · exact h2
    · exact h2
    · omega
  · omega
theorem NumL.set {w : World} {A : Nat} {l : List Int} (h : NumL w (some ⟨A, 0, none⟩) l) {g : Nat} (hne : A ≠ g) (i : Nat) (v : Value) : NumL (w.setCell ⟨g, i, none⟩ v) (some ⟨A, 0, none⟩) l := fun hn => by
  obtain ⟨b, off, e, hp⟩ := h hn
  obtain ⟨rfl, rfl⟩ : A = b ∧ 0 = off := by simpa using e
  refine ⟨A, 0, rfl, fun k x hk => ?_⟩
  have h1 := hp k x hk
  have h2 : (w.setCell ⟨g, i, none⟩ v).heap[A]? = w.heap[A]? := Below.heap_setCell w _ v A hne
  unfold World.cell? at h1 ⊢
  rw [h2]
  exact h1
end Go.Proofs.YtnpnfdnaglcnfaaDoor
