/- 'bent', 'awake'. -/
import Derived.Test.YtglkpabcflecmaaAwake
namespace Go.Proofs.Ytglkpabcflecmaa
open Go.RowKit Go.Shelf

def BX (i : Nat) : Int := if i = 0 then 0 else if i = 1 then 3000 else 8000
def BY (i : Nat) : Int := if i = 0 then 0 else 4000
def crvB : Crv := ⟨3, BX, BY⟩
def CX (i : Nat) : Int := if i = 0 then 0 else 1000
def crvC : Crv := ⟨2, CX, CX⟩

theorem B_len0 : crvB.len 0 = 5000 := isqI_uniq (by decide) (by decide) (by decide)
theorem B_len1 : crvB.len 1 = 5000 := isqI_uniq (by decide) (by decide) (by decide)
theorem C_len0 : crvC.len 0 = 1414 := isqI_uniq (by decide) (by decide) (by decide)
theorem B_ok : crvB.AllOk := by
  intro i hi
  have : i = 0 ∨ i = 1 ∨ i = 2 := by simp only [crvB] at hi; omega
  rcases this with rfl | rfl | rfl <;> simp [crvB, BX, BY, okc]
theorem C_ok : crvC.AllOk := by
  intro i hi
  have : i = 0 ∨ i = 1 := by simp only [crvC] at hi; omega
  rcases this with rfl | rfl <;> simp [crvC, CX, okc]
theorem B_good : Good crvB := by
  refine ⟨by decide, by decide, B_ok, fun i hi => ?_⟩
  have : i = 0 ∨ i = 1 := by simp only [crvB] at hi; omega
  rcases this with rfl | rfl
  · unfold Crv.ferr Crv.perr; rw [B_len0]; decide
  · unfold Crv.ferr Crv.perr; rw [B_len1]; decide
theorem B_st : crvB.st 2 = 10000 := by show 0 + crvB.len 0 + crvB.len 1 = 10000; rw [B_len0, B_len1]; decide
theorem B_in : InPiece crvB 2500 0 := ⟨by decide, fun h => by omega, fun _ => by show 2500 < 0 + crvB.len 0; rw [B_len0]; decide⟩
theorem B_atX : atX crvB 2500 0 = 1500 := by unfold atX; rw [B_len0]; decide
theorem B_atY : atY crvB 2500 0 = 2000 := by unfold atY; rw [B_len0]; decide
theorem C_err : firstE crvC.ferr (crvC.n - 1) = 3 := by
  show (if firstE crvC.ferr 0 ≠ 0 then firstE crvC.ferr 0 else crvC.ferr 0) = 3
  have e : crvC.ferr 0 = 3 := by unfold Crv.ferr Crv.perr; rw [C_len0]; decide
  rw [e]; rfl

theorem of_bent (b : Nat) (w : World) (hb : BoxAt w b 2 #[.int .i64 0, .int .i64 0, .int .i64 3000, .int .i64 4000, .int .i64 8000, .int .i64 4000]) (cap : Nat) :
    Calls Try.prog 55 #[.slice (some ⟨b, 0, none⟩) 6 cap] w (OfPost 3 BX BY w) := by
  refine of_any b 3 6 cap BX BY w rfl (by decide) (by decide) (fun i hi => ?_) hb.lt
  have : i = 0 ∨ i = 1 ∨ i = 2 := by omega
  rcases this with rfl | rfl | rfl
  · exact ⟨hb.cell 0, hb.cell 1⟩
  · exact ⟨hb.cell 2, hb.cell 3⟩
  · exact ⟨hb.cell 4, hb.cell 5⟩
theorem of_right (b : Nat) (w : World) (hb : BoxAt w b 2 #[.int .i64 0, .int .i64 0, .int .i64 1000, .int .i64 1000]) (cap : Nat) :
    Calls Try.prog 55 #[.slice (some ⟨b, 0, none⟩) 4 cap] w (OfPost 2 CX CX w) := by
  refine of_any b 2 4 cap CX CX w rfl (by decide) (by decide) (fun i hi => ?_) hb.lt
  have : i = 0 ∨ i = 1 := by omega
  rcases this with rfl | rfl
  · exact ⟨hb.cell 0, hb.cell 1⟩
  · exact ⟨hb.cell 2, hb.cell 3⟩

theorem below_step {w W W1 : World} (h : Below w.heap.size w W) (hb : Below W.heap.size W W1) : Below w.heap.size w W1 := h.trans (hb.mono h.size)
theorem below_step2 {w W W1 : World} {o : Obj} (h : Below w.heap.size w W) (hb : Below (W.alloc o).heap.size (W.alloc o) W1) : Below w.heap.size w W1 :=
  below_step (h.alloc h.size o) hb

set_option maxRecDepth 100000 in
set_option maxHeartbeats 1000000 in
theorem bent_any (w : World) : Calls Try.prog 54 #[] w (OfPost 3 BX BY w) := by
  have hx := BoxAt.new (w.alloc (.cells #[.slice none 0 0] 24)) 2 #[.int .i64 0, .int .i64 0, .int .i64 3000, .int .i64 4000, .int .i64 8000, .int .i64 4000]
  rw [World.size_alloc] at hx
  have hr := (BoxAt.new w 24 #[.slice none 0 0]).alloc (.cells #[.int .i64 0, .int .i64 0, .int .i64 3000, .int .i64 4000, .int .i64 8000, .int .i64 4000] 2)
  have hB : Below w.heap.size w ((w.alloc (.cells #[.slice none 0 0] 24)).alloc (.cells #[.int .i64 0, .int .i64 0, .int .i64 3000, .int .i64 4000, .int .i64 8000, .int .i64 4000] 2)) := ((Below.refl _ w).alloc (Nat.le_refl _) _).alloc (by simp) _
  go_enter Try.func54, Try.ntmps54
  go_wp2_with (go_at_call 55; (with_reducible refine (of_bent _ _ hx _).mono ?_); rintro e w1 ⟨g, c', rfl, hp, hb1, hg⟩; have r1 : Hid (BoxAt w1 w.heap.size 24 #[.slice none 0 0]) := hr.below hb1 (by simp; omega); have r2 : w1.cell? ⟨w.heap.size, 0, none⟩ = some (.slice none 0 0) := BoxAt.cell r1.out 0; have r3 : w1.frozen? ⟨w.heap.size, 0, none⟩ = false := BoxAt.frozen r1.out 0)
  have hz := r1.out.set 0 (.slice (some ⟨g, 0, none⟩) 3 c')
  have z0 := hz.cell 0
  have e : ((#[Value.slice none 0 0] : Array Value).setIfInBounds 0 (.slice (some ⟨g, 0, none⟩) 3 c')) = #[.slice (some ⟨g, 0, none⟩) 3 c'] := rfl
  rw [e] at z0
  have hgne : g ≠ w.heap.size := by simp at hg; omega
  have hP2 : Pts (w1.setCell ⟨w.heap.size, 0, none⟩ (.slice (some ⟨g, 0, none⟩) 3 c')) g 0 3 BX BY := fun i hi => by
    have h1 := hp i hi
    have far : ∀ j, (w1.setCell ⟨w.heap.size, 0, none⟩ (.slice (some ⟨g, 0, none⟩) 3 c')).cell? ⟨g, j, none⟩ = w1.cell? ⟨g, j, none⟩ := fun j => World.cell?_of_block (Below.heap_setCell _ _ _ _ hgne)
    exact ⟨(far _).trans h1.1, (far _).trans h1.2⟩
  exact bodyPost_ret (v := cv g 0 3 c') (by simp [results, Try.results54, go_sem, z0]) rfl ⟨g, c', rfl, hP2, (below_step hB hb1).setCell (p := ⟨w.heap.size, 0, none⟩) (by simp) _, by simp at hg; omega⟩

theorem len_bent (g c' : Nat) (W : World) (hp : Pts W g 0 3 BX BY) : Calls Try.prog 22 #[cv g 0 3 c'] W fun e w' => e = .returned (.int .i64 10000) ∧ Below W.heap.size W w' := by
  have := length_good g 0 c' crvB B_good W hp
  rw [show crvB.st (crvB.n - 1) = 10000 from B_st] at this
  exact this
theorem at_bent (g c' : Nat) (W : World) (hp : Pts W g 0 3 BX BY) : Calls Try.prog 31 #[cv g 0 3 c', .int .i64 2500] W fun e w' => e = .returned (sp 1500 2000) ∧ Below W.heap.size W w' := by
  have := at_good g 0 c' crvB B_good 2500 0 B_in (by omega) (by omega) W hp
  rw [B_atX, B_atY] at this
  exact this
theorem check_right (g c' : Nat) (W : World) (hp : Pts W g 0 2 CX CX) : Calls Try.prog 20 #[cv g 0 2 c'] W fun e w' => e = .returned (.int .i64 3) ∧ Below W.heap.size W w' := by
  have := check_ok g 0 c' crvC (by decide) (by decide) C_ok W hp
  rw [C_err] at this
  exact this

set_option maxRecDepth 100000 in
set_option maxHeartbeats 1000000 in
/-- **The chapter's examples that every statement asks.** -/
theorem awake_any (w : World) : Calls Try.prog 18 #[] w fun e w' => e = .returned (.bool true) ∧ Below w.heap.size w w' := by
  have hB := Below.refl w.heap.size w
  go_enter Try.func18, Try.ntmps18
  go_wp2_with (first
    | (go_at_call 54; (with_reducible refine (bent_any _).mono ?_); rintro e w1 ⟨g, c', rfl, hp, hb1, hg⟩; replace hB := below_step hB hb1)
    | (go_at_call 22; (with_reducible refine (len_bent _ _ _ hp).mono ?_); rintro e w1 ⟨rfl, hb1⟩; replace hB := below_step hB hb1)
    | (go_at_call 31; (with_reducible refine (at_bent _ _ _ hp).mono ?_); rintro e w1 ⟨rfl, hb1⟩; replace hB := below_step hB hb1)
    | (go_at_call 55; (with_reducible refine (of_right _ _ (BoxAt.new _ 2 _) _).mono ?_); rintro e w1 ⟨g, c', rfl, hp, hb1, hg⟩; replace hB := below_step2 hB hb1)
    | (go_at_call 20; (with_reducible refine (check_right _ _ _ hp).mono ?_); rintro e w1 ⟨rfl, hb1⟩; replace hB := below_step hB hb1))
  go_ret
  exact ⟨rfl, hB⟩
#print axioms awake_any
end Go.Proofs.Ytglkpabcflecmaa
