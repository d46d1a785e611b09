/- An append of any row of numbers; slices.Clone; tails. -/
import Derived.Test.YtcoccfijikiamaaCm2
import Derived.Maps.AppendAt
import Derived.Laws.OwnMore
namespace Go.Proofs.Ytcoccfijikiamaa
open Go.RowKit Go.Shelf

/-- A slice's address, where it is nil, comes with no room. -/
def Nil0 (A : Option Addr) (cap : Nat) : Prop := A = none → cap = 0
theorem app_nums (W : World) (base : Nat) (v : Value) (n : Nat) (xs : List Value) (ho : W.ownsRow base 2 1 v n xs) (A : Option Addr) (cap : Nat) (l : List Int) (hA : NumL W A l) (hn : Nil0 A cap) (hb : base ≤ W.heap.size) (h63 : n + l.length ≤ 10000000) :
    ∃ v' w', (Builtin.append_ #[24, 24] 24 #[v, .slice A l.length cap]).run Try.prog W = .ok v' w' ∧ w'.ownsRow base 2 1 v' (n + l.length) (xs ++ l.map fun x => iv x) ∧ W.grownBy w' v.ownBlock := by
  obtain ⟨i, hi, hz, hsz, hby⟩ := info_parts inf2
  cases A with
  | none =>
    obtain rfl := hn rfl
    have hl : l = [] := by
      rcases Nat.eq_zero_or_pos l.length with h | h
      · exact List.length_eq_zero_iff.1 h
      · obtain ⟨b, off, e, _⟩ := hA h; cases e
    subst hl
    exact ⟨v, W, run_append_owned_none (P := Try.prog) (w := W) base 24 24 2 i 1 Try.underlying24 hi v n xs ho, by simpa using ho, World.grownBy.refl W _⟩
  | some a =>
    have hnews : ∀ j u, (l.map fun x => iv x)[j]? = some u → W.cell? (a.add j) = some u := fun j u hu => by
      have hj := (List.getElem?_eq_some_iff.1 hu).1
      rw [List.length_map] at hj
      obtain ⟨b, off, e, hp⟩ := hA (by omega)
      cases e
      exact num_cells hp j u hu
    obtain ⟨v', w', h1, h2, h3, _⟩ := run_append_own_at (P := Try.prog) (w := W) base 24 24 2 i _ 1 8 Try.underlying24 hi hz hsz hby rfl (by decide) v n xs ho a l.length cap (l.map fun x => iv x) (by simp) hnews (one_num l) (by unfold maxLen; omega) (by omega) hb
    exact ⟨v', w', h1, h2, h3⟩
theorem wpList_app_run {P : Program} {w w' : World} {ops : Array Oper} {rest : List Oper} {o : Oper} {a : Act} {Q : Exit → Act → World → Prop} (hgd : o.guard = none) (s x : Operand)
    (ho : o.op = .call { callee := .builtin .append, args := #[s, x], argTypes := #[24, 24] }) (hty : o.type = 24) {v v' u : Value} (hs : a.eval s = v) (hx : a.eval x = u)
    (hrun : (Builtin.append_ #[24, 24] 24 #[v, u]).run P w = .ok v' w') (h : wpList P ops Q rest (a.put o.dst v') w') : wpList P ops Q (o :: rest) a w := by
  refine wpList_plain hgd fun K hK => ?_
  unfold Oper.wp
  simp [execOp, ho, hty, resolve, invoke, builtin, hs, hx, hrun, Result.andThen]
  exact hK _ _ h

theorem nums_drop {w : World} {b off : Nat} {L : List Int} (h : NumL w (some ⟨b, off, none⟩) L) : NumL w (some ⟨b, off + 1, none⟩) (L.drop 1) := fun hn => by
  obtain ⟨b', off', e, hp⟩ := h (by rw [List.length_drop] at hn; omega)
  obtain ⟨rfl, rfl⟩ : b = b' ∧ off = off' := by simpa using e
  refine ⟨b, off + 1, rfl, fun i x hi => ?_⟩
  rw [List.getElem?_drop] at hi
  have := hp (1 + i) x hi
  rwa [← Nat.add_assoc] at this
set_option maxRecDepth 100000 in
set_option maxHeartbeats 4000000 in
theorem clone_any (A : Option Addr) (cap : Nat) (l : List Int) (w : World) (hA : NumL w A l) (hn : Nil0 A cap) (hl : l.length ≤ 1000000) :
    Calls Try.prog 32 #[.slice A l.length cap] w fun e w' => ∃ v, e = .returned v ∧ w'.ownsRow w.heap.size 2 1 v l.length (l.map fun x => iv x) ∧ Below w.heap.size w w' := by
  have hE : (w.alloc (.cells #[] 2)).ownsRow w.heap.size 2 1 (.slice (some ⟨w.heap.size, 0, none⟩) 0 0) 0 [] := World.ownsRow_made w #[] 0 (Nat.le_refl _) (by decide) rfl
  have hBa : Below w.heap.size w (w.alloc (.cells #[] 2)) := (Below.refl _ w).alloc (Nat.le_refl _) _
  obtain ⟨v', w', h1, h2, h3⟩ := app_nums _ w.heap.size _ 0 [] hE A cap l (hA.below hBa) hn (by simp) (by omega)
  have HR := Lib.hid h1
  have HO := Lib.hid h2
  have HB : Hid (Below w.heap.size w w') := Lib.hid (hBa.grown h3 hBa.size (fun j e => (hE.lt j e).1))
  rw [Nat.zero_add, List.nil_append] at HO
  clear h1 h2 h3 hBa hE
  cases A with
  | none =>
    have hl0 : l = [] := by
      rcases Nat.eq_zero_or_pos l.length with h | h
      · exact List.length_eq_zero_iff.1 h
      · obtain ⟨b, off, e, _⟩ := hA h; cases e
    obtain rfl := hn rfl
    subst hl0
    clear HR HO HB hA hn
    have heq : ∀ W, Sem.run Try.prog (binOp BinOp.eql 24 (Value.slice none 0 0) (Value.slice none 0 0)) W = .ok (.bool true) W := fun W => by kernel_rfl
    go_enter Try.func32, Try.ntmps32
    go_wp2
    go_ret
    exact ⟨_, rfl, World.ownsRow_nil _ _ _ _, Below.refl _ _⟩
  | some a =>
    have heq : ∀ W, Sem.run Try.prog (binOp BinOp.eql 24 (Value.slice (some a) l.length cap) (Value.slice none 0 0)) W = .ok (.bool false) W := fun W => by kernel_rfl
    generalize l.length = N at *
    go_enter Try.func32, Try.ntmps32
    go_wp2_with (at_builtin; refine wpList_app_run rfl _ _ rfl rfl rfl rfl HR.out ?_)
    go_ret
    exact ⟨v', rfl, HO.out, HB.out⟩
end Go.Proofs.Ytcoccfijikiamaa
