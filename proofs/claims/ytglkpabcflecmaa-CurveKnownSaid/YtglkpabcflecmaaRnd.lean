/- A region that draws its order, inside a round of a range over a function: the plain laws on its operations serve there too, where it only goes on. -/
import Derived.Test.YtglkpabcflecmaaLen
import Derived.Deep.RegionHeld3
import Derived.RangeFuncCalls
import Derived.OrdersIn
import Derived.StillTailTactics
namespace Go.Proofs.Ytglkpabcflecmaa
open Go.RowKit

/-- It goes on, and K holds. -/
def OnlyK (K : Act → World → Prop) : Exit → Act → World → Prop
  | .normal, a, w => K a w
  | _, _, _ => False
/-- No operation is a defer statement. -/
def noDefer (ops : Array Oper) : Bool := ops.all fun o => match o.op with | .defer _ => false | _ => true
theorem noDefer_spec {ops : Array Oper} (h : noDefer ops = true) {i : Nat} {o : Oper} (ho : ops[i]? = some o) : ∀ c, o.op ≠ .defer c := fun c hc => by
  have hm : o ∈ ops := Array.mem_of_getElem? ho
  have := (Array.all_eq_true'.1 h) o hm
  rw [hc] at this
  cases this

theorem rowsIn_wide {n : Nat} {P : Program} {row : String} {args : Array Value} {w : World} {R : Value → World → Prop} (l : Nat) (h : Rows P row args w R) : RowsIn (Fence.wide.inRound l) n P row args w R :=
  fun c cs _ => let ⟨v, w', r, s⟩ := h c cs; ⟨v, w', r, (stepsIn_wide (P := P)).2 s⟩

theorem wpOpIn_of {P : Program} {ops : Array Oper} {K N : Act → World → Prop} {Q : Exit → Act → World → Prop} {i l n : Nat} {a : Act} {w : World} (hd : noDefer ops = true)
    (h : wpOp P ops (OnlyK K) i N a w) : wpOpIn (Fence.wide.inRound l) n P ops Q i N a w := by
  unfold wpOp at h
  unfold wpOpIn
  cases ho : ops[i]? with
  | none => simpa [ho] using h
  | some o =>
    simp only [ho] at h ⊢
    by_cases hw : Region.wanted o (yielded ops a.tmps) = true
    · simp only [hw, if_true] at h ⊢
      rcases h with h | ⟨_, a', w', hf⟩
      · unfold Oper.wp at h
        unfold Oper.wpIn
        rw [Oper.semAt_eq _ _ _ (noDefer_spec hd ho)]
        refine ⟨fun _ _ => trivial, ?_⟩
        generalize (execOp a.eval o).run P w = r at *
        cases r with
        | ok x w' =>
          cases x <;> simp only [Oper.upon, Oper.uponIn] at h ⊢
          case value u => exact h
          case skip => exact h
          case defer d => exact h
          case enter f args =>
            refine ⟨fun hh => (by cases hh), CallsIn.inRound l (callsIn_wide.2 (Calls.mono h fun e w'' he => ?_))⟩
            cases e with
            | returned u => exact he
            | panicked c => exact (he : False).elim
            | outgrown => obtain ⟨_, _, hf⟩ := he; exact (hf : False).elim
          case row row args => exact ⟨fun hh => (by cases hh), rowsIn_wide l h⟩
        | halt x w' =>
          cases x <;> simp only [Oper.upon, Oper.uponIn] at h ⊢
          case panic u => exact (h : False).elim
      · exact (hf : False).elim
    · simp only [hw] at h ⊢
      exact ⟨fun _ _ => trivial, h⟩

theorem wpAnyIn_of {P : Program} {ops : Array Oper} {K : Act → World → Prop} {Q : Exit → Act → World → Prop} {l n : Nat} (hd : noDefer ops = true) (hQ : ∀ a w, K a w → Q .normal a w) :
    ∀ (fuel : Nat) (listed : Array Bool) (a : Act) (w : World), wpAny P .any ops (OnlyK K) fuel listed a w → wpAnyIn (Fence.wide.inRound l) n P .any ops Q fuel listed a w
  | 0, _, _, _, h => ⟨h.1, hQ _ _ h.2⟩
  | fuel + 1, _, _, _, h => ⟨fun hr => hQ _ _ (h.1 hr), fun i hi => wpOpIn_mono (fun a' w' h' => wpAnyIn_of hd hQ fuel _ a' w' h') (wpOpIn_of hd (h.2 i hi))⟩

/-- **A region that draws, in a round: by the plain laws that keep S.** -/
theorem round_held {P : Program} {ops : Array Oper} {Q : Exit → Act → World → Prop} {S : World → Prop} {l n id : Nat} {a : Act} {w : World} (hm : P.follows .mixedOrders = true) (hd : noDefer ops = true) (hS : S w.drew)
    (h : S w.drew → wpAnyH P .any ops (OnlyK (Q .normal)) S ops.size (Array.replicate ops.size false) a w.drew) : (Code.region id ops true).wpIn (Fence.wide.inRound l) n P Q a w :=
  wpIn_region_any hm (wpAnyIn_of hd (fun _ _ h => h) _ _ _ _ (wpAny_of_held _ _ _ _ (h hS)))
theorem OnlyK.normal {K : Act → World → Prop} {a : Act} {w : World} (h : K a w) : OnlyK K .normal a w := h

/-- **A region that draws, in a round: all operations but the last ones only read.** -/
theorem round_still_tail {P : Program} {id r m : Nat} {Q : Exit → Act → World → Prop} {a : Act} {w : World} {l : List Oper} (n : Nat) (hm : P.follows .mixedOrders = true) (hd : noDefer l.toArray = true) (hB : Region.lexTailB .any l.toArray n = true)
    (h : wpStill P l.toArray w.drew (fun a' => wpList P l.toArray (OnlyK (Q .normal)) (l.drop n) a' w.drew) (l.take n) a) : (Code.region id l.toArray true).wpIn (Fence.wide.inRound r) m P Q a w := by
  simp only [Region.lexTailB, Bool.and_eq_true, decide_eq_true_eq] at hB
  obtain ⟨⟨⟨⟨hsel, hn⟩, hs⟩, hc⟩, hlex⟩ := hB
  have hn' : n < l.length := by simpa using hn
  have htl : (l.take n).length = n := by simp; omega
  have hdl : (l.drop n).length = l.toArray.size - n := by simp
  have inv0 : HeadInv .any l.toArray n (Array.replicate l.toArray.size false) :=
    ⟨by simp, fun j oj _ hl => (by rw [getD_replicate_false] at hl; cases hl), fun t _ ht => getD_in (by simpa using ht) (getD_replicate_false _ _)⟩
  have H := wpAnyL_lex (md := .any) (g := l.toArray.size - n) hsel hs hc hn (l.take n) 0 _ a (fun j hj => by
    have hj' : j < n := by rw [htl] at hj; exact hj
    simp [hj']) (by simpa using htl) inv0 (by rw [htl]; exact hlex) h
  refine wpIn_region_any hm (wpAnyIn_of hd (fun _ _ h => h) _ _ _ _ ?_)
  have := wpAny_of_head (Q' := OnlyK (Q .normal)) (g := l.toArray.size - n) (fun listed a' hL => by
    have := wpAny_of_seq (md := .any) (Q' := OnlyK (Q .normal)) (l.drop n) n listed a' w.drew (fun j => by simp [List.getElem?_drop]) (by rw [hdl]; exact hL.1) hL.2
    rwa [hdl] at this) _ _ _ H
  rw [htl, show n + (l.toArray.size - n) = l.toArray.size by omega] at this
  exact this
theorem max_sem (s t : Int) (w : World) : (Builtin.max_ #[2, 2] 2 #[.int .i64 s, .int .i64 t]).run Try.prog w = .ok (.int .i64 (max s t)) w := by
  by_cases h : s < t
  · have e : max s t = t := by omega
    rw [e]
    have h2 : ¬ t ≤ s := by omega
    go_simp
    all_goals (first | rfl | (intro _; omega))
  · have e : max s t = s := by omega
    rw [e]
    have h2 : t ≤ s := by omega
    go_simp
    all_goals (first | rfl | (intro _; omega))
theorem min_sem (s t : Int) (w : World) : (Builtin.min_ #[2, 2] 2 #[.int .i64 s, .int .i64 t]).run Try.prog w = .ok (.int .i64 (min s t)) w := by
  by_cases h : s < t
  · have e : min s t = s := by omega
    rw [e]
    have h2 : ¬ t ≤ s := by omega
    go_simp
    all_goals (first | rfl | (intro _; omega))
  · have e : min s t = t := by omega
    rw [e]
    have h2 : t ≤ s := by omega
    go_simp
    all_goals (first | rfl | (intro _; omega))
theorem max_run {o : Oper} (a : Act) (x y : Operand) (s t : Int) (ho : o.op = .call { callee := .builtin .max, args := #[x, y], argTypes := #[2, 2] }) (ht : o.type = 2) (hx : a.eval x = .int .i64 s) (hy : a.eval y = .int .i64 t) (w : World) :
    (execOp a.eval o).run Try.prog w = .ok (.value (.int .i64 (max s t))) w := by
  unfold execOp
  simp only [ho, ht, resolve, invoke, builtin, Sem.run_bind, Sem.run_pure, Result.andThen_ok, List.map_toArray, List.map_cons, List.map_nil, hx, hy, max_sem]
theorem min_run {o : Oper} (a : Act) (x y : Operand) (s t : Int) (ho : o.op = .call { callee := .builtin .min, args := #[x, y], argTypes := #[2, 2] }) (ht : o.type = 2) (hx : a.eval x = .int .i64 s) (hy : a.eval y = .int .i64 t) (w : World) :
    (execOp a.eval o).run Try.prog w = .ok (.value (.int .i64 (min s t))) w := by
  unfold execOp
  simp only [ho, ht, resolve, invoke, builtin, Sem.run_bind, Sem.run_pure, Result.andThen_ok, List.map_toArray, List.map_cons, List.map_nil, hx, hy, min_sem]
theorem step_max {ops : Array Oper} {o : Oper} {a : Act} {K : Act → World → Prop} {Q : Exit → Act → World → Prop} {E : Prop} {w : World} (hgd : o.guard = none) (x y : Operand) (s t : Int)
    (ho : o.op = .call { callee := .builtin .max, args := #[x, y], argTypes := #[2, 2] }) (ht : o.type = 2) (hx : a.eval x = .int .i64 s) (hy : a.eval y = .int .i64 t) (h : K (a.put o.dst (.int .i64 (max s t))) w) :
    if Region.wanted o (yielded ops a.tmps) = true then Oper.wp Try.prog o a w K Q else E := by
  have hw : Region.wanted o (yielded ops a.tmps) = true := by simp [Region.wanted, hgd]
  rw [if_pos hw]
  unfold Oper.wp
  rw [max_run a x y s t ho ht hx hy w]
  exact h
theorem step_min {ops : Array Oper} {o : Oper} {a : Act} {K : Act → World → Prop} {Q : Exit → Act → World → Prop} {E : Prop} {w : World} (hgd : o.guard = none) (x y : Operand) (s t : Int)
    (ho : o.op = .call { callee := .builtin .min, args := #[x, y], argTypes := #[2, 2] }) (ht : o.type = 2) (hx : a.eval x = .int .i64 s) (hy : a.eval y = .int .i64 t) (h : K (a.put o.dst (.int .i64 (min s t))) w) :
    if Region.wanted o (yielded ops a.tmps) = true then Oper.wp Try.prog o a w K Q else E := by
  have hw : Region.wanted o (yielded ops a.tmps) = true := by simp [Region.wanted, hgd]
  rw [if_pos hw]
  unfold Oper.wp
  rw [min_run a x y s t ho ht hx hy w]
  exact h
end Go.Proofs.Ytglkpabcflecmaa
