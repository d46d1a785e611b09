/- slices.Compact of a row of points that the call owns. The spots of a cloud, each one once, in order. slices.Reverse of a row of points that the call owns. What going round finds, corner by corner. Plain mathematics. The iterator over the corners of a hull. -/
import Derived.Test.YtaehfildhmljeaaChn
import Derived.Laws.IdiomCopy
import Derived.Shelf.SlicesQ.Reverse
import Derived.Ground.SlgnProg
import Derived.RangeFuncNested
import Derived.RangeFuncBound
import Derived.RangeFuncCalls
import Derived.RangeFuncLeaves
import Derived.RangeFuncBox
import Derived.Shelf.Abstract
import Derived.Shelf.RegionOpen
import Derived.OwnWalkIn
import Derived.TacticsInMore
import Derived.LoopNIn
import Derived.LoopIn
namespace Go.Proofs.Ytaehfildhmljeaa
open Go.RowKit Go.Shelf

/-- Runs of equal points, each one once. -/
def cpL : List Pt → List Pt
  | [] => []
  | [a] => [a]
  | a :: b :: r => if a = b then cpL (b :: r) else a :: cpL (b :: r)
theorem cpL_snoc (x : Pt) : ∀ l : List Pt, cpL (l ++ [x]) = if l.getLast? = some x then cpL l else cpL l ++ [x] := by
  intro l
  induction l with
  | nil => rfl
  | cons a r ih =>
    cases r with
    | nil =>
      show cpL [a, x] = _
      simp only [cpL, List.getLast?_singleton, Option.some.injEq]
      split
      · rename_i h; rw [h]
      · rfl
    | cons b r =>
      rw [List.cons_append, List.cons_append, cpL, ← List.cons_append, ih, List.getLast?_cons_cons, cpL]
      split
      · rfl
      · split
        · rfl
        · rfl
theorem ptV_set (L : List Pt) (k : Nat) (x : Pt) : ((ptV L).set (k * 2) (.int .i64 x.1)).set (k * 2 + 1) (.int .i64 x.2) = ptV (L.set k x) := by
  induction L generalizing k with
  | nil => rfl
  | cons y r ih =>
    cases k with
    | zero => rfl
    | succ k =>
      have e := ih k
      rw [ptV_cons, show (k + 1) * 2 = k * 2 + 1 + 1 by omega]
      show Value.int .i64 y.1 :: Value.int .i64 y.2 :: ((ptV r).set (k * 2) (.int .i64 x.1)).set (k * 2 + 1) (.int .i64 x.2) = ptV (y :: r.set k x)
      rw [e]
      rfl
section
variable {w : World} {base g n cap : Nat} {e size : Nat}
/-- Stores behind what is owned. -/
theorem own_far {xs : List Value} : ∀ (vs : List Value) (o : Nat) (w : World), w.ownsRow base e size (.slice (some ⟨g, 0, none⟩) n cap) n xs → n * size ≤ o → (w.setCells g o vs).ownsRow base e size (.slice (some ⟨g, 0, none⟩) n cap) n xs ∧ w.grownBy (w.setCells g o vs) (some g) := by
  intro vs
  induction vs with
  | nil => intro o w h _; exact ⟨h, rfl, rfl, rfl, Nat.le_refl _, fun _ _ _ => rfl⟩
  | cons v r ih =>
    intro o w h ho
    obtain ⟨h1, h2⟩ := h.stored o v
    rw [List.set_eq_of_length_le (by rw [h.1]; exact ho)] at h1
    obtain ⟨h3, h4⟩ := ih (o + 1) _ h1 (by omega)
    refine ⟨h3, h4.os.trans h2.os, h4.tape.trans h2.tape, h4.output.trans h2.output, Nat.le_trans h2.size h4.size, fun k hk hne => (h4.block k (Nat.lt_of_lt_of_le hk h2.size) hne).trans (h2.block k hk hne)⟩
end
theorem run_clear2 {w : World} {base g n cap k c : Nat} {xs : List Value} (h : w.ownsRow base 24 2 (.slice (some ⟨g, 0, none⟩) n cap) n xs) (hk : k < n) (ty : TypeId) :
    ∃ w', (Builtin.clear_ #[56] ty #[.slice (some ⟨g, k * 2, none⟩) (n - k) c]).run Try.prog w = .ok (.tuple #[]) w' ∧ w'.ownsRow base 24 2 (.slice (some ⟨g, 0, none⟩) k cap) k (xs.take (k * 2)) ∧ w.grownBy w' (some g) := by
  have hv : ∀ w, (zeroValue 24).run Try.prog w = .ok (.agg #[.int .i64 0, .int .i64 0]) w := Try.zeroValue24
  obtain ⟨m, hm⟩ : ∃ m, n - k = m + 1 := ⟨n - k - 1, by omega⟩
  obtain ⟨zs, hzs⟩ : ∃ zs, zs = (Builtin.zeroCells (Value.agg #[.int .i64 0, .int .i64 0]).cells (m + 1)).toList := ⟨_, rfl⟩
  have hzl : zs.length = (m + 1) * 2 := by rw [hzs]; simp [Builtin.zeroCells, Value.cells]
  have hz1 : ∀ v ∈ zs, v.oneCell' = true := by
    intro v hv'
    rw [hzs] at hv'
    simp only [Builtin.zeroCells, Value.cells] at hv'
    simp only [Array.toList_map, List.mem_map] at hv'
    obtain ⟨i, _, rfl⟩ := hv'
    rcases Nat.mod_two_eq_zero_or_one i with h2 | h2
    · simp [h2]; rfl
    · simp [h2]; rfl
  have hst := run_storeCells_cells (P := Try.prog) g (k * 2) zs 0 w (fun j hj => by
    rw [show k * 2 + 0 + j = k * 2 + j by omega, World.ownsRow.cellAt h _ (by omega)]
    rw [List.getElem?_eq_getElem (by rw [h.1]; omega)]
    rfl) (fun j hj => row_frozen h _) hz1
  obtain ⟨h1, h2⟩ := own_far zs (k * 2) w (ownsRow_take (m := k) h (by omega)) (Nat.le_refl _)
  refine ⟨_, ?_, h1, h2⟩
  rw [hm]
  simp only [Nat.add_zero] at hst
  simp [Builtin.clear_, run_underlying Try.underlying56, hv, ← hzs, hst]

set_option maxRecDepth 100000 in
set_option maxHeartbeats 16000000 in
theorem compact_own (L : List Pt) (v : Value) (base : Nat) (w : World) (hm : L.length ≤ 1000) (hL : w.ownsRow base 24 2 v L.length (ptV L)) :
    Calls Try.prog 136 #[v] w fun e w' => ∃ v', e = .returned v' ∧ w'.ownsRow base 24 2 v' (cpL L).length (ptV (cpL L)) ∧ w.grownBy w' v.ownBlock := by
  obtain ⟨A, cv, hvv⟩ := own_form hL
  subst hvv
  have HL := Lib.hid hL
  obtain ⟨n, hn⟩ : ∃ n, n = L.length := ⟨_, rfl⟩
  rw [← hn] at HL hm ⊢
  have HN := Lib.hid hn
  clear hL hn
  by_cases hn2 : n < 2
  · have h1 : (n : Int) < 2 := by omega
    have HE : Hid (cpL L = L) := Lib.hid (by
      have h := HN.out
      cases L with
      | nil => rfl
      | cons a r =>
        cases r with
        | nil => rfl
        | cons b r => simp at h; omega)
    go_enter Try.func136, Try.ntmps136
    go_wp2
    go_ret
    exact ⟨_, rfl, by rw [HE.out, ← HN.out]; exact HL.out, rfl, rfl, rfl, Nat.le_refl _, fun _ _ _ => rfl⟩
  · have h1 : ¬ (n : Int) < 2 := by omega
    obtain ⟨g, c0, hform, hg0, hg1⟩ := HL.out.form (by omega)
    obtain ⟨rfl, rfl⟩ : A = some ⟨g, 0, none⟩ ∧ cv = c0 := by simpa using hform
    have hcap : n ≤ cv := by
      rcases HL.out.2 with ⟨h, _⟩ | ⟨g', cap', cur, h, _, _, h1, _⟩
      · cases h
      · obtain ⟨_, rfl⟩ : g = g' ∧ cv = cap' := by simpa using h
        exact h1
    clear hform hg0
    go_enter Try.func136, Try.ntmps136
    go_wp2
    go_loopw [3] (fun kv wr => ∃ k : Nat, k + 1 ≤ n ∧ kv = .int .i64 ((k : Int) + 1) ∧ Hid (cpL (L.take (k + 1)) = L.take (k + 1)) ∧ Hid (Below w.heap.size w wr)) (fun kv _ => n + 1 - (intOf kv).toNat)
    case atStart => exact ⟨0, by omega, rfl, Lib.hid (by
      cases L with
      | nil => rfl
      | cons a r => rfl), Lib.hid (Below.refl _ _)⟩
    case round =>
      obtain ⟨k, hk, rfl, HC, HB⟩ := hrel
      have HR := Lib.hid (HL.out.kept (grown_of_below HB.out) (Classical.em _))
      have k0 : (0 : Int) ≤ (k : Int) := Int.natCast_nonneg _
      by_cases hlt : k + 1 < n
      · have k1 : (k : Int) + 1 < (n : Int) := by omega
        have k2 : (k : Int) < (n : Int) := by omega
        have k3 : (0 : Int) ≤ (k : Int) + 1 := by omega
        obtain ⟨⟨x1, x2⟩, hx⟩ : ∃ x, L[k]? = some x := ⟨_, List.getElem?_eq_getElem (by rw [← HN.out]; omega)⟩
        obtain ⟨⟨y1, y2⟩, hy⟩ : ∃ y, L[k + 1]? = some y := ⟨_, List.getElem?_eq_getElem (by rw [← HN.out]; omega)⟩
        have p0 := ptV_get L k _ hx
        have p1 := ptV_get L (k + 1) _ hy
        have d0 : wr.cell? ⟨g, k * 2, none⟩ = some (.int .i64 x1) := by rw [World.ownsRow.cellAt HR.out _ (by omega)]; exact p0.1
        have d1 : wr.cell? ⟨g, k * 2 + 1, none⟩ = some (.int .i64 x2) := by rw [World.ownsRow.cellAt HR.out _ (by omega)]; exact p0.2
        have d2 : wr.cell? ⟨g, (k + 1) * 2, none⟩ = some (.int .i64 y1) := by rw [World.ownsRow.cellAt HR.out _ (by omega)]; exact p1.1
        have d3 : wr.cell? ⟨g, (k + 1) * 2 + 1, none⟩ = some (.int .i64 y2) := by rw [World.ownsRow.cellAt HR.out _ (by omega)]; exact p1.2
        have w1 : IntKind.i64.wrap ((k : Int) + 1 - 1) = (k : Int) := by rw [IntWalk.i64_in _ (by omega)]; omega
        have w2 : IntKind.i64.wrap (k : Int) = (k : Int) := IntWalk.i64_in _ (by omega)
        have HSn : Hid (cpL (L.take (k + 2)) = if (x1, x2) = (y1, y2) then L.take (k + 1) else L.take (k + 2)) := Lib.hid (by
          have e1 : L.take (k + 2) = L.take (k + 1) ++ [(y1, y2)] := by rw [List.take_add_one, hy]; rfl
          have e2 : (L.take (k + 1)).getLast? = some (x1, x2) := by
            rw [List.getLast?_eq_getElem?, List.length_take, show min (k + 1) L.length - 1 = k by have := HN.out; omega, List.getElem?_take_of_lt (by omega), hx]
          rw [e1, cpL_snoc, e2, HC.out]
          simp only [Option.some.injEq])
        have HX := Lib.hid hx
        have HY := Lib.hid hy
        clear p0 p1 hx hy
        by_cases e1 : y1 = x1
        · by_cases e2 : y2 = x2
          · subst e1
            subst e2
            go_upto_region 6 with fail
            go_quiet (fail)
            have hck : ¬ cv = k + 1 := by omega
            have hkc : (k : Int) + 1 ≤ (cv : Int) := by omega
            have hnc0 : (n : Int) ≤ (cv : Int) := by omega
            go_upto_region 8 with fail
            obtain ⟨K, hK⟩ : ∃ K, K = k + 1 := ⟨_, rfl⟩
            have hKn : (K : Int) ≤ (n : Int) := by omega
            have hKc : (K : Int) ≤ (cv : Int) := by omega
            have hK0 : (0 : Int) ≤ (K : Int) := Int.natCast_nonneg _
            have hnc : (n : Int) ≤ (cv : Int) := by omega
            have hKi : (k : Int) + 1 = (K : Int) := by omega
            have HSt : Hid (L.take K = cpL (L.take (K + 0 + 1))) := Lib.hid (by rw [hK, Nat.add_zero]; rw [HSn.out, if_pos rfl])
            rw [hKi, ← hK]
            have HRd := Lib.hid (HR.out.kept (grown_of_below (below_drewN (Below.refl _ wr) nq)) (Classical.em _))
            have HBd : Hid (w.grownBy (wr.drewN nq) (some g)) := Lib.hid (by
              have h := below_drewN HB.out nq
              exact ⟨h.os, h.tape, h.output, h.size, fun b hb _ => h.block b hb⟩)
            clear d0 d1 d2 d3 HR HB w1 w2 HSn HC HX HY k0 k1 k2 k3 hKi
            generalize wr.drewN nq = w3 at *
            obtain ⟨q, hq⟩ : ∃ q, q = n - K := ⟨_, rfl⟩
            have hq1 : 1 ≤ q := by omega
            rw [← hq]
            have I : ∃ (kk t : Nat) (D : List Pt), (Value.int .i64 K) = .int .i64 kk ∧ (Value.int .i64 1) = .int .i64 ((t : Int) + 1) ∧ t + 1 ≤ q ∧ kk ≤ K + t ∧ Hid (D.length = n) ∧ Hid (D.take kk = cpL (L.take (K + t + 1))) ∧ Hid (∀ j, K + t ≤ j → D[j]? = L[j]?) ∧ Hid (w3.ownsRow base 24 2 (.slice (some ⟨g, 0, none⟩) n cv) n (ptV D)) ∧ Hid (w.grownBy w3 (some g)) :=
              ⟨K, 0, L, rfl, rfl, by omega, by omega, Lib.hid HN.out.symm, HSt, Lib.hid (fun j _ => rfl), HRd, HBd⟩
            have HQn : Hid (q + K = n) := Lib.hid (by omega)
            clear HRd HBd HSt hK hq hck hkc hnc0
            have hqn : q ≤ 1000 := by have := HQn.out; omega
            go_wp2
            go_loopw [3, 5] (fun kv jv wr => ∃ (kk t : Nat) (D : List Pt), kv = .int .i64 kk ∧ jv = .int .i64 ((t : Int) + 1) ∧ t + 1 ≤ q ∧ kk ≤ K + t ∧ Hid (D.length = n) ∧ Hid (D.take kk = cpL (L.take (K + t + 1))) ∧ Hid (∀ j, K + t ≤ j → D[j]? = L[j]?) ∧ Hid (wr.ownsRow base 24 2 (.slice (some ⟨g, 0, none⟩) n cv) n (ptV D)) ∧ Hid (w.grownBy wr (some g))) (fun _ jv _ => q + 1 - (intOf jv).toNat)
            case atStart => exact I
            case round =>
              clear I
              obtain ⟨kk, t, D, rfl, rfl, ht, hkk, HDl, HT, HJ, HR, HG⟩ := hrel
              have t0 : (0 : Int) ≤ (t : Int) := Int.natCast_nonneg _
              have kk0 : (0 : Int) ≤ (kk : Int) := Int.natCast_nonneg _
              by_cases hlq : t + 1 < q
              · have t1 : (t : Int) + 1 < (q : Int) := by omega
                have t2 : (t : Int) < (q : Int) := by omega
                have hqK := HQn.out
                have t3 : (0 : Int) ≤ (t : Int) + 1 := by omega
                obtain ⟨⟨x1, x2⟩, hx⟩ : ∃ x, L[K + t]? = some x := ⟨_, List.getElem?_eq_getElem (by rw [← HN.out]; omega)⟩
                obtain ⟨⟨y1, y2⟩, hy⟩ : ∃ y, L[K + (t + 1)]? = some y := ⟨_, List.getElem?_eq_getElem (by rw [← HN.out]; omega)⟩
                have p0 := ptV_get D (K + t) _ ((HJ.out _ (by omega)).trans hx)
                have p1 := ptV_get D (K + (t + 1)) _ ((HJ.out _ (by omega)).trans hy)
                have d0 : wr.cell? ⟨g, K * 2 + t * 2, none⟩ = some (.int .i64 x1) := by rw [← Nat.add_mul, World.ownsRow.cellAt HR.out _ (by omega)]; exact p0.1
                have d1 : wr.cell? ⟨g, K * 2 + t * 2 + 1, none⟩ = some (.int .i64 x2) := by rw [← Nat.add_mul, World.ownsRow.cellAt HR.out _ (by omega)]; exact p0.2
                have d2 : wr.cell? ⟨g, K * 2 + (t + 1) * 2, none⟩ = some (.int .i64 y1) := by rw [← Nat.add_mul, World.ownsRow.cellAt HR.out _ (by omega)]; exact p1.1
                have d3 : wr.cell? ⟨g, K * 2 + (t + 1) * 2 + 1, none⟩ = some (.int .i64 y2) := by rw [← Nat.add_mul, World.ownsRow.cellAt HR.out _ (by omega)]; exact p1.2
                have w1 : IntKind.i64.wrap ((t : Int) + 1 - 1) = (t : Int) := by rw [IntWalk.i64_in _ (by omega)]; omega
                have w2 : IntKind.i64.wrap (t : Int) = (t : Int) := IntWalk.i64_in _ (by omega)
                have HSn : Hid (cpL (L.take (K + (t + 1) + 1)) = if (x1, x2) = (y1, y2) then cpL (L.take (K + t + 1)) else cpL (L.take (K + t + 1)) ++ [(y1, y2)]) := Lib.hid (by
                  have e1 : L.take (K + (t + 1) + 1) = L.take (K + t + 1) ++ [(y1, y2)] := by rw [List.take_add_one, hy]; rfl
                  have e2 : (L.take (K + t + 1)).getLast? = some (x1, x2) := by
                    rw [List.getLast?_eq_getElem?, List.length_take, show min (K + t + 1) L.length - 1 = K + t by have := HN.out; omega, List.getElem?_take_of_lt (by omega), hx]
                  rw [e1, cpL_snoc, e2]
                  simp only [Option.some.injEq])
                clear p0 p1 hx hqK
                have HYy := Lib.hid hy
                clear hy
                by_cases e1 : y1 = x1
                · by_cases e2 : y2 = x2
                  · subst e1
                    subst e2
                    have HT2 : Hid (D.take kk = cpL (L.take (K + (t + 1) + 1))) := Lib.hid (by rw [HSn.out, if_pos rfl]; exact HT.out)
                    go_upto_region 11 with fail
                    go_quiet (fail)
                    go_wp2
                    go_roundw
                    case rel => exact ⟨kk, t + 1, D, rfl, by go_num, by omega, by omega, HDl, HT2, Lib.hid (fun j hj => HJ.out j (by omega)), Lib.hid (HR.out.kept (grown_of_below (below_drewN (Below.refl _ wr) _)) (Classical.em _)), Lib.hid ⟨HG.out.os, HG.out.tape, HG.out.output, HG.out.size, HG.out.block⟩⟩
                    case measure => simp [intOf]; omega
                  · have e3 : (y2 == x2) = false := by simp [e2]
                    have hne : ¬ (x1, x2) = (y1, y2) := by simp [e1]; exact fun h => e2 h.symm
                    have HT2 : Hid ((D.set kk (y1, y2)).take (kk + 1) = cpL (L.take (K + (t + 1) + 1))) := Lib.hid (by
                      have hqK := HQn.out
                      have hDl := HDl.out
                      rw [HSn.out, if_neg hne, ← HT.out, List.take_add_one, List.take_set_of_le (Nat.le_refl _), List.getElem?_set_self (by omega)]
                      rfl)
                    have HJ2 : Hid (∀ j, K + (t + 1) ≤ j → (D.set kk (y1, y2))[j]? = L[j]?) := Lib.hid (fun j hj => by rw [List.getElem?_set_ne (by omega)]; exact HJ.out j (by omega))
                    have hkn : (kk : Int) < (n : Int) := by have hqK := HQn.out; omega
                    subst e1
                    go_upto_region 11 with fail
                    go_quiet (fail)
                    have HRd := Lib.hid (HR.out.kept (grown_of_below (below_drewN (Below.refl _ wr) nq)) (Classical.em _))
                    have HGd : Hid (w.grownBy (wr.drewN nq) (some g)) := Lib.hid ⟨HG.out.os, HG.out.tape, HG.out.output, HG.out.size, HG.out.block⟩
                    clear d0 d1 d2 d3 HR HG w1 w2
                    generalize wr.drewN nq = wd at *
                    obtain ⟨⟨z1, z2⟩, hz⟩ : ∃ z, D[kk]? = some z := ⟨_, List.getElem?_eq_getElem (by rw [HDl.out]; omega)⟩
                    have hz2 := ptV_get D kk _ hz
                    have p1 := ptV_get D (K + (t + 1)) _ ((HJ.out _ (by omega)).trans HYy.out)
                    have hqK := HQn.out
                    have d2 : wd.cell? ⟨g, K * 2 + (t + 1) * 2, none⟩ = some (.int .i64 y1) := by rw [← Nat.add_mul, World.ownsRow.cellAt HRd.out _ (by omega)]; exact p1.1
                    have d3 : wd.cell? ⟨g, K * 2 + (t + 1) * 2 + 1, none⟩ = some (.int .i64 y2) := by rw [← Nat.add_mul, World.ownsRow.cellAt HRd.out _ (by omega)]; exact p1.2
                    have c0 : wd.cell? ⟨g, kk * 2, none⟩ = some (.int .i64 z1) := by rw [World.ownsRow.cellAt HRd.out _ (by omega)]; exact hz2.1
                    have c1 : wd.cell? ⟨g, kk * 2 + 1, none⟩ = some (.int .i64 z2) := by rw [World.ownsRow.cellAt HRd.out _ (by omega)]; exact hz2.2
                    have f1 : wd.frozen? ⟨g, kk * 2, none⟩ = false := row_frozen HRd.out _
                    have f2 : wd.frozen? ⟨g, kk * 2 + 1, none⟩ = false := row_frozen HRd.out _
                    obtain ⟨s1, s2⟩ := HRd.out.stored (kk * 2) (.int .i64 y1)
                    obtain ⟨s3, s4⟩ := s1.stored (kk * 2 + 1) (.int .i64 y2)
                    have HRs : Hid (((wd.setCell ⟨g, kk * 2, none⟩ (.int .i64 y1)).setCell ⟨g, kk * 2 + 1, none⟩ (.int .i64 y2)).ownsRow base 24 2 (.slice (some ⟨g, 0, none⟩) n cv) n (ptV (D.set kk (y1, y2)))) := Lib.hid (by rw [← ptV_set D kk (y1, y2)]; exact s3)
                    have HGs : Hid (w.grownBy ((wd.setCell ⟨g, kk * 2, none⟩ (.int .i64 y1)).setCell ⟨g, kk * 2 + 1, none⟩ (.int .i64 y2)) (some g)) := Lib.hid ⟨s4.os.trans (s2.os.trans HGd.out.os), s4.tape.trans (s2.tape.trans HGd.out.tape), s4.output.trans (s2.output.trans HGd.out.output), Nat.le_trans HGd.out.size (Nat.le_trans s2.size s4.size), fun b hb hne => (s4.block b (Nat.lt_of_lt_of_le hb (Nat.le_trans HGd.out.size s2.size)) hne).trans ((s2.block b (Nat.lt_of_lt_of_le hb HGd.out.size) hne).trans (HGd.out.block b hb hne))⟩
                    have HD2 : Hid ((D.set kk (y1, y2)).length = n) := Lib.hid (by rw [List.length_set]; exact HDl.out)
                    clear hz hz2 p1 hqK s1 s2 s3 s4
                    go_wp2
                    go_roundw
                    case rel => exact ⟨kk + 1, t + 1, D.set kk (y1, y2), by go_num, by go_num, by omega, by omega, HD2, HT2, HJ2, HRs, HGs⟩
                    case measure => simp [intOf]; omega
                · have e3 : (y1 == x1) = false := by simp [e1]
                  have hne : ¬ (x1, x2) = (y1, y2) := by simp; exact fun h => absurd h.symm e1
                  have HT2 : Hid ((D.set kk (y1, y2)).take (kk + 1) = cpL (L.take (K + (t + 1) + 1))) := Lib.hid (by
                    have hqK := HQn.out
                    have hDl := HDl.out
                    rw [HSn.out, if_neg hne, ← HT.out, List.take_add_one, List.take_set_of_le (Nat.le_refl _), List.getElem?_set_self (by omega)]
                    rfl)
                  have HJ2 : Hid (∀ j, K + (t + 1) ≤ j → (D.set kk (y1, y2))[j]? = L[j]?) := Lib.hid (fun j hj => by rw [List.getElem?_set_ne (by omega)]; exact HJ.out j (by omega))
                  have hkn : (kk : Int) < (n : Int) := by have hqK := HQn.out; omega
                  go_upto_region 11 with fail
                  go_quiet (fail)
                  have HRd := Lib.hid (HR.out.kept (grown_of_below (below_drewN (Below.refl _ wr) nq)) (Classical.em _))
                  have HGd : Hid (w.grownBy (wr.drewN nq) (some g)) := Lib.hid ⟨HG.out.os, HG.out.tape, HG.out.output, HG.out.size, HG.out.block⟩
                  clear d0 d1 d2 d3 HR HG w1 w2
                  generalize wr.drewN nq = wd at *
                  obtain ⟨⟨z1, z2⟩, hz⟩ : ∃ z, D[kk]? = some z := ⟨_, List.getElem?_eq_getElem (by rw [HDl.out]; omega)⟩
                  have hz2 := ptV_get D kk _ hz
                  have p1 := ptV_get D (K + (t + 1)) _ ((HJ.out _ (by omega)).trans HYy.out)
                  have hqK := HQn.out
                  have d2 : wd.cell? ⟨g, K * 2 + (t + 1) * 2, none⟩ = some (.int .i64 y1) := by rw [← Nat.add_mul, World.ownsRow.cellAt HRd.out _ (by omega)]; exact p1.1
                  have d3 : wd.cell? ⟨g, K * 2 + (t + 1) * 2 + 1, none⟩ = some (.int .i64 y2) := by rw [← Nat.add_mul, World.ownsRow.cellAt HRd.out _ (by omega)]; exact p1.2
                  have c0 : wd.cell? ⟨g, kk * 2, none⟩ = some (.int .i64 z1) := by rw [World.ownsRow.cellAt HRd.out _ (by omega)]; exact hz2.1
                  have c1 : wd.cell? ⟨g, kk * 2 + 1, none⟩ = some (.int .i64 z2) := by rw [World.ownsRow.cellAt HRd.out _ (by omega)]; exact hz2.2
                  have f1 : wd.frozen? ⟨g, kk * 2, none⟩ = false := row_frozen HRd.out _
                  have f2 : wd.frozen? ⟨g, kk * 2 + 1, none⟩ = false := row_frozen HRd.out _
                  obtain ⟨s1, s2⟩ := HRd.out.stored (kk * 2) (.int .i64 y1)
                  obtain ⟨s3, s4⟩ := s1.stored (kk * 2 + 1) (.int .i64 y2)
                  have HRs : Hid (((wd.setCell ⟨g, kk * 2, none⟩ (.int .i64 y1)).setCell ⟨g, kk * 2 + 1, none⟩ (.int .i64 y2)).ownsRow base 24 2 (.slice (some ⟨g, 0, none⟩) n cv) n (ptV (D.set kk (y1, y2)))) := Lib.hid (by rw [← ptV_set D kk (y1, y2)]; exact s3)
                  have HGs : Hid (w.grownBy ((wd.setCell ⟨g, kk * 2, none⟩ (.int .i64 y1)).setCell ⟨g, kk * 2 + 1, none⟩ (.int .i64 y2)) (some g)) := Lib.hid ⟨s4.os.trans (s2.os.trans HGd.out.os), s4.tape.trans (s2.tape.trans HGd.out.tape), s4.output.trans (s2.output.trans HGd.out.output), Nat.le_trans HGd.out.size (Nat.le_trans s2.size s4.size), fun b hb hne => (s4.block b (Nat.lt_of_lt_of_le hb (Nat.le_trans HGd.out.size s2.size)) hne).trans ((s2.block b (Nat.lt_of_lt_of_le hb HGd.out.size) hne).trans (HGd.out.block b hb hne))⟩
                  have HD2 : Hid ((D.set kk (y1, y2)).length = n) := Lib.hid (by rw [List.length_set]; exact HDl.out)
                  clear hz hz2 p1 hqK s1 s2 s3 s4
                  go_wp2
                  go_roundw
                  case rel => exact ⟨kk + 1, t + 1, D.set kk (y1, y2), by go_num, by go_num, by omega, by omega, HD2, HT2, HJ2, HRs, HGs⟩
                  case measure => simp [intOf]; omega
              · have hqK := HQn.out
                have hkn : kk < n := by omega
                have HE : Hid (D.take kk = cpL L) := Lib.hid (by
                  rw [HT.out, List.take_of_length_le (by rw [← HN.out]; omega)])
                have hkl : (D.take kk).length = kk := by rw [List.length_take, HDl.out]; omega
                obtain ⟨wc, hcl0, h1, h2⟩ := run_clear2 (c := cv - kk) HR.out hkn 0
                have hcl : ∀ ty, (Builtin.clear_ #[56] ty #[.slice (some ⟨g, kk * 2, none⟩) (n - kk) (cv - kk)]).run Try.prog wr = .ok (.tuple #[]) wc := fun ty => hcl0
                rw [ptV_take, HE.out] at h1
                rw [HE.out] at hkl
                have HRes : Hid (wc.ownsRow base 24 2 (.slice (some ⟨g, 0, none⟩) kk cv) (cpL L).length (ptV (cpL L))) := Lib.hid (by rw [hkl]; exact h1)
                have HGr : Hid (w.grownBy wc (some g)) := Lib.hid ⟨h2.os.trans HG.out.os, h2.tape.trans HG.out.tape, h2.output.trans HG.out.output, Nat.le_trans HG.out.size h2.size, fun b hb hne => (h2.block b (Nat.lt_of_lt_of_le hb HG.out.size) hne).trans (HG.out.block b hb hne)⟩
                have i1 : ¬ (t : Int) + 1 < (q : Int) := by omega
                have hkn1 : (kk : Int) ≤ (n : Int) := by omega
                have hkc1 : (kk : Int) ≤ (cv : Int) := by omega
                have hck1 : ¬ cv = kk := by omega
                clear h1 h2 hcl0 hqK hkl HR HG HT HJ HDl
                go_wp2
                go_ret
                exact ⟨_, rfl, HRes.out, HGr.out⟩
          · have e3 : (y2 == x2) = false := by simp [e2]
            have HC2 : Hid (cpL (L.take (k + 1 + 1)) = L.take (k + 1 + 1)) := Lib.hid (by rw [HSn.out, if_neg (by simp [e1]; exact fun h => e2 h.symm)])
            subst e1
            go_upto_region 6 with fail
            go_quiet (fail)
            go_wp2
            go_roundw
            case rel => exact ⟨k + 1, by omega, by go_num, HC2, Lib.hid (below_drewN HB.out _)⟩
            case measure => simp [intOf]; omega
        · have e3 : (y1 == x1) = false := by simp [e1]
          have HC2 : Hid (cpL (L.take (k + 1 + 1)) = L.take (k + 1 + 1)) := Lib.hid (by rw [HSn.out, if_neg (by simp; exact fun h => absurd h.symm e1)])
          go_upto_region 6 with fail
          go_quiet (fail)
          go_wp2
          go_roundw
          case rel => exact ⟨k + 1, by omega, by go_num, HC2, Lib.hid (below_drewN HB.out _)⟩
          case measure => simp [intOf]; omega
      · have k1 : ¬ (k : Int) + 1 < (n : Int) := by omega
        have HE : Hid (cpL L = L) := Lib.hid (by
          have h := HC.out
          rw [List.take_of_length_le (by rw [← HN.out]; omega)] at h
          exact h)
        go_wp2
        go_ret
        exact ⟨_, rfl, by rw [HE.out, ← HN.out]; exact HR.out, HB.out.os, HB.out.tape, HB.out.output, HB.out.size, fun b hb _ => HB.out.block b hb⟩
end Go.Proofs.Ytaehfildhmljeaa

namespace Go.Proofs.Ytaehfildhmljeaa
open Go.RowKit Go.Shelf Go.Sort

theorem cp_mem : ∀ (l : List Pt) (x : Pt), x ∈ cpL l ↔ x ∈ l := by
  intro l
  induction l with
  | nil => intro x; rfl
  | cons a r ih =>
    intro x
    cases r with
    | nil => rfl
    | cons b r =>
      rw [cpL]
      split
      · rename_i h
        subst h
        rw [ih]
        simp
      · rw [List.mem_cons, ih, List.mem_cons (a := x) (b := a)]
theorem cp_srt : ∀ {l : List Pt}, l.Pairwise (fun p q => befB q p = false) → SrtL (cpL l) := by
  intro l
  induction l with
  | nil => intro _; simp [cpL]
  | cons a r ih =>
    intro h
    cases r with
    | nil => simp [cpL]
    | cons b r =>
      obtain ⟨h1, h2⟩ := List.pairwise_cons.1 h
      rw [cpL]
      split
      · exact ih h2
      · rename_i hne
        refine List.pairwise_cons.2 ⟨fun x hx => ?_, ih h2⟩
        rw [cp_mem] at hx
        have h3 := h1 x hx
        refine bef_tri h3 (fun e => ?_)
        subst e
        rcases List.mem_cons.1 hx with rfl | hx
        · exact hne rfl
        · obtain ⟨h4, _⟩ := List.pairwise_cons.1 h2
          have h5 := h4 x hx
          have h6 := h1 b (by simp)
          have h7 := bef_tri h6 (fun e => hne e.symm)
          rw [h5] at h7
          cases h7
/-- The spots of a cloud. -/
def spF (X Y : Nat → Int) (i : Nat) : Pt := (X i, Y i)
def spL (X Y : Nat → Int) (n : Nat) : List Pt := (List.range n).map (spF X Y)
theorem spL_succ (X Y : Nat → Int) (n : Nat) : spL X Y (n + 1) = spL X Y n ++ [(X n, Y n)] := by
  unfold spL
  rw [List.range_succ, List.map_append]
  rfl
theorem spL_len (X Y : Nat → Int) (n : Nat) : (spL X Y n).length = n := by simp [spL]
theorem sorted_pairs {d' : Array Pt} {m : Nat} (hm : d'.size = m) (hs : SortedIn befB 0 m d') : d'.toList.Pairwise (fun p q => befB q p = false) := by
  rw [List.pairwise_iff_getElem]
  intro i j hi hj hij
  have hb := hs i j (Nat.zero_le _) hij (by rw [← hm]; simpa using hj)
  rw [getElem!_pos _ i (by simpa using hi), getElem!_pos _ j (by simpa using hj)] at hb
  simpa using hb
theorem places_list {X Y : Nat → Int} {n : Nat} {d' : Array Pt} (hp : PermIn 0 n (spL X Y n).toArray d') (hs : SortedIn befB 0 n d') : cpL d'.toList = celL (spF X Y) n := by
  have hsz : ((spL X Y n).toArray).size = n := by simp [spL_len]
  have hp' : PermIn 0 ((spL X Y n).toArray).size (spL X Y n).toArray d' := by rw [hsz]; exact hp
  have hd : d'.size = n := by have := hp.1; rw [hsz] at this; exact this
  refine celL_of (cp_srt (sorted_pairs hd hs)) fun x => ?_
  rw [cp_mem, (perm_all hp').mem_iff]
  simp [spL]

set_option maxRecDepth 100000 in
set_option maxHeartbeats 16000000 in
theorem places_any (A : Option Addr) (n cap : Nat) (X Y V : Nat → Int) (hn : n ≤ 1000) (w : World) (hcl : Cloud w A n X Y V) :
    Calls Try.prog 116 #[.slice A n cap] w fun e w' => ∃ v, e = .returned v ∧ w'.ownsRow w.heap.size 24 2 v (celL (spF X Y) n).length (ptV (celL (spF X Y) n)) ∧ Below w.heap.size w w' := by
  obtain ⟨i0_, hi0, hz0, hz1, hz2⟩ := info_parts Try.info24
  have hI0 := Lib.hid hi0
  have hZ0 := Lib.hid hz0
  have hZ1 := Lib.hid hz1
  have hZ2 := Lib.hid hz2
  have HCL := Lib.hid hcl
  clear hi0 hz0 hz1 hz2 hcl
  obtain ⟨Bs, hBs⟩ : ∃ z, z = w.heap.size := ⟨_, rfl⟩
  have HBs := Lib.hid hBs
  have I : ∃ (k : Nat) (v : Value), k ≤ n ∧ (Value.slice none 0 0) = v ∧ (Value.int .i64 0) = .int .i64 k ∧ Hid (w.ownsRow Bs 24 2 v k (ptV (spL X Y k))) ∧ Hid (Below w.heap.size w w) :=
    ⟨0, _, Nat.zero_le _, rfl, rfl, Lib.hid (World.ownsRow_nil _ _ _ _), Lib.hid (Below.refl _ _)⟩
  clear hBs
  go_enter Try.func116, Try.ntmps116
  go_wp2
  go_loopw [3, 8] (fun o iv wr => ∃ (k : Nat) (v : Value), k ≤ n ∧ o = v ∧ iv = .int .i64 k ∧ Hid (wr.ownsRow Bs 24 2 v k (ptV (spL X Y k))) ∧ Hid (Below w.heap.size w wr)) (fun _ iv _ => n + 1 - (intOf iv).toNat)
  case atStart => exact I
  case round =>
    clear I
    obtain ⟨k, v, hk, rfl, rfl, HR, HB⟩ := hrel
    obtain ⟨Av, cv, hv⟩ := own_form HR.out
    subst hv
    by_cases hlt : k < n
    · obtain ⟨blk, off, e, hc0⟩ := HCL.out (by omega)
      subst e
      have i0 : (0 : Int) ≤ (k : Int) := Int.natCast_nonneg _
      have i1 : (k : Int) < (n : Int) := by omega
      have hbl := hc0.lt (by omega)
      have l1 : blk < wr.heap.size := Nat.lt_of_lt_of_le hbl HB.out.size
      obtain ⟨c0, c1, c2⟩ := (hc0.below HB.out hbl) k hlt
      clear hc0
      go_upto_region 5 with fail
      have hbp := BoxAt.new wr 69 #[.int .i64 (X k), .int .i64 (Y k), .int .i64 (V k)]
      have hb3 : Below wr.heap.size wr (wr.alloc (.cells #[.int .i64 (X k), .int .i64 (Y k), .int .i64 (V k)] 69)) := (Below.refl _ wr).alloc (Nat.le_refl _) _
      obtain ⟨Lp, hLp⟩ : ∃ z, z = wr.heap.size := ⟨_, rfl⟩
      rw [← hLp] at hbp ⊢
      have HR3 := Lib.hid (HR.out.kept (grown_of_below hb3) (Classical.em _))
      have HB3 := Lib.hid (below_step HB.out hb3)
      clear c0 c1 c2 l1 hLp hb3 HR HB
      generalize wr.alloc (.cells #[.int .i64 (X k), .int .i64 (Y k), .int .i64 (V k)] 69) = w3 at *
      have p0 : w3.cell? ⟨Lp, 0, none⟩ = some (.int .i64 (X k)) := hbp.cell 0
      have p1 : w3.cell? ⟨Lp, 1, none⟩ = some (.int .i64 (Y k)) := hbp.cell 1
      have p2 : w3.cell? ⟨Lp, 2, none⟩ = some (.int .i64 (V k)) := hbp.cell 2
      have p3 := hbp.lt
      clear hbp
      go_wp2_with (first
        | (go_at_call 64; (with_reducible refine (spot_any _ _ _ _).mono ?_); rintro e w4 ⟨rfl, hb4⟩; have HR4 := Lib.hid (HR3.out.kept (grown_of_below hb4) (Classical.em _)); have HB4 := Lib.hid (below_step HB3.out hb4); have hB4 : Bs ≤ w4.heap.size := (by have h1 := HBs.out; have h2 := HB4.out.size; omega))
        | (at_builtin; go_loud (refine wpList_append_lies _ rfl _ _ 56 rfl Bs 24 i0_ _ 2 16 Try.underlying56 hI0.out hZ0.out hZ1.out hZ2.out rfl (by decide) (.slice Av k cv) k (ptV (spL X Y k)) rfl (HR4.out.alloc _) ⟨w4.heap.size, 0, none⟩ 1 1 [.int .i64 (X k), .int .i64 (Y k)] rfl rfl (World.news_of_block (cs := #[.int .i64 (X k), .int .i64 (Y k)]) (t := 24) (fr := (0, 0)) (heap_alloc_new w4 _)) (by simp [Value.oneCell']) (by decide) (by unfold maxLen; omega) (by omega) (by simp; omega) _ rfl ?_; intro gg cap1 w7 hown7 hgrow hat hlt7)))
      have HR7 : Hid (w7.ownsRow Bs 24 2 (.slice (some ⟨gg, 0, none⟩) (k + 1) cap1) (k + 1) (ptV (spL X Y (k + 1)))) := Lib.hid (by
        rw [spL_succ, ptV_append]
        exact hown7)
      have HB7 : Hid (Below w.heap.size w w7) := Lib.hid (by
        have h1 := below_step HB4.out ((Below.refl _ w4).alloc (Nat.le_refl _) (.cells #[.int .i64 (X k), .int .i64 (Y k)] 24))
        exact h1.grown hgrow h1.size (fun b e => by have h2 := (HR4.out.lt b e).1; have h3 := HBs.out; omega))
      clear hown7 hgrow hat hlt7 HR4 HB4
      go_roundw
      case rel => exact ⟨k + 1, _, by omega, rfl, by go_num, HR7, HB7⟩
      case measure => simp [intOf]; omega
    · obtain rfl : k = n := by omega
      have HSo := Lib.hid (sort_own wr Bs (.slice Av k cv) (spL X Y k).toArray (by simp [spL_len]; omega) (by simp only [List.size_toArray, spL_len]; exact HR.out))
      have hBr := HB.out.size
      go_upto_region 8 with (go_at_call 67; (with_reducible refine HSo.out.mono ?_); rintro e w6 ⟨rfl, d', hp6, hs6, ho6, hg6⟩)
      have hsz : ((spL X Y k).toArray).size = k := by simp [spL_len]
      rw [hsz] at hp6 hs6 ho6
      have hd : d'.size = k := by have := hp6.1; rw [hsz] at this; exact this
      have hcp := places_list hp6 hs6
      have HCo := Lib.hid (compact_own d'.toList (.slice Av k cv) Bs w6 (by simp [hd]; omega) (by simp only [Array.length_toList, hd]; exact ho6))
      rw [hcp] at HCo
      have HB6 : Hid (Below w.heap.size w w6) := Lib.hid (HB.out.grown hg6 HB.out.size (fun b e => by have h1 := (HR.out.lt b e).1; have h2 := HBs.out; omega))
      have HLo : Hid (∀ b, (Value.slice Av k cv).ownBlock = some b → w.heap.size ≤ b) := Lib.hid (fun b e => by have h1 := (HR.out.lt b e).1; have h2 := HBs.out; omega)
      clear hp6 hs6 ho6 hg6 hcp hd HSo HR HB hsz
      go_wp2_with (go_at_call 136; (with_reducible refine HCo.out.mono ?_); rintro e w8 ⟨v8, rfl, ho8, hg8⟩)
      go_ret
      refine ⟨_, rfl, by rw [← HBs.out]; exact ho8, HB6.out.grown hg8 HB6.out.size HLo.out⟩
end Go.Proofs.Ytaehfildhmljeaa

namespace Go.Proofs.Ytaehfildhmljeaa
open Go.Shelf Go.RowKit Go.Lib Go.Sort
def Try.revS_ren : Go.Shelf.Ren := ⟨fun | 35 => 118 | n => n, fun | 22 => 56 | 23 => 24 | 3 => 3 | 4 => 4 | 0 => 0 | n => n, fun | n => n⟩
theorem Try.revS : Go.Proofs.SlLaysE0.n35 Try.prog Try.revS_ren := {
  mixed := by kernel_rfl
  f35 := ⟨Try.f118.name, by decide, Try.func118.trans (congrArg some (by kernel_rfl))⟩
  t0 := Try.underlying0
  a0 := Try.isAgg0
  z0 := Try.sizeOf0
  v0 := Try.zeroValue0
  t3 := Try.underlying3
  a3 := Try.isAgg3
  z3 := Try.sizeOf3
  v3 := Try.zeroValue3
  t4 := Try.underlying4
  a4 := Try.isAgg4
  z4 := Try.sizeOf4
  v4 := Try.zeroValue4
  t22 := Try.underlying56
  a22 := Try.isAgg56
  z22 := Try.sizeOf56
  v22 := Try.zeroValue56 }

theorem rev_own (L : List Pt) (v : Value) (base : Nat) (w : World) (hm : L.length ≤ 1000) (hL : w.ownsRow base 24 2 v L.length (ptV L)) :
    Calls Try.prog 118 #[v] w fun e w' => e = .returned (.tuple #[]) ∧ w'.ownsRow base 24 2 v L.length (ptV L.reverse) ∧ w.grownBy w' v.ownBlock := by
  rcases hL.2 with ⟨rfl, h0⟩ | ⟨g, cap, cur, rfl, hg, hb, h1, h2, h3, h4⟩
  · obtain rfl : L = [] := List.eq_nil_of_length_eq_zero h0
    have hcon := AnyQ.slices_Reverse_empty Try.revS none 0 w
    refine (Calls.mono (show Calls Try.prog 118 #[.slice none 0 0] w _ from hcon) ?_)
    rintro e w' ⟨rfl, rfl⟩
    exact ⟨rfl, hL, rfl, rfl, rfl, Nat.le_refl _, fun _ _ _ => rfl⟩
  · have hd : L.toArray.size = L.length := by simp
    have hcon := AnyQ.slices_Reverse Try.revS 2 Try.isAgg24 Try.sizeOf24 encC (fun _ => rfl) (fun x v hv => by simp [encC] at hv; rcases hv with rfl | rfl <;> rfl) g 0 cap L.toArray w (holds_row hb (by simpa using h4)) (by simp; omega)
    rw [hd] at hcon
    refine (Calls.mono (show Calls Try.prog 118 #[.slice (some ⟨g, 0, none⟩) L.length cap] w _ from hcon) ?_)
    rintro e w' ⟨rfl, n, rfl⟩
    have e1 : putRowK encC 2 (Sort.ahead w n) g 0 L.toArray.reverse = sortWorldK encC 2 w g 0 n L.toArray.reverse #[] := by unfold sortWorldK; rw [grow_empty]
    rw [e1]
    have h5 := ownsRow_sortK (n := n) (os := #[]) (base := base) (cap := cap) (m := L.length) (d := L.toArray.reverse) (by simp) hg hb h1 h2 h3
    refine ⟨rfl, by simpa using h5, grownBy_sortK _⟩
end Go.Proofs.Ytaehfildhmljeaa

namespace Go.Proofs.Ytaehfildhmljeaa
open Go.RowKit Go.Shelf

/-- The least of the first points. -/
def mnF (C : Nat → Pt) : Nat → Pt
  | 0 => C 0
  | k + 1 => if befB (C k) (mnF C k) then C k else mnF C k
theorem mnF_one (C : Nat → Pt) : mnF C 1 = C 0 := by
  show (if befB (C 0) (C 0) = true then C 0 else C 0) = C 0
  split <;> rfl
theorem mnF_spec (C : Nat → Pt) : ∀ k, (∀ i, i < k → C i = mnF C k ∨ befB (mnF C k) (C i) = true) ∧ (0 < k → ∃ i, i < k ∧ C i = mnF C k) := by
  intro k
  induction k with
  | zero => exact ⟨fun i hi => absurd hi (by omega), fun h => absurd h (by omega)⟩
  | succ k ih =>
    obtain ⟨h1, h2⟩ := ih
    have e : mnF C (k + 1) = if befB (C k) (mnF C k) then C k else mnF C k := rfl
    by_cases hb : befB (C k) (mnF C k) = true
    · rw [if_pos hb] at e
      rw [e]
      refine ⟨fun i hi => ?_, fun _ => ⟨k, by omega, rfl⟩⟩
      by_cases hik : i = k
      · rw [hik]; exact Or.inl rfl
      · rcases h1 i (by omega) with h | h
        · rw [h]; exact Or.inr hb
        · exact Or.inr (bef_trans hb h)
    · rw [if_neg hb] at e
      rw [e]
      have hb' : befB (C k) (mnF C k) = false := by simpa using hb
      refine ⟨fun i hi => ?_, fun _ => ?_⟩
      · by_cases hik : i = k
        · rw [hik]
          by_cases he : C k = mnF C k
          · exact Or.inl he
          · exact Or.inr (bef_tri hb' he)
        · exact h1 i (by omega)
      · rcases Nat.eq_zero_or_pos k with h0 | h0
        · refine ⟨k, by omega, ?_⟩
          rw [h0]
          rfl
        · obtain ⟨i, hi, he⟩ := h2 h0
          exact ⟨i, by omega, he⟩
theorem cel_first {C : Nat → Pt} {n : Nat} (hn : 0 < n) : (celL C n)[0]? = some (mnF C n) := by
  obtain ⟨h1, h2⟩ := mnF_spec C n
  obtain ⟨i, hi, he⟩ := h2 hn
  have hm : mnF C n ∈ celL C n := mem_celL.2 ⟨i, hi, he⟩
  have hs := srt_celL (C := C) n
  cases hc : celL C n with
  | nil => rw [hc] at hm; cases hm
  | cons a r =>
    rw [hc] at hm hs
    obtain ⟨j, hj, hj2⟩ := mem_celL.1 (show a ∈ celL C n by rw [hc]; simp)
    rcases List.mem_cons.1 hm with h | h
    · rw [h]; rfl
    · have h3 := (List.pairwise_cons.1 hs).1 _ h
      rcases h1 j hj with h4 | h4
      · rw [hj2] at h4; rw [← h4]; rfl
      · rw [hj2] at h4
        exact (bef_asym h3 h4).elim
/-- The corners one behind the other, the first one at the end once more. -/
theorem round_list {C : Nat → Pt} {n : Nat} (hn : 0 < n) : ∃ F : List Pt, F.length = (hulL (celL C n)).length + 1 ∧ F.take (hulL (celL C n)).length = hulL (celL C n) ∧ F[0]? = some (mnF C n) ∧ 1 ≤ (hulL (celL C n)).length ∧
    (∀ x ∈ F, ∃ i, i < n ∧ C i = x) ∧
    ∀ (i : Nat) a b, i < (hulL (celL C n)).length → F[i]? = some a → F[i + 1]? = some b → wrapK C a n = b ∧ (i + 1 = (hulL (celL C n)).length → b = mnF C n) ∧ (i + 1 < (hulL (celL C n)).length → b ≠ mnF C n ∧ b ≠ a) := by
  have h0 := cel_first (C := C) hn
  have hs := srt_celL (C := C) n
  have hmem : ∀ x, x ∈ celL C n ↔ ∃ i, i < n ∧ C i = x := fun x => mem_celL
  generalize celL C n = S at *
  generalize mnF C n = lo at *
  by_cases h1 : S.length = 1
  · have hS : S = [lo] := by
      cases S with
      | nil => simp at h1
      | cons a r =>
        cases r with
        | nil => obtain rfl : a = lo := by simpa using h0
                 rfl
        | cons b r => simp at h1
    have hH : hulL S = [lo] := by unfold hulL; rw [if_pos h1, hS]
    rw [hH]
    have hlo := (hmem lo).1 (by rw [hS]; simp)
    refine ⟨[lo, lo], rfl, rfl, rfl, Nat.le_refl _, fun x hx => ?_, fun i a b hi ha hb => ?_⟩
    · have : x = lo := by simpa using hx
      rw [this]; exact hlo
    · obtain rfl : i = 0 := by simpa using hi
      obtain rfl : lo = a := by simpa using ha
      obtain rfl : lo = b := by simpa using hb
      refine ⟨wrap_same n (fun i hi => ?_), fun _ => rfl, fun h => by simp at h⟩
      have := (hmem (C i)).2 ⟨i, hi, rfl⟩
      rw [hS] at this
      simpa using this
  · have h2 : 2 ≤ S.length := by
      cases S with
      | nil => simp at h0
      | cons a r =>
        simp only [List.length_cons] at *
        omega
    have hH : hulL S = hulP S := by unfold hulL; rw [if_neg h1]
    rw [hH]
    obtain ⟨F, f1, f2, f3, f4, f5, f6, f7, f8⟩ := hull_facts hs h2 h0
    refine ⟨F, f2, ?_, f4, by omega, fun x hx => (hmem x).1 (f8 x hx), fun i a b hi ha hb => ?_⟩
    · apply List.ext_getElem?
      intro i
      by_cases hi : i < (hulP S).length
      · rw [List.getElem?_take_of_lt hi, f3 i hi]
      · rw [List.getElem?_take_eq_none (by omega), List.getElem?_eq_none (by omega)]
    · have he := f1 i a b ha hb
      have hb2 := (hmem b).1 (f8 b (List.mem_of_getElem? hb))
      refine ⟨(wrap_edge he n (fun j hj => (hmem _).2 ⟨j, hj, rfl⟩)).1 hb2, fun e => ?_, fun hlt => ⟨fun e => f6 (i + 1) (by omega) hlt (by rw [hb, e]), fun e => he.1 e.symm⟩⟩
      rw [e, f5] at hb
      exact (Option.some.inj hb).symm
end Go.Proofs.Ytaehfildhmljeaa

namespace Go.Proofs.Ytaehfildhmljeaa
open Go.RowKit Go.Shelf
attribute [local go_sem] Oper.semAt_some

/-- Block r is the row of the slice in box z. -/
def Usd (z : Nat) (W : World) (r : Nat) : Prop := ∃ v, BoxAt W z 56 #[v] ∧ v.ownBlock = some r
theorem Usd.back {z r : Nat} {W W' : World} {row : Option Nat} (hz : z < W.heap.size) (hg : W.grownBy W' row) (hne : some z ≠ row) (h : Usd z W' r) : Usd z W r := by
  obtain ⟨v, h1, h2⟩ := h
  exact ⟨v, (hg.block z hz hne).symm.trans h1, h2⟩
/-- It stands where cells that lie from B on, and are no row of box z, turn. -/
def AbCells (B z : Nat) (J : List Pt → World → Prop) : Prop :=
  ∀ s W W' row, J s W → W.grownBy W' row → (∀ r, row = some r → B ≤ r ∧ (∃ cs t fr, W.heap[r]? = some (.cells cs t fr)) ∧ ¬ Usd z W r) → J s W'
/-- What a round keeps. -/
structure KpH (n₀ D z : Nat) (W W' : World) : Prop where
  below : Below n₀ W W'
  cells : ∀ (k : Nat) (cs : Array Value) (t : TypeId) (fr : Nat × Nat), D ≤ k → W.heap[k]? = some (.cells cs t fr) → ¬ Usd z W k → W'.heap[k]? = some (.cells cs t fr)
  free : ∀ k, k < W.heap.size → ¬ Usd z W k → ¬ Usd z W' k
theorem KpH.trans {n₀ D z : Nat} {A B C : World} (h : KpH n₀ D z A B) (k : KpH n₀ D z B C) : KpH n₀ D z A C :=
  ⟨h.below.trans k.below, fun i cs t fr hi hA hu => k.cells i cs t fr hi (h.cells i cs t fr hi hA hu) (h.free i (Array.getElem?_eq_some_iff.1 hA).1 hu), fun i hi hu => k.free i (Nat.lt_of_lt_of_le hi h.below.size) (h.free i hi hu)⟩
theorem KpH.row {n₀ D z base e size n : Nat} {W W' : World} {v : Value} {xs : List Value} (h : KpH n₀ D z W W') (ho : W.ownsRow base e size v n xs) (hD : D ≤ base) (hu : ∀ b, v.ownBlock = some b → ¬ Usd z W b) : W'.ownsRow base e size v n xs := by
  refine ⟨ho.1, ?_⟩
  rcases ho.2 with h1 | ⟨g, cap, cur, rfl, hg, hb, h2⟩
  · exact .inl h1
  · exact .inr ⟨g, cap, cur, rfl, hg, h.cells g cur e (0, 0) (by omega) hb (hu g rfl), h2⟩

/-- What has come behind r sides. -/
def outP (S : List Pt) : Nat → List Pt
  | 0 => []
  | 1 => (lowL S).dropLast
  | _ => hulP S
def turnL (S : List Pt) (r : Nat) : List Pt := if r = 1 then S.reverse else S
theorem outP_next (S : List Pt) {r : Nat} (hr : r < 2) : outP S (r + 1) = outP S r ++ ((chS [] (turnL S r)).reverse).dropLast := by
  rcases Nat.lt_or_ge r 1 with h | h
  · obtain rfl : r = 0 := by omega
    rfl
  · obtain rfl : r = 1 := by omega
    rfl
theorem turn_rev (S : List Pt) {r : Nat} (hr : r < 2) : (turnL S r).reverse = turnL S (r + 1) := by
  rcases Nat.lt_or_ge r 1 with h | h
  · obtain rfl : r = 0 := by omega
    rfl
  · obtain rfl : r = 1 := by omega
    simp [turnL]
theorem turn_mem (S : List Pt) (r : Nat) (x : Pt) : x ∈ turnL S r ↔ x ∈ S := by unfold turnL; split <;> simp
theorem turn_len (S : List Pt) (r : Nat) : (turnL S r).length = S.length := by unfold turnL; split <;> simp

set_option maxRecDepth 100000 in
set_option maxHeartbeats 16000000 in
theorem corners_in (f : Nat) (hf : 1 ≤ f) (l Bl n₀ D z : Nat) (A : Option Addr) (n c1 : Nat) (X Y V : Nat → Int) (hn : n ≤ 1000) (hv : ∀ i, i < n → vp (X i, Y i) = true) (J : List Pt → World → Prop)
    (W : World) (hC : Cloud W A n X Y V) (hJ : AbCells W.heap.size z J) (hJz : ∀ s W, J s W → z < W.heap.size ∧ ∀ r, Usd z W r → r < W.heap.size) (hz : z < D)
    (hY : ∀ pre (x : Pt) W, J pre W → pre.length < 2001 → YieldAt Fence.wide (f - 1) Try.prog l #[sp x.1 x.2] W fun e W' => e = .returned (.bool true) ∧ J (pre ++ [x]) W' ∧ KpH n₀ D z W W')
    (hBl : BoxAt W Bl 22 #[.slice A n c1]) (hD : D ≤ W.heap.size) (hW : n₀ ≤ W.heap.size) (h0 : J [] W) :
    CallsIn Fence.wide f Try.prog 115 #[.func (.yield l) #[] #[], .pointer (some ⟨Bl, 0, none⟩)] W fun e W' => (∃ v, e = .returned v) ∧ J (hulL (celL (spF X Y) n)) W' := by
  have HJ := Lib.hid hJ
  have HJz := Lib.hid hJz
  have HY := Lib.hid hY
  have HP := Lib.hid (places_any A n c1 X Y V hn W hC)
  have HVs : Hid (∀ p ∈ celL (spF X Y) n, vp p = true) := Lib.hid (fun p hp => by
    obtain ⟨i, hi, rfl⟩ := mem_celL.1 hp
    exact hv i hi)
  have hSl := celL_len (C := spF X Y) n
  generalize celL (spF X Y) n = S at *
  have hJn : ∀ s W W', J s W → Below W.heap.size W W' → J s W' := fun s W W' h hb => HJ.out s W W' none h (grown_of_below hb) (fun r e => by cases e)
  have HJn := Lib.hid hJn
  have HUn : Hid (∀ s W W' r, J s W → Below W.heap.size W W' → ¬ Usd z W r → ¬ Usd z W' r) := Lib.hid (fun s W W' r h hb hu hu' => hu (hu'.back (HJz.out s W h).1 (grown_of_below hb) (by simp)))
  clear hJ hJz hY hv hC hJn
  refine callsIn_of_wp Try.func115 rfl trivial ?_ rfl
  simp only [Try.ntmps115, List.size_toArray, List.length_cons, List.length_nil, Nat.reduceAdd, Nat.reduceSub, Array.replicate_succ, Array.replicate_zero, List.push_toArray, List.append_toArray, List.nil_append, List.cons_append]
  have a0 : W.cell? ⟨Bl, 0, none⟩ = some (.slice A n c1) := hBl.cell 0
  have aL := hBl.lt
  clear hBl
  gi_wp2
  refine And.intro trivial ?_
  gi_at_call 116
  refine (callsIn_wide.2 HP.out).mono ?_
  rintro e w1 ⟨v, rfl, hov, hb1⟩
  obtain ⟨Av, cv, hvf⟩ := own_form hov
  subst hvf
  obtain ⟨m, hm⟩ : ∃ m, m = S.length := ⟨_, rfl⟩
  rw [← hm] at hov
  rw [← hm]
  have HJ1 := Lib.hid (HJn.out _ _ _ h0 hb1)
  have HR1 := Lib.hid hov
  have HU1 : Hid (∀ b, (Value.slice Av m cv).ownBlock = some b → ¬ Usd z w1 b) := Lib.hid (fun b e hu => by
    have h1 := (hov.lt b e).1
    have h2 := hu.back (HJz.out _ _ h0).1 (grown_of_below hb1) (by simp)
    have h3 := (HJz.out _ _ h0).2 b h2
    omega)
  have HB1 := Lib.hid hb1
  have hW1 : W.heap.size ≤ w1.heap.size := hb1.size
  have HM := Lib.hid hm
  clear hov hb1 h0 a0 aL HP hm
  by_cases hm1 : m = 1
  · subst hm1
    obtain ⟨g, c0, hform, hg0, hg1⟩ := HR1.out.form (by omega)
    obtain ⟨rfl, rfl⟩ : Av = some ⟨g, 0, none⟩ ∧ cv = c0 := by simpa using hform
    obtain ⟨x, y, hS⟩ : ∃ x y, S = [(x, y)] := by
      have h := HM.out
      cases S with
      | nil => simp at h
      | cons a r =>
        cases r with
        | nil => exact ⟨a.1, a.2, rfl⟩
        | cons b r => simp at h
    have hR := HR1.out
    rw [hS] at hR
    have d0 : w1.cell? ⟨g, 0, none⟩ = some (.int .i64 x) := by rw [World.ownsRow.cellAt hR _ (by omega)]; rfl
    have d1 : w1.cell? ⟨g, 1, none⟩ = some (.int .i64 y) := by rw [World.ownsRow.cellAt hR _ (by omega)]; rfl
    have HE : Hid ([] ++ [(x, y)] = hulL S) := Lib.hid (by rw [hS]; rfl)
    obtain ⟨fn, tmps, assign, body, hy, hRd⟩ := HY.out [] (x, y) w1 HJ1.out (by simp)
    rw [HE.out] at hRd
    clear hform hg0 hR hS HR1 HU1 HJ1 HB1
    gi_wp2
    refine hRd.mono ?_
    rintro e W4 ⟨rfl, hJ4, _⟩
    gi_wp2
    refine bodyPost_ret (results_none rfl _ _ _) rfl ?_
    exact ⟨⟨_, rfl⟩, hJ4⟩
  · have hm2 : ((m : Int) == 1) = false := by rw [beq_eq_false_iff_ne]; omega
    have hm3 : ¬ (m : Int) = 1 := by omega
    have HOP : Hid (hulL S = hulP S) := Lib.hid (by unfold hulL; rw [if_neg (by rw [← HM.out]; exact hm1)])
    gi_wp2
    gi_loopw [16] (fun rv wr => ∃ r : Nat, r ≤ 2 ∧ rv = .int .i64 r ∧ Hid (J (outP S r) wr) ∧ Hid (wr.ownsRow W.heap.size 24 2 (.slice Av m cv) m (ptV (turnL S r))) ∧ Hid (∀ b, (Value.slice Av m cv).ownBlock = some b → ¬ Usd z wr b) ∧ W.heap.size ≤ wr.heap.size) (fun rv _ => 2 - (intOf rv).toNat)
    case atStart => exact ⟨0, by omega, rfl, HJ1, HR1, HU1, hW1⟩
    case round =>
      clear HJ1 HR1 HU1 hW1 HB1
      obtain ⟨r, hr, rfl, HJr, HRr, HUr, hsz⟩ := hrel
      have r0 : (0 : Int) ≤ (r : Int) := Int.natCast_nonneg _
      by_cases hr2 : r < 2
      · have r1 : (r : Int) < 2 := by omega
        have HCh := Lib.hid (chain_any (turnL S r) (.slice Av m cv) W.heap.size wr (by rw [turn_len]; omega) (fun p hp => HVs.out p ((turn_mem S r p).1 hp)) (by rw [turn_len, ← HM.out]; exact HRr.out))
        have HNx := Lib.hid (outP_next S hr2)
        have HTn := Lib.hid (turn_rev S hr2)
        have hql : (chS [] (turnL S r)).length ≤ 1000 := by have h := chS_len (turnL S r) []; rw [turn_len] at h; simp at h; omega
        obtain ⟨Q, hQ⟩ : ∃ Q, Q = (chS [] (turnL S r)).reverse := ⟨_, rfl⟩
        have hQl : (chS [] (turnL S r)).length = Q.length := by rw [hQ]; simp
        rw [← hQ] at HCh HNx
        rw [hQl] at HCh hql
        obtain ⟨q, hq⟩ : ∃ q, q = Q.length := ⟨_, rfl⟩
        rw [← hq] at HCh hql
        have HQl := Lib.hid hq
        have w1 : wrap64 ((q : Int) - 1) = (q : Int) - 1 := by unfold wrap64; omega
        clear hQ hQl hq
        gi_wp2
        refine And.intro trivial ?_
        gi_at_call 117
        refine (callsIn_wide.2 HCh.out).mono ?_
        rintro e w2 ⟨v2, rfl, ho2, hb2⟩
        obtain ⟨A2, c2, hv2⟩ := own_form ho2
        subst hv2
        have HJ2 := Lib.hid (HJn.out _ _ _ HJr.out hb2)
        have HR2 := Lib.hid (HRr.out.kept (grown_of_below hb2) (Classical.em _))
        have HU2 : Hid (∀ b, (Value.slice Av m cv).ownBlock = some b → ¬ Usd z w2 b) := Lib.hid (fun b e => HUn.out _ _ _ b HJr.out hb2 (HUr.out b e))
        have HWy := Lib.hid ho2
        have HUy : Hid (∀ b, (Value.slice A2 q c2).ownBlock = some b → ¬ Usd z w2 b) := Lib.hid (fun b e hu => by
          have h1 := (ho2.lt b e).1
          have h2 := hu.back (HJz.out _ _ HJr.out).1 (grown_of_below hb2) (by simp)
          have h3 := (HJz.out _ _ HJr.out).2 b h2
          omega)
        obtain ⟨B2, hB2⟩ : ∃ B2, B2 = wr.heap.size := ⟨_, rfl⟩
        rw [← hB2] at HWy
        have hB2W : W.heap.size ≤ B2 := by omega
        have hsz2 : B2 ≤ w2.heap.size := by rw [hB2]; exact hb2.size
        clear ho2 hb2 HJr HRr HUr HCh hB2
        gi_wp2
        gi_loopw [23] (fun iv wr => ∃ i : Nat, i ≤ q ∧ (i = 0 ∨ i + 1 ≤ q) ∧ iv = .int .i64 i ∧ Hid (J (outP S r ++ Q.take i) wr) ∧ Hid (wr.ownsRow W.heap.size 24 2 (.slice Av m cv) m (ptV (turnL S r))) ∧ Hid (∀ b, (Value.slice Av m cv).ownBlock = some b → ¬ Usd z wr b) ∧ Hid (wr.ownsRow B2 24 2 (.slice A2 q c2) q (ptV Q)) ∧ Hid (∀ b, (Value.slice A2 q c2).ownBlock = some b → ¬ Usd z wr b) ∧ W.heap.size ≤ wr.heap.size) (fun iv _ => q - (intOf iv).toNat)
        case atStart => exact ⟨0, Nat.zero_le _, Or.inl rfl, rfl, Lib.hid (by rw [List.take_zero, List.append_nil]; exact HJ2.out), HR2, HU2, HWy, HUy, by omega⟩
        case round =>
          clear HJ2 HR2 HU2 HWy HUy hsz2
          obtain ⟨i, hi, hi2, rfl, HJi, HRi, HUi, HWi, HUy, hszi⟩ := hrel
          have i0 : (0 : Int) ≤ (i : Int) := Int.natCast_nonneg _
          by_cases hlt : i + 1 < q
          · have i1 : (i : Int) < (q : Int) - 1 := by omega
            have i2 : (i : Int) < (q : Int) := by omega
            obtain ⟨g, c0, hform, hg0, hg1⟩ := HWi.out.form (by omega)
            obtain ⟨rfl, rfl⟩ : A2 = some ⟨g, 0, none⟩ ∧ c2 = c0 := by simpa using hform
            obtain ⟨⟨x, y⟩, hx⟩ : ∃ x, Q[i]? = some x := ⟨_, List.getElem?_eq_getElem (by rw [← HQl.out]; omega)⟩
            have hpt := ptV_get Q i (x, y) hx
            have d0 : wr.cell? ⟨g, i * 2, none⟩ = some (.int .i64 x) := by rw [World.ownsRow.cellAt HWi.out _ (by omega)]; exact hpt.1
            have d1 : wr.cell? ⟨g, i * 2 + 1, none⟩ = some (.int .i64 y) := by rw [World.ownsRow.cellAt HWi.out _ (by omega)]; exact hpt.2
            have HTk : Hid (outP S r ++ Q.take (i + 1) = (outP S r ++ Q.take i) ++ [(x, y)]) := Lib.hid (by rw [List.take_add_one, hx, List.append_assoc]; rfl)
            have hlen : (outP S r ++ Q.take i).length < 2001 := by
              rw [List.length_append, List.length_take]
              have h1 : (outP S r).length ≤ 1000 := by
                rcases Nat.lt_or_ge r 1 with h | h
                · obtain rfl : r = 0 := by omega
                  simp [outP]
                · obtain rfl : r = 1 := by omega
                  have h2 := chS_len S []
                  simp only [outP, lowL, List.length_dropLast, List.length_reverse]
                  simp at h2
                  omega
              omega
            obtain ⟨fn, tmps, assign, body, hy, hRd⟩ := HY.out _ (x, y) wr HJi.out hlen
            clear hlen hx hpt hform hg0
            gi_wp2
            refine hRd.mono ?_
            rintro e W4 ⟨rfl, hJ4, hk4⟩
            have HJ4 := Lib.hid hJ4
            have HR4 := Lib.hid (hk4.row HRi.out hD HUi.out)
            have HU4 : Hid (∀ b, (Value.slice Av m cv).ownBlock = some b → ¬ Usd z W4 b) := Lib.hid (fun b e => hk4.free b (HRi.out.lt b e).2 (HUi.out b e))
            have HW4 := Lib.hid (hk4.row HWi.out (by omega) HUy.out)
            have HUy4 : Hid (∀ b, (Value.slice (some ⟨g, 0, none⟩) q c2).ownBlock = some b → ¬ Usd z W4 b) := Lib.hid (fun b e => hk4.free b (HWi.out.lt b e).2 (HUy.out b e))
            have hs4 := hk4.below.size
            clear hJ4 hk4
            gi_wp2
            go_roundw
            case rel => exact ⟨i + 1, by omega, Or.inr (by omega), by go_num, Lib.hid (by rw [HTk.out]; exact HJ4.out), HR4, HU4, HW4, HUy4, by omega⟩
            case measure => simp [intOf]; omega
          · have i1 : ¬ (i : Int) < (q : Int) - 1 := by omega
            have HTk : Hid (outP S r ++ Q.take i = outP S (r + 1)) := Lib.hid (by
              rw [HNx.out]
              congr 1
              rcases Nat.eq_zero_or_pos q with h | h
              · have h1 : Q = [] := List.eq_nil_of_length_eq_zero (by rw [← HQl.out]; exact h)
                rw [h1]; simp
              · rw [List.dropLast_eq_take, ← HQl.out]
                congr 1
                omega)
            have HRv := Lib.hid (rev_own (turnL S r) (.slice Av m cv) W.heap.size wr (by rw [turn_len]; omega) (by rw [turn_len, ← HM.out]; exact HRi.out))
            rw [HTk.out] at HJi
            clear HWi HUy
            gi_wp2
            refine And.intro trivial ?_
            gi_at_call 118
            refine (callsIn_wide.2 HRv.out).mono ?_
            rintro e w5 ⟨rfl, ho5, hg5⟩
            rw [turn_len, ← HM.out, HTn.out] at ho5
            have HJ5 : Hid (J (outP S (r + 1)) w5) := Lib.hid (HJ.out _ _ _ _ HJi.out hg5 (fun b e => by
              obtain ⟨h1, cur, h2⟩ : W.heap.size ≤ b ∧ ∃ cur, wr.heap[b]? = some (.cells cur 24 (0, 0)) := by
                rcases HRi.out.2 with ⟨h, _⟩ | ⟨g, cap, cur, h, hb, hg, _⟩
                · rw [h] at e; cases e
                · rw [h] at e
                  obtain rfl : g = b := by simpa [Value.ownBlock] using e
                  exact ⟨hb, cur, hg⟩
              exact ⟨h1, ⟨cur, 24, (0, 0), h2⟩, HUi.out b e⟩))
            have HR5 := Lib.hid ho5
            have HU5 : Hid (∀ b, (Value.slice Av m cv).ownBlock = some b → ¬ Usd z w5 b) := Lib.hid (fun b e hu => by
              have h1 := (HJz.out _ _ HJi.out).1
              have h2 : some z ≠ (Value.slice Av m cv).ownBlock := fun e2 => by have := (HRi.out.lt z e2.symm).1; omega
              exact HUi.out b e (hu.back h1 hg5 h2))
            have hs5 := hg5.size
            clear ho5 hg5 HRi HUi HJi HRv
            gi_wp2
            go_roundw
            case rel => exact ⟨r + 1, by omega, by go_num, HJ5, HR5, HU5, by omega⟩
            case measure => simp [intOf]; omega
      · obtain rfl : r = 2 := by omega
        have HE : Hid (J (hulL S) wr) := Lib.hid (by rw [HOP.out]; exact HJr.out)
        clear HJr HRr HUr
        gi_wp2
        go_end0
        exact ⟨⟨_, rfl⟩, HE.out⟩
end Go.Proofs.Ytaehfildhmljeaa
