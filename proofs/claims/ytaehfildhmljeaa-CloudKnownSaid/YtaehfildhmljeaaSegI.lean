/- Plain mathematics: what linking keeps, pair by pair. It names no program. -/
import Derived.Test.YtaehfildhmljeaaSegM
namespace Go.Proofs.Ytaehfildhmljeaa

theorem rt_ext {B B' : Nat → Nat} {m : Nat} (hd : Dn B m) (h : ∀ j, j < m → B' j = B j) : ∀ k, k < m → rt B' k = rt B k := by
  have hd' : Dn B' m := fun k hk => by rw [h k hk]; exact hd k hk
  intro k
  induction k using Nat.strongRecOn with
  | _ k ih =>
    intro hk
    by_cases hf : B k = k
    · rw [rt_fix hf, rt_fix (by rw [h k hk]; exact hf)]
    · have := hd k hk
      rw [rt_step hd hk hf, rt_step hd' hk (by rw [h k hk]; exact hf), h k hk]
      exact ih (B k) (by omega) (by omega)
structure Inv (lnk : Nat → Nat → Bool) (n i : Nat) (B : Nat → Nat) : Prop where
  dn : Dn B i
  cn : ∀ k, k < i → Conn lnk n k (rt B k)
  eq : ∀ p q, p < i → q < p → lnk p q = true → rt B p = rt B q
structure InvIn (lnk : Nat → Nat → Bool) (n i j : Nat) (B : Nat → Nat) : Prop where
  dn : Dn B (i + 1)
  cn : ∀ k, k < i + 1 → Conn lnk n k (rt B k)
  eq : ∀ p q, p < i → q < p → lnk p q = true → rt B p = rt B q
  eqi : ∀ q, q < j → lnk i q = true → rt B i = rt B q
theorem Inv.start {lnk : Nat → Nat → Bool} {n i : Nat} {B : Nat → Nat} (h : Inv lnk n i B) : InvIn lnk n i 0 (upd B i i) := by
  have hx : ∀ k, k < i → rt (upd B i i) k = rt B k := rt_ext h.dn (fun j hj => upd_other _ _ (by omega))
  have hi : rt (upd B i i) i = i := rt_fix (upd_same _ _ _)
  refine ⟨fun k hk => ?_, fun k hk => ?_, fun p q hp hq hl => ?_, fun q hq => absurd hq (by omega)⟩
  · by_cases he : k = i
    · subst he; rw [upd_same]; exact Nat.le_refl _
    · rw [upd_other _ _ he]; exact h.dn k (by omega)
  · by_cases he : k = i
    · subst he; rw [hi]; exact .refl _
    · rw [hx k (by omega)]; exact h.cn k (by omega)
  · rw [hx p hp, hx q (by omega)]; exact h.eq p q hp hq hl
theorem InvIn.skip {lnk : Nat → Nat → Bool} {n i j : Nat} {B : Nat → Nat} (h : InvIn lnk n i j B) (hl : lnk i j = false) : InvIn lnk n i (j + 1) B :=
  ⟨h.dn, h.cn, h.eq, fun q hq hl' => by
    by_cases he : q = j
    · subst he; rw [hl] at hl'; cases hl'
    · exact h.eqi q (by omega) hl'⟩
theorem InvIn.same {lnk : Nat → Nat → Bool} {n i j : Nat} {B B' : Nat → Nat} (h : InvIn lnk n i j B) (hji : j ≤ i) (hd : Dn B' (i + 1)) (hr : ∀ k, k < i + 1 → rt B' k = rt B k) : InvIn lnk n i j B' :=
  ⟨hd, fun k hk => by rw [hr k hk]; exact h.cn k hk, fun p q hp hq hl => by rw [hr p (by omega), hr q (by omega)]; exact h.eq p q hp hq hl, fun q hq hl => by rw [hr i (by omega), hr q (by omega)]; exact h.eqi q hq hl⟩
theorem InvIn.join {lnk : Nat → Nat → Bool} {n i j M N : Nat} {B : Nat → Nat} (h : InvIn lnk n i j B) (hj : j < i) (hi : i < n) (hl : lnk i j = true) (hMN : (M = rt B i ∧ N = rt B j ∧ N ≤ M) ∨ (M = rt B j ∧ N = rt B i ∧ N ≤ M)) : InvIn lnk n i (j + 1) (upd B M N) := by
  have ri := rt_ok h.dn i (by omega)
  have rj := rt_ok h.dn j (by omega)
  have hNM : N ≤ M := by rcases hMN with h | h <;> exact h.2.2
  have hM : M < i + 1 ∧ B M = M := by rcases hMN with ⟨e, _⟩ | ⟨e, _⟩ <;> rw [e] <;> exact ⟨by omega, by first | exact ri.2 | exact rj.2⟩
  have hN : B N = N := by rcases hMN with ⟨_, e, _⟩ | ⟨_, e, _⟩ <;> rw [e] <;> first | exact rj.2 | exact ri.2
  have hu := rt_union h.dn hM.1 hM.2 hN hNM
  have cMN : Conn lnk n M N := by
    have c1 := h.cn i (by omega)
    have c2 := h.cn j (by omega)
    have c3 : Conn lnk n i j := .link hi (by omega) hl
    rcases hMN with ⟨e1, e2, _⟩ | ⟨e1, e2, _⟩
    · rw [e1, e2]; exact .trans (.symm c1) (.trans c3 c2)
    · rw [e1, e2]; exact .trans (.symm c2) (.trans (.symm c3) c1)
  refine ⟨dn_upd h.dn hNM, fun k hk => ?_, fun p q hp hq hl' => ?_, fun q hq hl' => ?_⟩
  · rw [hu k hk]
    split
    · rename_i e
      have := h.cn k hk
      rw [e] at this
      exact .trans this cMN
    · exact h.cn k hk
  · rw [hu p (by omega), hu q (by omega), h.eq p q hp hq hl']
  · by_cases he : q = j
    · subst he
      rw [hu i (by omega), hu q (by omega)]
      rcases hMN with ⟨e1, e2, _⟩ | ⟨e1, e2, _⟩
      · rw [← e1, ← e2, if_pos rfl]; split <;> rfl
      · rw [← e1, ← e2, if_pos rfl]; split <;> rfl
    · rw [hu i (by omega), hu q (by omega), h.eqi q (by omega) hl']
theorem InvIn.done {lnk : Nat → Nat → Bool} {n i : Nat} {B : Nat → Nat} (h : InvIn lnk n i i B) : Inv lnk n (i + 1) B :=
  ⟨h.dn, h.cn, fun p q hp hq hl => by
    by_cases he : p = i
    · subst he; exact h.eqi q hq hl
    · exact h.eq p q (by omega) hq hl⟩
theorem Inv.lab {lnk : Nat → Nat → Bool} {n : Nat} {B : Nat → Nat} (h : Inv lnk n n B) (hs : ∀ i k, lnk i k = lnk k i) : Lab lnk n (rt B) :=
  ⟨fun i hi => (rt_ok h.dn i hi).1, h.cn, fun i k hi hk hl => by
    rcases Nat.lt_trichotomy i k with hc | rfl | hc
    · exact (h.eq k i hk hc (by rw [hs]; exact hl)).symm
    · rfl
    · exact h.eq i k hi hc hl⟩
theorem Inv.none (lnk : Nat → Nat → Bool) (n : Nat) (B : Nat → Nat) : Inv lnk n 0 B := ⟨fun k hk => absurd hk (by omega), fun k hk => absurd hk (by omega), fun p q hp => absurd hp (by omega)⟩
end Go.Proofs.Ytaehfildhmljeaa
