/- The reference's Register of valid clouds, window and slack in range. -/
import Derived.Test.YtaehfildhmljeaaRegM
import Derived.Test.YtaehfildhmljeaaQBel
import Derived.Test.YtaehfildhmljeaaRMtA
import Derived.Test.YtaehfildhmljeaaRef1
namespace Go.Proofs.Ytaehfildhmljeaa
open Go.RowKit Go.Shelf

def RegPost (p : Pt) (c : Nat) (e0 : Int) (w : World) (e : Ending) (w' : World) : Prop :=
  e = .returned (.tuple #[sp p.1 p.2, .int .i64 (c : Int), .int .i64 e0]) ∧ Below w.heap.size w w'
theorem betB_lt {p : Pt} {c : Nat} {st : Pt × Nat} (h : st.2 < c) : betB p c st = true := by unfold betB; simp [h]
theorem betB_ne {p : Pt} {c : Nat} {st : Pt × Nat} (h : ¬ st.2 < c) (h' : c ≠ st.2) : betB p c st = false := by unfold betB; simp [h, h']
theorem betB_eq {p b : Pt} {c : Nat} : betB p c (b, c) = (decide (stpF p < stpF b) || (decide (stpF p = stpF b) && befB p b)) := by unfold betB; rw [smp_iff]; simp
theorem regStep_out {n : Nat} {X Y : Nat → Int} {m : Nat} {X' Y' : Nat → Int} {win s : Int} {st : Pt × Nat} {p : Pt} (h : inW p win = false) : regStep n X Y m X' Y' win s st p = st := by unfold regStep; rw [h]; rfl
theorem regStep_in {n : Nat} {X Y : Nat → Int} {m : Nat} {X' Y' : Nat → Int} {win s : Int} {st : Pt × Nat} {p : Pt} (h : inW p win = true) : regStep n X Y m X' Y' win s st p = if betB p (matF n X Y m X' Y' p.1 p.2 s) st then (p, matF n X Y m X' Y' p.1 p.2 s) else st := by unfold regStep; rw [if_pos h]
theorem bset2 {W : World} {g : Nat} {a b x y : Value} (h : BoxAt W g 24 #[x, y]) : BoxAt ((W.setCell ⟨g, 0, none⟩ a).setCell ⟨g, 1, none⟩ b) g 24 #[a, b] := (h.set 0 _).set 1 _
theorem bother2 {W : World} {g h : Nat} {a b : Value} {t : TypeId} {cs : Array Value} (hb : BoxAt W g t cs) (hne : g ≠ h) : BoxAt ((W.setCell ⟨h, 0, none⟩ a).setCell ⟨h, 1, none⟩ b) g t cs := (hb.other hne 0 a).other hne 1 b
theorem bbel2 {w W : World} {g : Nat} (h : Below w.heap.size w W) (hg : w.heap.size ≤ g) (a b : Value) : Below w.heap.size w ((W.setCell ⟨g, 0, none⟩ a).setCell ⟨g, 1, none⟩ b) := bset (p := ⟨g, 1, none⟩) hg (bset (p := ⟨g, 0, none⟩) hg h a) b
set_option maxRecDepth 100000 in
set_option maxHeartbeats 16000000 in
theorem rregister_good (A : Option Addr) (n c1 : Nat) (X Y V : Nat → Int) (B : Option Addr) (m c2 : Nat) (X' Y' V' : Nat → Int) (win s : Int) (hok : chkF n X Y V = 0) (hok' : chkF m X' Y' V' = 0)
    (hn : n ≤ 60) (hm : m ≤ 60) (w0 : 0 ≤ win) (w1 : win ≤ 2000) (s0 : 0 ≤ s) (s1 : s ≤ 2000) (w : World) (hc1 : Cloud w A n X Y V) (hc2 : Cloud w B m X' Y' V') :
    Calls Try.prog 50 #[.slice A n c1, .slice B m c2, .int .i64 win, .int .i64 s] w (RegPost (regI n X Y m X' Y' win s n).1 (regI n X Y m X' Y' win s n).2 0 w) := by
  have HO := Lib.hid (fun i (hi : i < n) => ok_at hok hi)
  have HO' := Lib.hid (fun i (hi : i < m) => ok_at hok' hi)
  have HCh1 := Lib.hid (fun W (h : Cloud W A n X Y V) => rcheck_any A n c1 X Y V W h)
  have HCh2 := Lib.hid (fun W (h : Cloud W B m X' Y' V') => rcheck_any B m c2 X' Y' V' W h)
  rw [hok] at HCh1
  rw [hok'] at HCh2
  have HM : Hid (∀ a b W, -2000 ≤ a → a ≤ 2000 → -2000 ≤ b → b ≤ 2000 → Cloud W A n X Y V → Cloud W B m X' Y' V' → Calls Try.prog 52 #[.slice A n c1, .slice B m c2, sp a b, .int .i64 s] W fun e w' => e = .returned (.int .i64 ((matF n X Y m X' Y' a b s : Nat) : Int)) ∧ Below W.heap.size W w') := Lib.hid (fun a b W a1 a2 b1 b2 h h' => by
    have hh : matOk n X Y V m X' Y' V' a b s = true := by
      unfold matOk nearB
      simp [hok, hok', s0, s1]
      omega
    have := rmatch_any A n c1 X Y V B m c2 X' Y' V' a b s W h h'
    rw [matAny_yes hh] at this
    exact this)
  have HSm := Lib.hid (fun i j => regJ_sml (n := n) (X := X) (Y := Y) (X' := X') (Y' := Y') (s := s) hm w1 (regI_sml (n := n) (X := X) (Y := Y) (X' := X') (Y' := Y') (s := s) hm w1 i) i j)
  have HMat := Lib.hid (matF_le n X Y m X' Y')
  have HC1 := Lib.hid hc1
  have HC2 := Lib.hid hc2
  have y1 : ¬ win < 0 := by omega
  have y2 : ¬ 2000 < win := by omega
  have y3 : ¬ s < 0 := by omega
  have y4 : ¬ 2000 < s := by omega
  have y5 : ¬ (60 : Int) < (n : Int) := by omega
  have y6 : ¬ (60 : Int) < (m : Int) := by omega
  clear hok hok' hc1 hc2
  go_enter Try.func50, Try.ntmps50
  go_upto_region 1 with fail
  have hb8 := BoxAt.new w 24 #[.int .i64 0, .int .i64 0]
  have hB : Below w.heap.size w (w.alloc (.cells #[.int .i64 0, .int .i64 0] 24)) := (Below.refl _ w).alloc (Nat.le_refl _) _
  obtain ⟨L8, hL8⟩ : ∃ z, z = w.heap.size := ⟨_, rfl⟩
  rw [← hL8] at hb8 ⊢
  have hl8 : w.heap.size ≤ L8 := by omega
  clear hL8
  have HB8 := Lib.hid hb8
  clear hb8
  generalize w.alloc (.cells #[.int .i64 0, .int .i64 0] 24) = wx at *
  go_upto_region 12 with (first
    | (go_at_call 23; (with_reducible refine (HCh1.out _ (HC1.out.below hB)).mono ?_); rintro e w2 ⟨rfl, hb2⟩; replace hB := below_step hB hb2; have HB82 := Lib.hid (box_step HB8.out hb2))
    | (go_at_call 23; (with_reducible refine (HCh2.out _ (HC2.out.below hB)).mono ?_); rintro e w3 ⟨rfl, hb3⟩; replace hB := below_step hB hb3; have HB83 := Lib.hid (box_step HB82.out hb3))
    | (go_at_call 52; (with_reducible refine (HM.out 0 0 _ (by omega) (by omega) (by omega) (by omega) (HC1.out.below hB) (HC2.out.below hB)).mono ?_); rintro e w4 ⟨rfl, hb4⟩; replace hB := below_step hB hb4; have HB84 := Lib.hid (box_step HB83.out hb4)))
  have hb13 := BoxAt.new w4 24 #[.int .i64 0, .int .i64 0]
  have hb5 : Below w4.heap.size w4 (w4.alloc (.cells #[.int .i64 0, .int .i64 0] 24)) := (Below.refl _ w4).alloc (Nat.le_refl _) _
  obtain ⟨L13, hL13⟩ : ∃ z, z = w4.heap.size := ⟨_, rfl⟩
  rw [← hL13] at hb13 ⊢
  have HB85 := Lib.hid (box_step HB84.out hb5)
  have h813 : L8 ≠ L13 := by have := HB84.out.lt; omega
  have hl13 : w.heap.size ≤ L13 := by have := hB.size; omega
  have HB5 := Lib.hid (below_step hB hb5)
  have HB13 := Lib.hid hb13
  clear hB hb2 hb3 hb4 hb5 hb13 hL13 HB82 HB83 HB84 HB8 HCh1 HCh2
  generalize w4.alloc (.cells #[.int .i64 0, .int .i64 0] 24) = w5 at *
  have I : ∃ (i : Nat) (st : Pt × Nat), i ≤ n ∧ (Value.int .i64 ((matF n X Y m X' Y' 0 0 s : Nat) : Int)) = .int .i64 ((st.2 : Nat) : Int) ∧ (Value.int .i64 0) = .int .i64 i ∧ Hid (st = regI n X Y m X' Y' win s i) ∧ Hid (BoxAt w5 L8 24 #[.int .i64 0, .int .i64 0]) ∧ Hid (BoxAt w5 L13 24 #[.int .i64 st.1.1, .int .i64 st.1.2]) ∧ Hid (Below w.heap.size w w5) :=
    ⟨0, ((0, 0), matF n X Y m X' Y' 0 0 s), Nat.zero_le _, rfl, rfl, Lib.hid rfl, HB85, HB13, HB5⟩
  clear HB85 HB13 HB5
  go_wp2
  go_loopw [14, 15] (fun tv iv wr => ∃ (i : Nat) (st : Pt × Nat), i ≤ n ∧ tv = .int .i64 ((st.2 : Nat) : Int) ∧ iv = .int .i64 i ∧ Hid (st = regI n X Y m X' Y' win s i) ∧ Hid (BoxAt wr L8 24 #[.int .i64 0, .int .i64 0]) ∧ Hid (BoxAt wr L13 24 #[.int .i64 st.1.1, .int .i64 st.1.2]) ∧ Hid (Below w.heap.size w wr)) (fun _ iv _ => n - (intOf iv).toNat)
  case atStart => exact I
  case round =>
    clear I
    obtain ⟨i, st0, hi, rfl, rfl, HS, HB8, HB13, HB⟩ := hrel
    by_cases hlt : i < n
    · have i0 : (0 : Int) ≤ (i : Int) := Int.natCast_nonneg _
      have i1 : (i : Int) < (n : Int) := by omega
      obtain ⟨b1, o1, e1, hp1⟩ := HC1.out (by omega)
      subst e1
      have HP1 := Lib.hid hp1
      have q1 := hp1.lt (by omega)
      have HS0 : Hid (regI n X Y m X' Y' win s (i + 1) = regJ n X Y m X' Y' win s st0 i m) := Lib.hid (by rw [regI, HS.out])
      have HSj : Hid (∀ j, smlP (regJ n X Y m X' Y' win s st0 i j)) := Lib.hid (fun j => by rw [HS.out]; exact HSm.out i j)
      have I : ∃ (j : Nat) (st : Pt × Nat), j ≤ m ∧ (Value.int .i64 ((st0.2 : Nat) : Int)) = .int .i64 ((st.2 : Nat) : Int) ∧ (Value.int .i64 0) = .int .i64 j ∧ Hid (st = regJ n X Y m X' Y' win s st0 i j) ∧ Hid (BoxAt wr L8 24 #[.int .i64 0, .int .i64 0]) ∧ Hid (BoxAt wr L13 24 #[.int .i64 st.1.1, .int .i64 st.1.2]) ∧ Hid (Below w.heap.size w wr) :=
        ⟨0, st0, Nat.zero_le _, rfl, rfl, Lib.hid rfl, HB8, HB13, HB⟩
      clear HS HB8 HB13 HB hp1
      have HI := Lib.hid I
      clear I
      go_wp2
      obtain ⟨wo, rfl⟩ : ∃ x : World, x = wr := ⟨_, rfl⟩
      go_loopw [14, 16] (fun tv jv wr => ∃ (j : Nat) (st : Pt × Nat), j ≤ m ∧ tv = .int .i64 ((st.2 : Nat) : Int) ∧ jv = .int .i64 j ∧ Hid (st = regJ n X Y m X' Y' win s st0 i j) ∧ Hid (BoxAt wr L8 24 #[.int .i64 0, .int .i64 0]) ∧ Hid (BoxAt wr L13 24 #[.int .i64 st.1.1, .int .i64 st.1.2]) ∧ Hid (Below w.heap.size w wr)) (fun _ jv _ => m - (intOf jv).toNat)
      case atStart => exact HI.out
      case round =>
        clear HI
        obtain ⟨j, st, hj, rfl, rfl, HS, HB8, HB13, HB⟩ := hrel
        by_cases hltj : j < m
        · have j0 : (0 : Int) ≤ (j : Int) := Int.natCast_nonneg _
          have j1 : (j : Int) < (m : Int) := by omega
          obtain ⟨b2, o2, e2, hp2⟩ := HC2.out (by omega)
          subst e2
          have HP2 := Lib.hid hp2
          have q2 := hp2.lt (by omega)
          have l1 : b1 < wr.heap.size := Nat.lt_of_lt_of_le q1 HB.out.size
          have l2 : b2 < wr.heap.size := Nat.lt_of_lt_of_le q2 HB.out.size
          have HPQ : Hid (∀ W, Below wr.heap.size wr W → W.cell? ⟨b1, o1 + i * 3, none⟩ = some (.int .i64 (X i)) ∧ W.cell? ⟨b1, o1 + i * 3 + 1, none⟩ = some (.int .i64 (Y i)) ∧ W.cell? ⟨b1, o1 + i * 3 + 2, none⟩ = some (.int .i64 (V i)) ∧ W.cell? ⟨b2, o2 + j * 3, none⟩ = some (.int .i64 (X' j)) ∧ W.cell? ⟨b2, o2 + j * 3 + 1, none⟩ = some (.int .i64 (Y' j)) ∧ W.cell? ⟨b2, o2 + j * 3 + 2, none⟩ = some (.int .i64 (V' j))) := Lib.hid (fun W hW => by
            obtain ⟨a1, a2, a3⟩ := (HP1.out.below (below_step HB.out hW) q1) i hlt
            obtain ⟨a4, a5, a6⟩ := (HP2.out.below (below_step HB.out hW) q2) j hltj
            exact ⟨a1, a2, a3, a4, a5, a6⟩)
          obtain ⟨p0, p1, p2, p3, p4, p5⟩ := HPQ.out wr (Below.refl _ _)
          have HMi := Lib.hid (fun W => rminus_any (X i) (Y i) (X' j) (Y' j) W (HO.out i hlt).1 (HO.out i hlt).2.1 (HO'.out j hltj).1 (HO'.out j hltj).2.1)
          have hbi := (HO.out i hlt).1
          have hbi2 := (HO.out i hlt).2.1
          have hbj := (HO'.out j hltj).1
          have hbj2 := (HO'.out j hltj).2.1
          unfold okc at hbi hbi2 hbj hbj2
          have HNext : Hid (regJ n X Y m X' Y' win s st0 i (j + 1) = regStep n X Y m X' Y' win s st (X i - X' j, Y i - Y' j)) := Lib.hid (by rw [regJ, HS.out])
          have hsm := HSj.out j
          rw [← HS.out] at hsm
          have HSML := Lib.hid hsm
          obtain ⟨p, hp⟩ : ∃ p, p = X i - X' j := ⟨_, rfl⟩
          obtain ⟨q, hq⟩ : ∃ q, q = Y i - Y' j := ⟨_, rfl⟩
          rw [← hp, ← hq] at HMi HNext
          have pq : (-33554432 ≤ p ∧ p ≤ 33554432) ∧ (-33554432 ≤ q ∧ q ≤ 33554432) := by omega
          obtain ⟨⟨pa, pb⟩, qa, qb⟩ := pq
          clear hp2 hbi hbi2 hbj hbj2 hp hq hsm
          go_upto_region 18 with fail
          go_cut [17] from 73 to 83 (fun v wz => ∃ g, v = .pointer (some ⟨g, 0, none⟩) ∧ BoxAt wz g 24 #[.int .i64 p, .int .i64 q] ∧ Below wr.heap.size wr wz)
          case first =>
            go_region_held3 (fun W => W.cell? ⟨b1, o1 + i * 3, none⟩ = some (.int .i64 (X i)) ∧ W.cell? ⟨b1, o1 + i * 3 + 1, none⟩ = some (.int .i64 (Y i)) ∧ W.cell? ⟨b1, o1 + i * 3 + 2, none⟩ = some (.int .i64 (V i)) ∧ W.cell? ⟨b2, o2 + j * 3, none⟩ = some (.int .i64 (X' j)) ∧ W.cell? ⟨b2, o2 + j * 3 + 1, none⟩ = some (.int .i64 (Y' j)) ∧ W.cell? ⟨b2, o2 + j * 3 + 2, none⟩ = some (.int .i64 (V' j)))
              (first | (with_reducible refine HPQ.out _ ?_; (repeat (first | (with_reducible exact Below.refl _ _) | ((with_reducible refine bset ?_ ?_ _); (first | exact Nat.le_refl _ | omega | (simp; omega) | simp)) | ((with_reducible refine balloc ?_ ?_ _); (first | exact Nat.le_refl _ | omega | (simp; omega) | simp)) | (with_reducible refine Below.drew ?_) | (with_reducible refine below_step ?_ hb5) | (with_reducible refine below_step ?_ hb4) | (with_reducible refine below_step ?_ hb3)))) | go_keep)
              (first
                | (go_at_call 63; (with_reducible refine (rspot_any (X i) (Y i) (V i) _).mono ?_); rintro e w3 ⟨rfl, hb3⟩; have hz3 := hb3.size; (try simp at hz3); obtain ⟨hc3, hf3⟩ := bcell hb3; (try have : wr.heap.size < w4.heap.size := by omega); (try have : wr.heap.size < w3.heap.size := by omega); (try have : w4.heap.size < w3.heap.size := by omega))
                | (go_at_call 63; (with_reducible refine (rspot_any (X' j) (Y' j) (V' j) _).mono ?_); rintro e w4 ⟨rfl, hb4⟩; have hz4 := hb4.size; (try simp at hz4); obtain ⟨hc4, hf4⟩ := bcell hb4; (try have : wr.heap.size < w3.heap.size := by omega); (try have : wr.heap.size < w4.heap.size := by omega); (try have : w3.heap.size < w4.heap.size := by omega))
                | (go_at_call 98; (with_reducible refine (HMi.out _).mono ?_); rintro e w5 ⟨rfl, hb5⟩; have hz5 := hb5.size; (try simp at hz5); obtain ⟨hc5, hf5⟩ := bcell hb5; (try have : wr.heap.size < w3.heap.size := by omega); (try have : wr.heap.size < w4.heap.size := by omega); (try have : wr.heap.size < w5.heap.size := by omega); (try have : w3.heap.size < w4.heap.size := by omega); (try have : w3.heap.size < w5.heap.size := by omega); (try have : w4.heap.size < w5.heap.size := by omega)))
            all_goals go_wp2
            all_goals go_meet
            all_goals (refine ⟨_, rfl, ?_, ?_⟩)
            all_goals (repeat (first
              | (with_reducible exact BoxAt.new _ _ _)
              | (with_reducible refine bset2 (x := .int .i64 0) (y := .int .i64 0) ?_)
              | (with_reducible refine box_step ?_ hb5)
              | (with_reducible refine box_step ?_ hb4)
              | (with_reducible refine box_step ?_ hb3)
              | (with_reducible refine BoxAt.drew ?_)
              | (with_reducible exact Below.refl _ _)
              | ((with_reducible refine bset ?_ ?_ _); (first | exact Nat.le_refl _ | omega | (simp; omega) | simp))
              | ((with_reducible refine balloc ?_ ?_ _); (first | exact Nat.le_refl _ | omega | (simp; omega) | simp))
              | (with_reducible refine Below.drew ?_)
              | (with_reducible refine below_step ?_ hb5)
              | (with_reducible refine below_step ?_ hb4)
              | (with_reducible refine below_step ?_ hb3)))
          case rest =>
            obtain ⟨wd, rfl⟩ : ∃ x : World, x = wc := ⟨_, rfl⟩
            obtain ⟨g, rfl, hbg, hbw⟩ := hcut
            have HBd := Lib.hid (below_step HB.out hbw)
            have HBG := Lib.hid hbg
            have HB8d := Lib.hid (box_step HB8.out hbw)
            have HB13d := Lib.hid (box_step HB13.out hbw)
            have g0 : wd.cell? ⟨g, 0, none⟩ = some (.int .i64 p) := hbg.cell 0
            have g1 : wd.cell? ⟨g, 1, none⟩ = some (.int .i64 q) := hbg.cell 1
            have lg := hbg.lt
            have wneg : IntKind.i64.wrap (-win) = -win := IntWalk.i64_in _ (by omega)
            clear p0 p1 p2 p3 p4 p5 HPQ HMi HB HB8 HB13 hbg hbw l1 l2 HP2
            by_cases u1 : p < -win
            · have HOut : Hid (inW (p, q) win = false) := Lib.hid (by unfold inW; simp; omega)
              have HN : Hid (st = regJ n X Y m X' Y' win s st0 i (j + 1)) := Lib.hid (by rw [HNext.out, regStep_out HOut.out])
              go_wp2
              go_roundw
              case rel => exact ⟨j + 1, st, by omega, rfl, by go_num, HN, HB8d, HB13d, HBd⟩
              case measure => simp [intOf]; omega
            · by_cases u2 : win < p
              · have HOut : Hid (inW (p, q) win = false) := Lib.hid (by unfold inW; simp; omega)
                have HN : Hid (st = regJ n X Y m X' Y' win s st0 i (j + 1)) := Lib.hid (by rw [HNext.out, regStep_out HOut.out])
                go_wp2
                go_roundw
                case rel => exact ⟨j + 1, st, by omega, rfl, by go_num, HN, HB8d, HB13d, HBd⟩
                case measure => simp [intOf]; omega
              · by_cases u3 : q < -win
                · have HOut : Hid (inW (p, q) win = false) := Lib.hid (by unfold inW; simp; omega)
                  have HN : Hid (st = regJ n X Y m X' Y' win s st0 i (j + 1)) := Lib.hid (by rw [HNext.out, regStep_out HOut.out])
                  go_wp2
                  go_roundw
                  case rel => exact ⟨j + 1, st, by omega, rfl, by go_num, HN, HB8d, HB13d, HBd⟩
                  case measure => simp [intOf]; omega
                · by_cases u4 : win < q
                  · have HOut : Hid (inW (p, q) win = false) := Lib.hid (by unfold inW; simp; omega)
                    have HN : Hid (st = regJ n X Y m X' Y' win s st0 i (j + 1)) := Lib.hid (by rw [HNext.out, regStep_out HOut.out])
                    go_wp2
                    go_roundw
                    case rel => exact ⟨j + 1, st, by omega, rfl, by go_num, HN, HB8d, HB13d, HBd⟩
                    case measure => simp [intOf]; omega
                  · have HIn : Hid (inW (p, q) win = true) := Lib.hid (by unfold inW; simp; omega)
                    obtain ⟨c, hc⟩ : ∃ c, c = matF n X Y m X' Y' p q s := ⟨_, rfl⟩
                    have HNx : Hid (regJ n X Y m X' Y' win s st0 i (j + 1) = if betB (p, q) c st then ((p, q), c) else st) := Lib.hid (by rw [HNext.out, regStep_in HIn.out, hc])
                    have bp : (-2000 ≤ p ∧ p ≤ 2000) ∧ (-2000 ≤ q ∧ q ≤ 2000) := by omega
                    have HMpq : Hid (∀ W, Below w.heap.size w W → Calls Try.prog 52 #[.slice (some ⟨b1, o1, none⟩) n c1, .slice (some ⟨b2, o2, none⟩) m c2, sp p q, .int .i64 s] W fun e w' => e = .returned (.int .i64 ((c : Nat) : Int)) ∧ Below W.heap.size W w') := Lib.hid (fun W hW => by
                      subst hc
                      exact HM.out p q W bp.1.1 bp.1.2 bp.2.1 bp.2.2 (HC1.out.below hW) (HC2.out.below hW))
                    have hcm : c ≤ 60 := by rw [hc]; exact Nat.le_trans (HMat.out p q s) hm
                    have HBd0 := HBd.out
                    clear hc HNext HIn
                    obtain ⟨⟨bx, bz⟩, mo⟩ := st
                    have hs1 : (-2000 ≤ bx ∧ bx ≤ 2000) ∧ (-2000 ≤ bz ∧ bz ≤ 2000) ∧ mo ≤ 1000 := HSML.out
                    have HS1 := Lib.hid (fun W => rsize_any p q W (by omega) (by omega) (by omega) (by omega))
                    have HS2 := Lib.hid (fun W => rsize_any bx bz W (by omega) (by omega) (by omega) (by omega))
                    go_upto_region 20 with fail
                    clear u1 u2 u3 u4 wneg
                    go_upto_region 21 with (first | (go_at_call 52; (with_reducible refine (HMpq.out _ HBd0).mono ?_); rintro e we ⟨rfl, hbe⟩))
                    have HBe := Lib.hid (below_step HBd.out hbe)
                    have hbg := box_step HBG.out hbe
                    have HBGe := Lib.hid hbg
                    have HB8e := Lib.hid (box_step HB8d.out hbe)
                    have hb13 := box_step HB13d.out hbe
                    have HB13e := Lib.hid hb13
                    have g0 : we.cell? ⟨g, 0, none⟩ = some (.int .i64 p) := hbg.cell 0
                    have g1 : we.cell? ⟨g, 1, none⟩ = some (.int .i64 q) := hbg.cell 1
                    have t0 : we.cell? ⟨L13, 0, none⟩ = some (.int .i64 bx) := hb13.cell 0
                    have t1 : we.cell? ⟨L13, 1, none⟩ = some (.int .i64 bz) := hb13.cell 1
                    have lg := hbg.lt
                    have l13 := hb13.lt
                    clear hbg hb13 hbe HB8d HB13d HBG HBd HBd0 HMpq HM
                    go_cut [139] from 113 to 139 (fun v w' => ∃ bb : Bool, v = .bool bb ∧ Hid (betB (p, q) c ((bx, bz), mo) = bb) ∧ Below we.heap.size we w')
                    case first =>
                      have f0 : ∀ n os, (grd we n os).cell? ⟨g, 0, none⟩ = some (.int .i64 p) := cell_grd g0
                      have f1 : ∀ n os, (grd we n os).cell? ⟨g, 1, none⟩ = some (.int .i64 q) := cell_grd g1
                      have f2 : ∀ n os, (grd we n os).cell? ⟨L13, 0, none⟩ = some (.int .i64 bx) := cell_grd t0
                      have f3 : ∀ n os, (grd we n os).cell? ⟨L13, 1, none⟩ = some (.int .i64 bz) := cell_grd t1
                      clear g0 g1 t0 t1
                      by_cases k1 : mo < c
                      · have HV := Lib.hid (betB_lt (p := (p, q)) (st := ((bx, bz), mo)) k1)
                        have k2 : (mo : Int) < (c : Int) := by omega
                        refine wp_region_quiet_grd (by kernel_rfl) (by kernel_rfl) ?_
                        repeat (go_big_quiet_step (first
                          | (go_at_call 99; with_reducible exact Calls.grd_of (HS1.out _))
                          | (go_at_call 99; with_reducible exact Calls.grd_of (HS2.out _))
                          | (go_at_call 85; with_reducible exact Calls.grd_of (HBf.out _))))
                        refine wpQuiet_nil ?_
                        intro _ hw'
                        obtain ⟨⟨nq, osq⟩, rfl⟩ := hw'
                        have hBq := below_grd we nq osq
                        generalize grd we nq osq = wq at *
                        go_wp2
                        go_meet
                        exact ⟨_, rfl, HV, hBq⟩
                      · have k2 : decide ((mo : Int) < (c : Int)) = false := decide_eq_false (by omega)
                        by_cases k3 : c = mo
                        · subst k3
                          have k2' : decide ((c : Int) < (c : Int)) = false := k2
                          have HV0 := Lib.hid (betB_eq (p := (p, q)) (b := (bx, bz)) (c := c))
                          obtain ⟨S, hS⟩ : ∃ S, S = stpF (p, q) := ⟨_, rfl⟩
                          obtain ⟨T, hT⟩ : ∃ T, T = stpF (bx, bz) := ⟨_, rfl⟩
                          rw [← hS] at HS1 HV0
                          rw [← hT] at HS2 HV0
                          clear hS hT
                          rcases Int.lt_trichotomy S T with k4 | k4 | k4
                          · have HV : Hid (betB (p, q) c ((bx, bz), c) = true) := Lib.hid (by rw [HV0.out]; simp [k4])
                            refine wp_region_quiet_grd (by kernel_rfl) (by kernel_rfl) ?_
                            repeat (go_big_quiet_step (first
                              | (go_at_call 99; with_reducible exact Calls.grd_of (HS1.out _))
                              | (go_at_call 99; with_reducible exact Calls.grd_of (HS2.out _))
                              | (go_at_call 85; with_reducible exact Calls.grd_of (HBf.out _))))
                            refine wpQuiet_nil ?_
                            intro _ hw'
                            obtain ⟨⟨nq, osq⟩, rfl⟩ := hw'
                            have hBq := below_grd we nq osq
                            generalize grd we nq osq = wq at *
                            go_wp2
                            go_meet
                            exact ⟨_, rfl, HV, hBq⟩
                          · subst k4
                            have k5 : decide (S < S) = false := decide_eq_false (by omega)
                            obtain ⟨r, hr⟩ : ∃ r, befB (p, q) (bx, bz) = r := ⟨_, rfl⟩
                            have HBf := Lib.hid (fun W => before_any p q bx bz r (Lib.hid hr) W)
                            have HV : Hid (betB (p, q) c ((bx, bz), c) = r) := Lib.hid (by rw [HV0.out, hr]; simp)
                            clear hr
                            refine wp_region_quiet_grd (by kernel_rfl) (by kernel_rfl) ?_
                            repeat (go_big_quiet_step (first
                              | (go_at_call 99; with_reducible exact Calls.grd_of (HS1.out _))
                              | (go_at_call 99; with_reducible exact Calls.grd_of (HS2.out _))
                              | (go_at_call 85; with_reducible exact Calls.grd_of (HBf.out _))))
                            refine wpQuiet_nil ?_
                            intro _ hw'
                            obtain ⟨⟨nq, osq⟩, rfl⟩ := hw'
                            have hBq := below_grd we nq osq
                            generalize grd we nq osq = wq at *
                            go_wp2
                            go_meet
                            exact ⟨_, rfl, HV, hBq⟩
                          · have k5 : decide (S < T) = false := decide_eq_false (by omega)
                            have k6 : (S == T) = false := by simp; omega
                            have HV : Hid (betB (p, q) c ((bx, bz), c) = false) := Lib.hid (by rw [HV0.out, k5, decide_eq_false (show ¬ S = T by omega)]; rfl)
                            refine wp_region_quiet_grd (by kernel_rfl) (by kernel_rfl) ?_
                            repeat (go_big_quiet_step (first
                              | (go_at_call 99; with_reducible exact Calls.grd_of (HS1.out _))
                              | (go_at_call 99; with_reducible exact Calls.grd_of (HS2.out _))
                              | (go_at_call 85; with_reducible exact Calls.grd_of (HBf.out _))))
                            refine wpQuiet_nil ?_
                            intro _ hw'
                            obtain ⟨⟨nq, osq⟩, rfl⟩ := hw'
                            have hBq := below_grd we nq osq
                            generalize grd we nq osq = wq at *
                            go_wp2
                            go_meet
                            exact ⟨_, rfl, HV, hBq⟩
                        · have k4 : ((c : Int) == (mo : Int)) = false := by simp; omega
                          have HV := Lib.hid (betB_ne (p := (p, q)) (st := ((bx, bz), mo)) k1 k3)
                          refine wp_region_quiet_grd (by kernel_rfl) (by kernel_rfl) ?_
                          repeat (go_big_quiet_step (first
                            | (go_at_call 99; with_reducible exact Calls.grd_of (HS1.out _))
                            | (go_at_call 99; with_reducible exact Calls.grd_of (HS2.out _))
                            | (go_at_call 85; with_reducible exact Calls.grd_of (HBf.out _))))
                          refine wpQuiet_nil ?_
                          intro _ hw'
                          obtain ⟨⟨nq, osq⟩, rfl⟩ := hw'
                          have hBq := below_grd we nq osq
                          generalize grd we nq osq = wq at *
                          go_wp2
                          go_meet
                          exact ⟨_, rfl, HV, hBq⟩
                    case rest =>
                      obtain ⟨wf, rfl⟩ : ∃ x : World, x = wc := ⟨_, rfl⟩
                      obtain ⟨bb, rfl, HBB, hbf⟩ := hcut
                      have HBf := Lib.hid (below_step HBe.out hbf)
                      have HB8f := Lib.hid (box_step HB8e.out hbf)
                      have hb13 := box_step HB13e.out hbf
                      have HB13f := Lib.hid hb13
                      have hbg := box_step HBGe.out hbf
                      have g0 : wf.cell? ⟨g, 0, none⟩ = some (.int .i64 p) := hbg.cell 0
                      have g1 : wf.cell? ⟨g, 1, none⟩ = some (.int .i64 q) := hbg.cell 1
                      have t0 : wf.cell? ⟨L13, 0, none⟩ = some (.int .i64 bx) := hb13.cell 0
                      have t1 : wf.cell? ⟨L13, 1, none⟩ = some (.int .i64 bz) := hb13.cell 1
                      have v0 : wf.frozen? ⟨L13, 0, none⟩ = false := hb13.frozen 0
                      have v1 : wf.frozen? ⟨L13, 1, none⟩ = false := hb13.frozen 1
                      have lg := hbg.lt
                      have l13 := hb13.lt
                      clear hb13 hbg hbf HB8e HB13e HBGe HBe HS1 HS2
                      cases bb with
                      | true =>
                        have HN : Hid (((p, q), c) = regJ n X Y m X' Y' win s st0 i (j + 1)) := Lib.hid (by rw [HNx.out, HBB.out]; rfl)
                        have HB13z := Lib.hid (bset2 (a := .int .i64 p) (b := .int .i64 q) HB13f.out)
                        have HB8z := Lib.hid (bother2 (a := .int .i64 p) (b := .int .i64 q) HB8f.out h813)
                        have HBz := Lib.hid (bbel2 HBf.out hl13 (.int .i64 p) (.int .i64 q))
                        go_wp2
                        go_roundw
                        case rel => exact ⟨j + 1, ((p, q), c), by omega, rfl, by go_num, HN, HB8z, HB13z, HBz⟩
                        case measure => simp [intOf]; omega
                      | false =>
                        have HN : Hid (((bx, bz), mo) = regJ n X Y m X' Y' win s st0 i (j + 1)) := Lib.hid (by rw [HNx.out, HBB.out]; rfl)
                        go_wp2
                        go_roundw
                        case rel => exact ⟨j + 1, ((bx, bz), mo), by omega, rfl, by go_num, HN, HB8f, HB13f, HBf⟩
                        case measure => simp [intOf]; omega
        · obtain rfl : j = m := by omega
          have j1 : ¬ (j : Int) < (j : Int) := by omega
          have HN : Hid (st = regI n X Y j X' Y' win s (i + 1)) := Lib.hid (by rw [HS0.out, HS.out])
          go_wp2
          go_roundw
          case rel => exact ⟨i + 1, st, by omega, rfl, by go_num, HN, HB8, HB13, HB⟩
          case measure => simp [intOf]; omega
    · obtain rfl : i = n := by omega
      have i1 : ¬ (i : Int) < (i : Int) := by omega
      obtain ⟨⟨bx, bz⟩, mo⟩ := st0
      have h8 := HB8.out
      have h13 := HB13.out
      have t0 : wr.cell? ⟨L13, 0, none⟩ = some (.int .i64 bx) := h13.cell 0
      have t1 : wr.cell? ⟨L13, 1, none⟩ = some (.int .i64 bz) := h13.cell 1
      have v0 : wr.frozen? ⟨L8, 0, none⟩ = false := h8.frozen 0
      have v1 : wr.frozen? ⟨L8, 1, none⟩ = false := h8.frozen 1
      have s0' : wr.cell? ⟨L8, 0, none⟩ = some (.int .i64 0) := h8.cell 0
      have s1' : wr.cell? ⟨L8, 1, none⟩ = some (.int .i64 0) := h8.cell 1
      have l13 := h13.lt
      have l8 := h8.lt
      have HB8z := Lib.hid (bset2 (a := .int .i64 bx) (b := .int .i64 bz) h8)
      have HBz := Lib.hid (bbel2 HB.out hl8 (.int .i64 bx) (.int .i64 bz))
      clear h8 h13 HB8 HB13 HB
      go_wp2
      have z0 := HB8z.out.cell 0
      have z1 := HB8z.out.cell 1
      generalize ((wr.setCell ⟨L8, 0, none⟩ (.int .i64 bx)).setCell ⟨L8, 1, none⟩ (.int .i64 bz)) = wz at *
      replace z0 : wz.cell? ⟨L8, 0, none⟩ = some (.int .i64 bx) := z0
      replace z1 : wz.cell? ⟨L8, 1, none⟩ = some (.int .i64 bz) := z1
      refine bodyPost_ret (v := .tuple #[.agg #[.int .i64 bx, .int .i64 bz], .int .i64 ((mo : Nat) : Int), .int .i64 0]) (by simp [results, Try.results50, go_sem, z0, z1]) rfl ⟨?_, HBz.out⟩
      rw [← HS.out]
end Go.Proofs.Ytaehfildhmljeaa
