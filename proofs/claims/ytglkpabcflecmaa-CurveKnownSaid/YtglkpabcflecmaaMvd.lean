/- The law's own 'moved': a curve of which all points are moved. -/
import Derived.Test.YtglkpabcflecmaaJMath
import Derived.Test.YtglkpabcflecmaaKCur
import Derived.Test.YtglkpabcflecmaaRnd
import Derived.Deep.AppendLies
namespace Go.Proofs.Ytglkpabcflecmaa
open Go.RowKit Go.Shelf

theorem mv_boxes (w : World) (s : Value) (p q : Int) :
    ∃ W0, W0 = ((((w.alloc (.cells #[s] 24)).alloc (.cells #[.int .i64 p, .int .i64 q] 43)).alloc (.cells #[.slice none 0 0] 24)).alloc (.cells #[.slice none 0 0] 24)) ∧
      BoxAt W0 w.heap.size 24 #[s] ∧ BoxAt W0 (w.heap.size + 1) 43 #[.int .i64 p, .int .i64 q] ∧ BoxAt W0 (w.heap.size + 1 + 1) 24 #[.slice none 0 0] ∧ BoxAt W0 (w.heap.size + 1 + 1 + 1) 24 #[.slice none 0 0] ∧
      Below w.heap.size w W0 ∧ W0.heap.size = w.heap.size + 1 + 1 + 1 + 1 := by
  have h1 := BoxAt.new (w.alloc (.cells #[s] 24)) 43 #[.int .i64 p, .int .i64 q]
  have h2 := BoxAt.new ((w.alloc (.cells #[s] 24)).alloc (.cells #[.int .i64 p, .int .i64 q] 43)) 24 #[.slice none 0 0]
  have h3 := BoxAt.new (((w.alloc (.cells #[s] 24)).alloc (.cells #[.int .i64 p, .int .i64 q] 43)).alloc (.cells #[.slice none 0 0] 24)) 24 #[.slice none 0 0]
  simp only [World.size_alloc] at h1 h2 h3
  exact ⟨_, rfl, (((BoxAt.new w 24 _).alloc _).alloc _).alloc _, (h1.alloc _).alloc _, h2.alloc _, h3, ((((Below.refl _ w).alloc (Nat.le_refl _) _).alloc (by simp) _).alloc (by simp; omega) _).alloc (by simp; omega) _, by simp⟩

def MvPost (c : Crv) (p q : Int) (w : World) (e : Ending) (w' : World) : Prop := ∃ g c', e = .returned (cv g 0 c.n c') ∧ Pts w' g 0 c.n (mv c p q).X (mv c p q).Y ∧ Below w.heap.size w w' ∧ w.heap.size ≤ g ∧ c.n ≤ c'

set_option maxRecDepth 100000 in
set_option maxHeartbeats 4000000 in
theorem moved_any (b off cap : Nat) (c : Crv) (p q : Int) (w : World) (hp : Pts w b off c.n c.X c.Y) (hn0 : 0 < c.n) (hn1 : c.n ≤ 1000) (hb1 : ∀ i, i < c.n → -1000000000000 ≤ c.X i ∧ c.X i ≤ 1000000000000) (hb2 : ∀ i, i < c.n → -1000000000000 ≤ c.Y i ∧ c.Y i ≤ 1000000000000)
    (p1 : -1000000000000 ≤ p) (p2 : p ≤ 1000000000000) (q1 : -1000000000000 ≤ q) (q2 : q ≤ 1000000000000) :
    Calls Try.prog 57 #[cv b off c.n cap, sp p q] w (MvPost c p q w) := by
  obtain ⟨i0_, hi0, hz0, hz1, hz2⟩ := info_parts Try.info43
  have hI0 := Lib.hid hi0
  have hZ0 := Lib.hid hz0
  have hZ1 := Lib.hid hz1
  have hZ2 := Lib.hid hz2
  clear hi0 hz0 hz1 hz2
  have hb := hp.lt hn0
  obtain ⟨W0, hW0, f24, f43, fR, f5, hB, hsz⟩ := mv_boxes w (.slice (some ⟨b, off, none⟩) c.n cap) p q
  have HP := Lib.hid (hp.below hB hb)
  go_enter Try.func57, Try.ntmps57
  go_wp2
  rw [← hW0]
  clear hW0
  have h24 : Hid (∀ W, Below (w.heap.size + 1 + 1 + 1) W0 W → W.cell? ⟨w.heap.size, 0, none⟩ = some (.slice (some ⟨b, off, none⟩) c.n cap)) := fun W hW => (hW.cell (p := ⟨w.heap.size, 0, none⟩) (by show w.heap.size < _; omega)).trans (f24.cell 0)
  have h43 : Hid (∀ W, Below (w.heap.size + 1 + 1 + 1) W0 W → W.cell? ⟨w.heap.size + 1, 0, none⟩ = some (.int .i64 p) ∧ W.cell? ⟨w.heap.size + 1, 1, none⟩ = some (.int .i64 q)) := fun W hW => ⟨(hW.cell (p := ⟨w.heap.size + 1, 0, none⟩) (by show w.heap.size + 1 < _; omega)).trans (f43.cell 0), (hW.cell (p := ⟨w.heap.size + 1, 1, none⟩) (by show w.heap.size + 1 < _; omega)).trans (f43.cell 1)⟩
  have hRb : Hid (∀ W, Below (w.heap.size + 1 + 1 + 1) W0 W → BoxAt W (w.heap.size + 1 + 1) 24 #[.slice none 0 0]) := fun W hW => (hW.block _ (by omega)).trans fR
  have hpt : Hid (∀ W, Below (w.heap.size + 1 + 1 + 1) W0 W → Pts W b off c.n c.X c.Y) := fun W hW => HP.out.below hW (by omega)
  go_loopw [6] (fun i wr => ∃ (k : Nat) (v : Value), k ≤ c.n ∧ i = .int .i64 k ∧ BoxAt wr (w.heap.size + 1 + 1 + 1) 24 #[v] ∧ Hid (wr.ownsRow (w.heap.size + 1 + 1 + 1 + 1) 43 2 v k (cellsL (mv c p q).X (mv c p q).Y k)) ∧ Below (w.heap.size + 1 + 1 + 1) W0 wr) (fun i _ => c.n - (intOf i).toNat)
  case atStart => exact ⟨0, _, Nat.zero_le _, rfl, f5, World.ownsRow_nil _ _ _ _, Below.refl _ _⟩
  case round =>
    obtain ⟨k, v, hk, rfl, bC, HO, hBr⟩ := hrel
    have hszr : w.heap.size + 1 + 1 + 1 + 1 ≤ wr.heap.size := by have := hBr.size; omega
    have c0 := h24.out _ hBr
    by_cases hlt : k < c.n
    · obtain ⟨x0, x1⟩ := hpt.out _ hBr k hlt
      obtain ⟨y0, y1⟩ := h43.out _ hBr
      have cC : wr.cell? ⟨w.heap.size + 1 + 1 + 1, 0, none⟩ = some v := bC.cell 0
      have i1 : (0 : Int) ≤ (k : Int) := Int.natCast_nonneg _
      have i2 : (k : Int) < (c.n : Int) := by omega
      obtain ⟨bx1, bx2⟩ := hb1 k hlt
      obtain ⟨by1, by2⟩ := hb2 k hlt
      have eX : Hid ((mv c p q).X k = c.X k + p) := rfl
      have eY : Hid ((mv c p q).Y k = c.Y k + q) := rfl
      have hst : Hid (cellsL (mv c p q).X (mv c p q).Y (k + 1) = cellsL (mv c p q).X (mv c p q).Y k ++ [.int .i64 ((mv c p q).X k), .int .i64 ((mv c p q).Y k)]) := rfl
      have hXY : Hid (∀ W, Below (w.heap.size + 1 + 1 + 1) W0 W → W.cell? ⟨b, off + k * 2, none⟩ = some (.int .i64 (c.X k)) ∧ W.cell? ⟨b, off + k * 2 + 1, none⟩ = some (.int .i64 (c.Y k))) := fun W hW => hpt.out W hW k hlt
      obtain ⟨cs, hcs⟩ : ∃ z, z = cellsL (mv c p q).X (mv c p q).Y k := ⟨_, rfl⟩
      have HST := Lib.hid (hst.out.trans (by rw [← hcs]))
      rw [← hcs] at HO
      clear hst hcs
      obtain ⟨zx, hzx⟩ : ∃ z, z = c.X k + p := ⟨_, rfl⟩
      obtain ⟨zy, hzy⟩ : ∃ z, z = c.Y k + q := ⟨_, rfl⟩
      have hw1 : IntKind.i64.wrap (c.X k + p) = zx := by rw [hzx]; exact IntWalk.i64_in _ (by omega)
      have hw2 : IntKind.i64.wrap (c.Y k + q) = zy := by rw [hzy]; exact IntWalk.i64_in _ (by omega)
      rw [← hzx] at eX
      rw [← hzy] at eY
      generalize c.X k = X at *
      generalize c.Y k = Y at *
      clear hzx hzy
      have lsrc := World.block_lt_of_cell? wr _ x0
      have lC := bC.lt
      have l0 : w.heap.size < wr.heap.size := by omega
      have l1 : w.heap.size + 1 < wr.heap.size := by omega
      have hbn : b < w.heap.size := hb
      have hne1 : w.heap.size ≠ w.heap.size + 1 + 1 + 1 := by omega
      have hne2 : w.heap.size + 1 ≠ w.heap.size + 1 + 1 + 1 := by omega
      have hne3 : b ≠ w.heap.size + 1 + 1 + 1 := by omega
      have hne4 := Ne.symm hne1
      have hne5 := Ne.symm hne2
      have hne6 := Ne.symm hne3
      go_upto_region 5 with fail
      have HOd := Lib.hid (HO.out.kept (grown_of_below (Below.refl _ wr).drew) (Classical.em _))
      refine wp_region_noPanic ?_
      refine wp_region_held_drew (S := (fun w' => w'.cell? ⟨w.heap.size, 0, none⟩ = some (.slice (some ⟨b, off, none⟩) c.n cap) ∧ w'.cell? ⟨b, off + k * 2, none⟩ = some (.int .i64 X) ∧ w'.cell? ⟨b, off + k * 2 + 1, none⟩ = some (.int .i64 Y) ∧ w'.cell? ⟨w.heap.size + 1, 0, none⟩ = some (.int .i64 p) ∧ w'.cell? ⟨w.heap.size + 1, 1, none⟩ = some (.int .i64 q))) (by kernel_rfl) ⟨c0, x0, x1, y0, y1⟩ (fun hHeld => ?_)
      refine wpAnyH_take (i := 0) (oi := { dst := some 14, op := Op.fieldAddr 24 (Operand.tmp 5) 0, type := 0, pos := "outright.go:156", after := #[], guard := none }) (v := .pointer (some ⟨w.heap.size + 1 + 1 + 1, 0, none⟩)) rfl (by kernel_rfl) (by kernel_rfl) (by kernel_rfl) (fun _ _ _ h => h) (Or.inl ⟨by rfl, (by intro w0 hSw; (try dsimp only at hSw); go_simp)⟩) (by assumption) ?_
      (try simp only [Act.put, List.setIfInBounds_toArray, List.set_cons_zero, List.set_cons_succ])
      refine wpAnyH_take (i := 2) (oi := { dst := some 16, op := Op.fieldAddr 24 (Operand.tmp 2) 0, type := 0, pos := "outright.go:156", after := #[], guard := none }) (v := .pointer (some ⟨w.heap.size, 0, none⟩)) rfl (by kernel_rfl) (by kernel_rfl) (by kernel_rfl) (fun _ _ _ h => h) (Or.inl ⟨by rfl, (by intro w0 hSw; (try dsimp only at hSw); go_simp)⟩) (by assumption) ?_
      (try simp only [Act.put, List.setIfInBounds_toArray, List.set_cons_zero, List.set_cons_succ])
      refine wpAnyH_take (i := 3) (oi := { dst := some 17, op := Op.load 22 (Operand.tmp 16), type := 22, pos := "outright.go:156", after := #[{ on := 2, ground := Ground.data }], guard := none }) (v := .slice (some ⟨b, off, none⟩) c.n cap) rfl (by kernel_rfl) (by kernel_rfl) (by kernel_rfl) (fun _ _ _ h => h) (Or.inl ⟨by rfl, (by intro w0 hSw; (try dsimp only at hSw); go_simp)⟩) (by assumption) ?_
      (try simp only [Act.put, List.setIfInBounds_toArray, List.set_cons_zero, List.set_cons_succ])
      refine wpAnyH_take (i := 4) (oi := { dst := some 18, op := Op.move (Operand.tmp 6), type := 3, pos := "outright.go:156", after := #[], guard := none }) (v := .int .i64 k) rfl (by kernel_rfl) (by kernel_rfl) (by kernel_rfl) (fun _ _ _ h => h) (Or.inl ⟨by rfl, (by intro w0 hSw; (try dsimp only at hSw); go_simp)⟩) (by assumption) ?_
      (try simp only [Act.put, List.setIfInBounds_toArray, List.set_cons_zero, List.set_cons_succ])
      refine wpAnyH_take (i := 5) (oi := { dst := some 19, op := Op.indexAddr 22 (Operand.tmp 17) (Operand.tmp 18), type := 0, pos := "outright.go:156", after := #[{ on := 3, ground := Ground.data }, { on := 4, ground := Ground.data }], guard := none }) (v := .pointer (some ⟨b, off + k * 2, none⟩)) rfl (by kernel_rfl) (by kernel_rfl) (by kernel_rfl) (fun _ _ _ h => h) (Or.inl ⟨by rfl, (by intro w0 hSw; (try dsimp only at hSw); go_simp)⟩) (by assumption) ?_
      (try simp only [Act.put, List.setIfInBounds_toArray, List.set_cons_zero, List.set_cons_succ])
      refine wpAnyH_take (i := 6) (oi := { dst := some 20, op := Op.fieldAddr 43 (Operand.tmp 19) 0, type := 0, pos := "outright.go:156", after := #[{ on := 5, ground := Ground.data }], guard := none }) (v := .pointer (some ⟨b, off + k * 2, none⟩)) rfl (by kernel_rfl) (by kernel_rfl) (by kernel_rfl) (fun _ _ _ h => h) (Or.inl ⟨by rfl, (by intro w0 hSw; (try dsimp only at hSw); go_simp)⟩) (by assumption) ?_
      (try simp only [Act.put, List.setIfInBounds_toArray, List.set_cons_zero, List.set_cons_succ])
      refine wpAnyH_take (i := 7) (oi := { dst := some 21, op := Op.load 2 (Operand.tmp 20), type := 2, pos := "outright.go:156", after := #[{ on := 6, ground := Ground.data }], guard := none }) (v := .int .i64 X) rfl (by kernel_rfl) (by kernel_rfl) (by kernel_rfl) (fun _ _ _ h => h) (Or.inl ⟨by rfl, (by intro w0 hSw; (try dsimp only at hSw); go_simp)⟩) (by assumption) ?_
      (try simp only [Act.put, List.setIfInBounds_toArray, List.set_cons_zero, List.set_cons_succ])
      refine wpAnyH_take (i := 8) (oi := { dst := some 22, op := Op.fieldAddr 43 (Operand.tmp 3) 0, type := 0, pos := "outright.go:156", after := #[], guard := none }) (v := .pointer (some ⟨w.heap.size + 1, 0, none⟩)) rfl (by kernel_rfl) (by kernel_rfl) (by kernel_rfl) (fun _ _ _ h => h) (Or.inl ⟨by rfl, (by intro w0 hSw; (try dsimp only at hSw); go_simp)⟩) (by assumption) ?_
      (try simp only [Act.put, List.setIfInBounds_toArray, List.set_cons_zero, List.set_cons_succ])
      refine wpAnyH_take (i := 9) (oi := { dst := some 23, op := Op.load 2 (Operand.tmp 22), type := 2, pos := "outright.go:156", after := #[{ on := 8, ground := Ground.data }], guard := none }) (v := .int .i64 p) rfl (by kernel_rfl) (by kernel_rfl) (by kernel_rfl) (fun _ _ _ h => h) (Or.inl ⟨by rfl, (by intro w0 hSw; (try dsimp only at hSw); go_simp)⟩) (by assumption) ?_
      (try simp only [Act.put, List.setIfInBounds_toArray, List.set_cons_zero, List.set_cons_succ])
      refine wpAnyH_take (i := 10) (oi := { dst := some 24, op := Op.binOp BinOp.add 2 (Operand.tmp 21) (Operand.tmp 23) 2, type := 2, pos := "outright.go:156", after := #[{ on := 7, ground := Ground.data }, { on := 9, ground := Ground.data }], guard := none }) (v := .int .i64 zx) rfl (by kernel_rfl) (by kernel_rfl) (by kernel_rfl) (fun _ _ _ h => h) (Or.inl ⟨by rfl, (by intro w0 hSw; (try dsimp only at hSw); go_simp)⟩) (by assumption) ?_
      (try simp only [Act.put, List.setIfInBounds_toArray, List.set_cons_zero, List.set_cons_succ])
      refine wpAnyH_take (i := 11) (oi := { dst := some 25, op := Op.fieldAddr 24 (Operand.tmp 2) 0, type := 0, pos := "outright.go:156", after := #[], guard := none }) (v := .pointer (some ⟨w.heap.size, 0, none⟩)) rfl (by kernel_rfl) (by kernel_rfl) (by kernel_rfl) (fun _ _ _ h => h) (Or.inl ⟨by rfl, (by intro w0 hSw; (try dsimp only at hSw); go_simp)⟩) (by assumption) ?_
      (try simp only [Act.put, List.setIfInBounds_toArray, List.set_cons_zero, List.set_cons_succ])
      refine wpAnyH_take (i := 12) (oi := { dst := some 26, op := Op.load 22 (Operand.tmp 25), type := 22, pos := "outright.go:156", after := #[{ on := 11, ground := Ground.data }], guard := none }) (v := .slice (some ⟨b, off, none⟩) c.n cap) rfl (by kernel_rfl) (by kernel_rfl) (by kernel_rfl) (fun _ _ _ h => h) (Or.inl ⟨by rfl, (by intro w0 hSw; (try dsimp only at hSw); go_simp)⟩) (by assumption) ?_
      (try simp only [Act.put, List.setIfInBounds_toArray, List.set_cons_zero, List.set_cons_succ])
      refine wpAnyH_take (i := 13) (oi := { dst := some 27, op := Op.move (Operand.tmp 6), type := 3, pos := "outright.go:156", after := #[], guard := none }) (v := .int .i64 k) rfl (by kernel_rfl) (by kernel_rfl) (by kernel_rfl) (fun _ _ _ h => h) (Or.inl ⟨by rfl, (by intro w0 hSw; (try dsimp only at hSw); go_simp)⟩) (by assumption) ?_
      (try simp only [Act.put, List.setIfInBounds_toArray, List.set_cons_zero, List.set_cons_succ])
      refine wpAnyH_take (i := 14) (oi := { dst := some 28, op := Op.indexAddr 22 (Operand.tmp 26) (Operand.tmp 27), type := 0, pos := "outright.go:156", after := #[{ on := 12, ground := Ground.data }, { on := 13, ground := Ground.data }], guard := none }) (v := .pointer (some ⟨b, off + k * 2, none⟩)) rfl (by kernel_rfl) (by kernel_rfl) (by kernel_rfl) (fun _ _ _ h => h) (Or.inl ⟨by rfl, (by intro w0 hSw; (try dsimp only at hSw); go_simp)⟩) (by assumption) ?_
      (try simp only [Act.put, List.setIfInBounds_toArray, List.set_cons_zero, List.set_cons_succ])
      refine wpAnyH_take (i := 15) (oi := { dst := some 29, op := Op.fieldAddr 43 (Operand.tmp 28) 1, type := 0, pos := "outright.go:156", after := #[{ on := 14, ground := Ground.data }], guard := none }) (v := .pointer (some ⟨b, off + k * 2 + 1, none⟩)) rfl (by kernel_rfl) (by kernel_rfl) (by kernel_rfl) (fun _ _ _ h => h) (Or.inl ⟨by rfl, (by intro w0 hSw; (try dsimp only at hSw); go_simp)⟩) (by assumption) ?_
      (try simp only [Act.put, List.setIfInBounds_toArray, List.set_cons_zero, List.set_cons_succ])
      refine wpAnyH_take (i := 16) (oi := { dst := some 30, op := Op.load 2 (Operand.tmp 29), type := 2, pos := "outright.go:156", after := #[{ on := 15, ground := Ground.data }], guard := none }) (v := .int .i64 Y) rfl (by kernel_rfl) (by kernel_rfl) (by kernel_rfl) (fun _ _ _ h => h) (Or.inl ⟨by rfl, (by intro w0 hSw; (try dsimp only at hSw); go_simp)⟩) (by assumption) ?_
      (try simp only [Act.put, List.setIfInBounds_toArray, List.set_cons_zero, List.set_cons_succ])
      refine wpAnyH_take (i := 17) (oi := { dst := some 31, op := Op.fieldAddr 43 (Operand.tmp 3) 1, type := 0, pos := "outright.go:156", after := #[], guard := none }) (v := .pointer (some ⟨w.heap.size + 1, 1, none⟩)) rfl (by kernel_rfl) (by kernel_rfl) (by kernel_rfl) (fun _ _ _ h => h) (Or.inl ⟨by rfl, (by intro w0 hSw; (try dsimp only at hSw); go_simp)⟩) (by assumption) ?_
      (try simp only [Act.put, List.setIfInBounds_toArray, List.set_cons_zero, List.set_cons_succ])
      refine wpAnyH_take (i := 18) (oi := { dst := some 32, op := Op.load 2 (Operand.tmp 31), type := 2, pos := "outright.go:156", after := #[{ on := 17, ground := Ground.data }], guard := none }) (v := .int .i64 q) rfl (by kernel_rfl) (by kernel_rfl) (by kernel_rfl) (fun _ _ _ h => h) (Or.inl ⟨by rfl, (by intro w0 hSw; (try dsimp only at hSw); go_simp)⟩) (by assumption) ?_
      (try simp only [Act.put, List.setIfInBounds_toArray, List.set_cons_zero, List.set_cons_succ])
      refine wpAnyH_take (i := 19) (oi := { dst := some 33, op := Op.binOp BinOp.add 2 (Operand.tmp 30) (Operand.tmp 32) 2, type := 2, pos := "outright.go:156", after := #[{ on := 16, ground := Ground.data }, { on := 18, ground := Ground.data }], guard := none }) (v := .int .i64 zy) rfl (by kernel_rfl) (by kernel_rfl) (by kernel_rfl) (fun _ _ _ h => h) (Or.inl ⟨by rfl, (by intro w0 hSw; (try dsimp only at hSw); go_simp)⟩) (by assumption) ?_
      (try simp only [Act.put, List.setIfInBounds_toArray, List.set_cons_zero, List.set_cons_succ])
      refine wpAnyH_take (i := 20) (oi := { dst := some 34, op := Op.build 43 #[(0, Operand.tmp 24), (1, Operand.tmp 33)], type := 43, pos := "outright.go:156", after := #[{ on := 10, ground := Ground.data }, { on := 19, ground := Ground.data }], guard := none }) (v := .agg #[.int .i64 zx, .int .i64 zy]) rfl (by kernel_rfl) (by kernel_rfl) (by kernel_rfl) (fun _ _ _ h => h) (Or.inl ⟨by rfl, (by intro w0 hSw; (try dsimp only at hSw); go_simp)⟩) (by assumption) ?_
      (try simp only [Act.put, List.setIfInBounds_toArray, List.set_cons_zero, List.set_cons_succ])
      refine wpAnyH_ready (rs := [1, 21]) (by kernel_rfl) (by simp) ?_
      refine AllReadyH.cons (o := { dst := some 15, op := Op.load 22 (Operand.tmp 14), type := 22, pos := "outright.go:156", after := #[{ on := 0, ground := Ground.data }], guard := none }) rfl (fun K hK => ?_) (AllReadyH.cons (o := { dst := some 35, op := Op.buildSlice 22 1 #[(0, Operand.tmp 34)], type := 22, pos := "outright.go:156", after := #[{ on := 20, ground := Ground.data }], guard := none }) rfl (fun K hK => ?_) AllReadyH.nil)
      · go_simp
        refine hK.out _ _ (by go_keep) (fun hHeld => ?_)
        clear hK K
        (try simp only [Act.put, List.setIfInBounds_toArray, List.set_cons_zero, List.set_cons_succ])
        refine wpAnyH_ready (rs := [21]) (by kernel_rfl) (by simp) ?_
        refine AllReadyH.cons (o := { dst := some 35, op := Op.buildSlice 22 1 #[(0, Operand.tmp 34)], type := 22, pos := "outright.go:156", after := #[{ on := 20, ground := Ground.data }], guard := none }) rfl (fun K hK => ?_) AllReadyH.nil
        go_simp
        refine hK.out _ _ (by go_keep) (fun hHeld => ?_)
        clear hK K
        (try simp only [Act.put, List.setIfInBounds_toArray, List.set_cons_zero, List.set_cons_succ])
        refine wpAnyH_ready (rs := [22]) (by kernel_rfl) (by simp) ?_
        refine AllReadyH.cons (o := { dst := some 36, op := Op.call { callee := Callee.builtin Builtin.append, args := #[Operand.tmp 15, Operand.tmp 35], argTypes := #[22, 22] }, type := 22, pos := "outright.go:156", after := #[{ on := 1, ground := Ground.data }, { on := 21, ground := Ground.data }], guard := none }) rfl (fun K hK => ?_) AllReadyH.nil
        refine step_append_lies _ rfl _ _ 22 rfl (w.heap.size + 1 + 1 + 1 + 1) 43 i0_ _ 2 16 Try.underlying22 hI0.out hZ0.out hZ1.out hZ2.out rfl (by decide) v k cs rfl (HOd.out.alloc _) ⟨wr.heap.size, 0, none⟩ 1 1 [.int .i64 zx, .int .i64 zy] rfl rfl (World.news_of_block (cs := #[.int .i64 zx, .int .i64 zy]) (t := 43) (fr := (0, 0)) (heap_alloc_new wr.drew _)) (by simp [Value.oneCell']) (by decide) (by unfold maxLen; omega) (by omega) (by simp; omega) _ rfl ?_
        intro gg cap1 w7 hown7 hgrow hat hlt7
        have hBd : Below (w.heap.size + 1 + 1 + 1) W0 w7 := (hBr.drew.alloc (by simp; omega) _).grown hgrow (by simp; omega) (fun g e => by have := (row_cells HOd.out e).1; omega)
        have bC7 : Hid (BoxAt w7 (w.heap.size + 1 + 1 + 1) 24 #[v]) := ((bC.drew.alloc _).grown hgrow (box_ne_row bC.drew (by decide) HOd.out))
        have cC7 : w7.cell? ⟨w.heap.size + 1 + 1 + 1, 0, none⟩ = some v := BoxAt.cell bC7.out 0
        have fC7 : w7.frozen? ⟨w.heap.size + 1 + 1 + 1, 0, none⟩ = false := BoxAt.frozen bC7.out 0
        have s0 := h24.out _ hBd
        obtain ⟨s1, s2⟩ := h43.out _ hBd
        have s3 : w7.cell? ⟨b, off + k * 2, none⟩ = some (.int .i64 X) := (hgrow.cell_far ⟨b, off + k * 2, none⟩ (by simp; omega) (fun e => by have := (row_cells HOd.out e.symm).1; simp at this; omega)).trans (by simp [*])
        have s4 : w7.cell? ⟨b, off + k * 2 + 1, none⟩ = some (.int .i64 Y) := (hgrow.cell_far ⟨b, off + k * 2 + 1, none⟩ (by simp; omega) (fun e => by have := (row_cells HOd.out e.symm).1; simp at this; omega)).trans (by simp [*])
        refine hK.out _ _ ⟨s0, s3, s4, s1, s2⟩ (fun hHeld => ?_)
        clear hK K
        (try simp only [Act.put, List.setIfInBounds_toArray, List.set_cons_zero, List.set_cons_succ])
        refine wpAnyH_take (i := 23) (oi := { dst := some 37, op := Op.fieldAddr 24 (Operand.tmp 5) 0, type := 0, pos := "outright.go:156", after := #[{ on := 0, ground := Ground.phase }, { on := 1, ground := Ground.phase }, { on := 2, ground := Ground.phase }, { on := 3, ground := Ground.phase }, { on := 4, ground := Ground.phase }, { on := 5, ground := Ground.phase }, { on := 6, ground := Ground.phase }, { on := 7, ground := Ground.phase }, { on := 8, ground := Ground.phase }, { on := 9, ground := Ground.phase }, { on := 10, ground := Ground.phase }, { on := 11, ground := Ground.phase }, { on := 12, ground := Ground.phase }, { on := 13, ground := Ground.phase }, { on := 14, ground := Ground.phase }, { on := 15, ground := Ground.phase }, { on := 16, ground := Ground.phase }, { on := 17, ground := Ground.phase }, { on := 18, ground := Ground.phase }, { on := 19, ground := Ground.phase }, { on := 20, ground := Ground.phase }, { on := 21, ground := Ground.phase }, { on := 22, ground := Ground.phase }], guard := none }) (v := .pointer (some ⟨w.heap.size + 1 + 1 + 1, 0, none⟩)) rfl (by kernel_rfl) (by kernel_rfl) (by kernel_rfl) (fun _ _ _ h => h) (Or.inl ⟨by rfl, (by intro w0 hSw; (try dsimp only at hSw); go_simp)⟩) (by assumption) ?_
        (try simp only [Act.put, List.setIfInBounds_toArray, List.set_cons_zero, List.set_cons_succ])
        refine wpAnyH_ready (rs := [24]) (by kernel_rfl) (by simp) ?_
        refine AllReadyH.cons (o := { dst := none, op := Op.store 22 (Operand.tmp 37) (Operand.tmp 36), type := 0, pos := "outright.go:156", after := #[{ on := 23, ground := Ground.data }, { on := 22, ground := Ground.data }, { on := 22, ground := Ground.chain }, { on := 0, ground := Ground.phase }, { on := 1, ground := Ground.phase }, { on := 2, ground := Ground.phase }, { on := 3, ground := Ground.phase }, { on := 4, ground := Ground.phase }, { on := 5, ground := Ground.phase }, { on := 6, ground := Ground.phase }, { on := 7, ground := Ground.phase }, { on := 8, ground := Ground.phase }, { on := 9, ground := Ground.phase }, { on := 10, ground := Ground.phase }, { on := 11, ground := Ground.phase }, { on := 12, ground := Ground.phase }, { on := 13, ground := Ground.phase }, { on := 14, ground := Ground.phase }, { on := 15, ground := Ground.phase }, { on := 16, ground := Ground.phase }, { on := 17, ground := Ground.phase }, { on := 18, ground := Ground.phase }, { on := 19, ground := Ground.phase }, { on := 20, ground := Ground.phase }, { on := 21, ground := Ground.phase }, { on := 22, ground := Ground.phase }], guard := none }) rfl (fun K hK => ?_) AllReadyH.nil
        go_simp
        refine hK.out _ _ ⟨h24.out _ (hBd.setCell (p := ⟨w.heap.size + 1 + 1 + 1, 0, none⟩) (Nat.le_refl _) _), (hXY.out _ (hBd.setCell (p := ⟨w.heap.size + 1 + 1 + 1, 0, none⟩) (Nat.le_refl _) _)).1, (hXY.out _ (hBd.setCell (p := ⟨w.heap.size + 1 + 1 + 1, 0, none⟩) (Nat.le_refl _) _)).2, (h43.out _ (hBd.setCell (p := ⟨w.heap.size + 1 + 1 + 1, 0, none⟩) (Nat.le_refl _) _)).1, (h43.out _ (hBd.setCell (p := ⟨w.heap.size + 1 + 1 + 1, 0, none⟩) (Nat.le_refl _) _)).2⟩ (fun hHeld => ?_)
        clear hK K
        (try simp only [Act.put, List.setIfInBounds_toArray, List.set_cons_zero, List.set_cons_succ])
        refine wpAnyH_done (by kernel_rfl) ?_ _
        refine NoPanic.normal ?_
        have HO7 := Lib.hid hown7
        have hgb := (row_cells hown7 (j := gg) rfl).1
        clear hown7 hat
        go_wp2
        go_roundw
        case rel => exact ⟨k + 1, _, by omega, by go_num, bC7.out.set 0 _, by show World.ownsRow _ _ _ _ _ _ _; rw [HST.out, eX.out, eY.out]; exact HO7.out.kept (grownBy_setCell' _ _ _) (.inr (by simp [Value.ownBlock]; omega)), hBd.setCell (p := ⟨w.heap.size + 1 + 1 + 1, 0, none⟩) (Nat.le_refl _) _⟩
        case measure => simp [intOf]; omega
      · go_simp
        refine hK.out _ _ (by go_keep) (fun hHeld => ?_)
        clear hK K
        (try simp only [Act.put, List.setIfInBounds_toArray, List.set_cons_zero, List.set_cons_succ])
        refine wpAnyH_ready (rs := [1]) (by kernel_rfl) (by simp) ?_
        refine AllReadyH.cons (o := { dst := some 15, op := Op.load 22 (Operand.tmp 14), type := 22, pos := "outright.go:156", after := #[{ on := 0, ground := Ground.data }], guard := none }) rfl (fun K hK => ?_) AllReadyH.nil
        go_simp
        refine hK.out _ _ (by go_keep) (fun hHeld => ?_)
        clear hK K
        (try simp only [Act.put, List.setIfInBounds_toArray, List.set_cons_zero, List.set_cons_succ])
        refine wpAnyH_ready (rs := [22]) (by kernel_rfl) (by simp) ?_
        refine AllReadyH.cons (o := { dst := some 36, op := Op.call { callee := Callee.builtin Builtin.append, args := #[Operand.tmp 15, Operand.tmp 35], argTypes := #[22, 22] }, type := 22, pos := "outright.go:156", after := #[{ on := 1, ground := Ground.data }, { on := 21, ground := Ground.data }], guard := none }) rfl (fun K hK => ?_) AllReadyH.nil
        refine step_append_lies _ rfl _ _ 22 rfl (w.heap.size + 1 + 1 + 1 + 1) 43 i0_ _ 2 16 Try.underlying22 hI0.out hZ0.out hZ1.out hZ2.out rfl (by decide) v k cs rfl (HOd.out.alloc _) ⟨wr.heap.size, 0, none⟩ 1 1 [.int .i64 zx, .int .i64 zy] rfl rfl (World.news_of_block (cs := #[.int .i64 zx, .int .i64 zy]) (t := 43) (fr := (0, 0)) (heap_alloc_new wr.drew _)) (by simp [Value.oneCell']) (by decide) (by unfold maxLen; omega) (by omega) (by simp; omega) _ rfl ?_
        intro gg cap1 w7 hown7 hgrow hat hlt7
        have hBd : Below (w.heap.size + 1 + 1 + 1) W0 w7 := (hBr.drew.alloc (by simp; omega) _).grown hgrow (by simp; omega) (fun g e => by have := (row_cells HOd.out e).1; omega)
        have bC7 : Hid (BoxAt w7 (w.heap.size + 1 + 1 + 1) 24 #[v]) := ((bC.drew.alloc _).grown hgrow (box_ne_row bC.drew (by decide) HOd.out))
        have cC7 : w7.cell? ⟨w.heap.size + 1 + 1 + 1, 0, none⟩ = some v := BoxAt.cell bC7.out 0
        have fC7 : w7.frozen? ⟨w.heap.size + 1 + 1 + 1, 0, none⟩ = false := BoxAt.frozen bC7.out 0
        have s0 := h24.out _ hBd
        obtain ⟨s1, s2⟩ := h43.out _ hBd
        have s3 : w7.cell? ⟨b, off + k * 2, none⟩ = some (.int .i64 X) := (hgrow.cell_far ⟨b, off + k * 2, none⟩ (by simp; omega) (fun e => by have := (row_cells HOd.out e.symm).1; simp at this; omega)).trans (by simp [*])
        have s4 : w7.cell? ⟨b, off + k * 2 + 1, none⟩ = some (.int .i64 Y) := (hgrow.cell_far ⟨b, off + k * 2 + 1, none⟩ (by simp; omega) (fun e => by have := (row_cells HOd.out e.symm).1; simp at this; omega)).trans (by simp [*])
        refine hK.out _ _ ⟨s0, s3, s4, s1, s2⟩ (fun hHeld => ?_)
        clear hK K
        (try simp only [Act.put, List.setIfInBounds_toArray, List.set_cons_zero, List.set_cons_succ])
        refine wpAnyH_take (i := 23) (oi := { dst := some 37, op := Op.fieldAddr 24 (Operand.tmp 5) 0, type := 0, pos := "outright.go:156", after := #[{ on := 0, ground := Ground.phase }, { on := 1, ground := Ground.phase }, { on := 2, ground := Ground.phase }, { on := 3, ground := Ground.phase }, { on := 4, ground := Ground.phase }, { on := 5, ground := Ground.phase }, { on := 6, ground := Ground.phase }, { on := 7, ground := Ground.phase }, { on := 8, ground := Ground.phase }, { on := 9, ground := Ground.phase }, { on := 10, ground := Ground.phase }, { on := 11, ground := Ground.phase }, { on := 12, ground := Ground.phase }, { on := 13, ground := Ground.phase }, { on := 14, ground := Ground.phase }, { on := 15, ground := Ground.phase }, { on := 16, ground := Ground.phase }, { on := 17, ground := Ground.phase }, { on := 18, ground := Ground.phase }, { on := 19, ground := Ground.phase }, { on := 20, ground := Ground.phase }, { on := 21, ground := Ground.phase }, { on := 22, ground := Ground.phase }], guard := none }) (v := .pointer (some ⟨w.heap.size + 1 + 1 + 1, 0, none⟩)) rfl (by kernel_rfl) (by kernel_rfl) (by kernel_rfl) (fun _ _ _ h => h) (Or.inl ⟨by rfl, (by intro w0 hSw; (try dsimp only at hSw); go_simp)⟩) (by assumption) ?_
        (try simp only [Act.put, List.setIfInBounds_toArray, List.set_cons_zero, List.set_cons_succ])
        refine wpAnyH_ready (rs := [24]) (by kernel_rfl) (by simp) ?_
        refine AllReadyH.cons (o := { dst := none, op := Op.store 22 (Operand.tmp 37) (Operand.tmp 36), type := 0, pos := "outright.go:156", after := #[{ on := 23, ground := Ground.data }, { on := 22, ground := Ground.data }, { on := 22, ground := Ground.chain }, { on := 0, ground := Ground.phase }, { on := 1, ground := Ground.phase }, { on := 2, ground := Ground.phase }, { on := 3, ground := Ground.phase }, { on := 4, ground := Ground.phase }, { on := 5, ground := Ground.phase }, { on := 6, ground := Ground.phase }, { on := 7, ground := Ground.phase }, { on := 8, ground := Ground.phase }, { on := 9, ground := Ground.phase }, { on := 10, ground := Ground.phase }, { on := 11, ground := Ground.phase }, { on := 12, ground := Ground.phase }, { on := 13, ground := Ground.phase }, { on := 14, ground := Ground.phase }, { on := 15, ground := Ground.phase }, { on := 16, ground := Ground.phase }, { on := 17, ground := Ground.phase }, { on := 18, ground := Ground.phase }, { on := 19, ground := Ground.phase }, { on := 20, ground := Ground.phase }, { on := 21, ground := Ground.phase }, { on := 22, ground := Ground.phase }], guard := none }) rfl (fun K hK => ?_) AllReadyH.nil
        go_simp
        refine hK.out _ _ ⟨h24.out _ (hBd.setCell (p := ⟨w.heap.size + 1 + 1 + 1, 0, none⟩) (Nat.le_refl _) _), (hXY.out _ (hBd.setCell (p := ⟨w.heap.size + 1 + 1 + 1, 0, none⟩) (Nat.le_refl _) _)).1, (hXY.out _ (hBd.setCell (p := ⟨w.heap.size + 1 + 1 + 1, 0, none⟩) (Nat.le_refl _) _)).2, (h43.out _ (hBd.setCell (p := ⟨w.heap.size + 1 + 1 + 1, 0, none⟩) (Nat.le_refl _) _)).1, (h43.out _ (hBd.setCell (p := ⟨w.heap.size + 1 + 1 + 1, 0, none⟩) (Nat.le_refl _) _)).2⟩ (fun hHeld => ?_)
        clear hK K
        (try simp only [Act.put, List.setIfInBounds_toArray, List.set_cons_zero, List.set_cons_succ])
        refine wpAnyH_done (by kernel_rfl) ?_ _
        refine NoPanic.normal ?_
        have HO7 := Lib.hid hown7
        have hgb := (row_cells hown7 (j := gg) rfl).1
        clear hown7 hat
        go_wp2
        go_roundw
        case rel => exact ⟨k + 1, _, by omega, by go_num, bC7.out.set 0 _, by show World.ownsRow _ _ _ _ _ _ _; rw [HST.out, eX.out, eY.out]; exact HO7.out.kept (grownBy_setCell' _ _ _) (.inr (by simp [Value.ownBlock]; omega)), hBd.setCell (p := ⟨w.heap.size + 1 + 1 + 1, 0, none⟩) (Nat.le_refl _) _⟩
        case measure => simp [intOf]; omega
    · obtain rfl : k = c.n := by omega
      have i2 : ¬ ((c.n : Nat) : Int) < (c.n : Int) := by omega
      obtain ⟨g, cap', rfl, hg1, hg2⟩ := HO.out.form hn0
      have cC : wr.cell? ⟨w.heap.size + 1 + 1 + 1, 0, none⟩ = some (.slice (some ⟨g, 0, none⟩) c.n cap') := bC.cell 0
      have bR := Lib.hid (hRb.out _ hBr)
      have cR : wr.cell? ⟨w.heap.size + 1 + 1, 0, none⟩ = some (.slice none 0 0) := BoxAt.cell bR.out 0
      have fR2 : wr.frozen? ⟨w.heap.size + 1 + 1, 0, none⟩ = false := BoxAt.frozen bR.out 0
      have hP := Lib.hid (Pts.of_own HO.out)
      have hcc : Hid (c.n ≤ cap') := by
        rcases HO.out.2 with ⟨h, _⟩ | ⟨g, c1, cur, h, _, _, h2, _⟩
        · cases h
        · cases h; exact h2
      go_wp2
      have hz := (BoxAt.set bR.out 0 (.slice (some ⟨g, 0, none⟩) c.n cap'))
      have z0 := hz.cell 0
      have e : ((#[Value.slice none 0 0] : Array Value).setIfInBounds 0 (.slice (some ⟨g, 0, none⟩) c.n cap')) = #[.slice (some ⟨g, 0, none⟩) c.n cap'] := rfl
      rw [e] at z0
      have hP2 : Pts (wr.setCell ⟨w.heap.size + 1 + 1, 0, none⟩ (.slice (some ⟨g, 0, none⟩) c.n cap')) g 0 c.n (mv c p q).X (mv c p q).Y := fun i hi => by
        obtain ⟨a1, a2⟩ := hP.out i hi
        exact ⟨(World.cell?_of_block (Below.heap_setCell _ _ _ _ (by show g ≠ w.heap.size + 1 + 1; omega))).trans a1, (World.cell?_of_block (Below.heap_setCell _ _ _ _ (by show g ≠ w.heap.size + 1 + 1; omega))).trans a2⟩
      exact bodyPost_ret (v := cv g 0 c.n cap') (by simp [results, Try.results57, go_sem, z0]) rfl ⟨g, cap', rfl, hP2, (hB.trans (hBr.mono (by omega))).setCell (p := ⟨w.heap.size + 1 + 1, 0, none⟩) (by show w.heap.size ≤ w.heap.size + 1 + 1; omega) _, by omega, hcc.out⟩
end Go.Proofs.Ytglkpabcflecmaa
