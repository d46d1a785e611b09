/- What the texts lean on; a number's word. -/
import Derived.Test.YtnpnfdnaglcnfaaDoorWrd
import Derived.Test.YtnpnfdnaglcnfaaDoorShf
import Derived.WalkSmall
import Derived.Lib.AppendIntMem
import Derived.Lib.AtoiErrMem
namespace Go.Proofs.YtnpnfdnaglcnfaaDoor
open Go.RowKit Go.Shelf

/-- The library's variables that texts lean on. -/
def Env (w : World) : Prop := Lib.TabIs Tryd.prog w "internal/strconv.uint64pow10" .u64 Lib.pow10Tab ∧ ∃ m, w.cell? ⟨1, 0, none⟩ = some (.int .i64 m)
theorem Env.below {w w' : World} (h : Env w) (hb : Below w.heap.size w w') : Env w' := by
  obtain ⟨h1, m, h2⟩ := h
  refine ⟨?_, m, (hb.cell (p := ⟨1, 0, none⟩) (World.block_lt_of_cell? w _ h2)).trans h2⟩
  have h3 := World.block_lt_of_cell? w _ h2
  simp only at h3
  exact var?_below (g := 0) hb (by kernel_rfl) (by omega) h1
set_option maxRecDepth 100000 in
set_option maxHeartbeats 2000000 in
/-- The number of a word that is one. -/
theorem num_ok (s : ByteArray) (v : Int) (hs : s.size ≤ 1000) (h : Lib.parseIntB 64 s.data.toList = .ok v) (h1 : -1000000000000000000 < v) (h2 : v < 1000000000000000000) (he : (⟨(Lib.itoa v).toArray⟩ : ByteArray) = s) (w : World) (hE : Env w) :
    Calls Tryd.prog 96 #[.string s] w fun e w' => e = .returned (.tuple #[iv v, .bool true]) ∧ Below w.heap.size w w' := by
  have HP := Lib.hid (fun W => Tryd.strconv_ParseInt_10_at64_ok s (by omega) v h W)
  have HF := Lib.hid (fun W (hW : Env W) => Tryd.strconv_FormatInt_10 v (by omega) (by omega) W hW.1)
  rw [he] at HF
  clear h he
  go_enter Tryd.func96, Tryd.ntmps96
  have hlt : -1000000000000000000 < v ∧ v < 1000000000000000000 := ⟨h1, h2⟩
  go_wp2_with (first
    | (go_at_call 114; (with_reducible refine (HP.out _).mono ?_); rintro e w1 ⟨rfl, hw1⟩; have HB1 : Hid (Below w.heap.size w w1) := Lib.hid (by rcases hw1 with rfl | ⟨t, rfl⟩; exact Below.refl _ _; exact Lib.bytesWorld_below _ _ _); have HE1 := Lib.hid (hE.below HB1.out); clear hw1)
    | (go_at_call 65; (with_reducible refine (HF.out _ HE1.out).mono ?_); rintro e w2 ⟨rfl, k, os, hw2⟩; have HB2 : Hid (Below w1.heap.size w1 w2) := Lib.hid (by rw [hw2]; exact Lib.below_grow _ _ (Nat.le_refl _) _ _); clear hw2))
  refine bodyPost_ret (v := .tuple #[iv v, .bool true]) (by simp [results, Tryd.results96, go_sem]) rfl ⟨rfl, below_step HB1.out HB2.out⟩
end Go.Proofs.YtnpnfdnaglcnfaaDoor
