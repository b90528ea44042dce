/-
  The program's Digest: the hash of the bytes.
-/
import Derived.Test.YtikinofopkjdjaaDoorG45
import Derived.Test.YtikinofopkjdjaaDoorG25
set_option linter.unusedVariables false
namespace Go.Proofs.YtikinofopkjdjaaDoor
open Go.RowKit WM TR

/-- The digest of a tree. -/
def digT (t : T) : List UInt8 := ofB 1 [str (encT t)]
theorem encP_str (l : List UInt8) : encP [str l] = encB l := by simp [encP, str_list]
theorem digT_len (t : T) : (digT t).length = 16 := by
  unfold digT ofB
  rw [List.length_take]
  have : (sha (inputOf 1 [str (encT t)])).length = 32 := rfl
  omega

set_option maxRecDepth 100000 in
set_option maxHeartbeats 4000000 in
theorem digest_is (d : Nat) (t : T) (S : Nat → Prop) (A : Option Addr) (c : Nat) (w : World) (h : Rep w S d t (nd t A c)) (hin : In S w.heap.size) (hs : size t ≤ 10000) (hk : KT 2 w) :
    Calls Tryd.prog 13 #[.agg #[.int .i64 t.k, .int .i64 t.n, .int .i64 t.m, .slice A t.kids.length c]] w fun e w' => e = .returned (.agg (bs (digT t)).toArray) ∧ Below w.heap.size w w' := by
  obtain ⟨n, hn⟩ : ∃ n, t.kids.length = n := ⟨_, rfl⟩
  have hok := h.ok (by omega)
  have hen := encT_small t hok
  have hE : (encP [str (encT t)]).length ≤ 1000000 := by
    rw [encP_str]
    unfold encB
    rw [List.length_append]
    have := (enc_len (n := ((encT t).length : Int)) ⟨by omega, by omega⟩).2
    omega
  obtain ⟨W1, hW1⟩ : ∃ W, W = (w.alloc (.cells #[.int .i64 t.k, .int .i64 t.n, .int .i64 t.m, .slice A n c] 26)).alloc (.cells (bs (List.replicate 16 0)).toArray 31) := ⟨_, rfl⟩
  have hz : W1.heap.size = w.heap.size + 2 := by rw [hW1, size_alloc, size_alloc]
  have hB1 : Below w.heap.size w W1 := by rw [hW1]; exact ba (below_new _ _) _
  have hZ1 : Blk W1 (w.heap.size + 1) 31 (bs (List.replicate 16 0)).toArray := by rw [hW1]; exact Blk.new_at _ _ (by rw [size_alloc]) rfl
  have hZ0 : Blk W1 w.heap.size 26 #[.int .i64 t.k, .int .i64 t.n, .int .i64 t.m, .slice A n c] := by rw [hW1]; exact (Blk.new _ _ _).alloc _
  have hC := encode_is d t S A c W1 (h.later hin hB1) (hin.more hB1.size) (by omega)
  rw [hn] at hC ⊢
  have HC := Lib.hid hC
  have HK := Lib.hid hk
  have HB1 := Lib.hid hB1
  have HZ1 := Lib.hid hZ1
  have HZ := Lib.hid hz
  have HE := Lib.hid hE
  have HW1 := Lib.hid hW1
  have HLD : Hid (∀ i z, ([.int .i64 t.k, .int .i64 t.n, .int .i64 t.m, .slice A n c] : List Value)[i]? = some z → W1.cell? ⟨w.heap.size, 0 + i, none⟩ = some z) := Lib.hid (by
    intro i z hz
    rw [hZ0.cell (0 + i), Nat.zero_add]; simpa using hz)
  clear h hin hs hk hok hen hE hz hB1 hZ1 hZ0 hC hW1 hn
  go_enter Tryd.func13, Tryd.ntmps13
  go_upto_region 1 with fail
  have e16 : (#[.int .u8 0, .int .u8 0, .int .u8 0, .int .u8 0, .int .u8 0, .int .u8 0, .int .u8 0, .int .u8 0, .int .u8 0, .int .u8 0, .int .u8 0, .int .u8 0, .int .u8 0, .int .u8 0, .int .u8 0, .int .u8 0] : Array Value) = (bs (List.replicate 16 0)).toArray := by kernel_rfl
  rw [e16, ← HW1.out]
  clear e16
  go_wp2_with (first
    | (refine wpList_load_mid rfl 26 (.tmp 1) rfl w.heap.size 0 rfl [.int .i64 t.k, .int .i64 t.n, .int .i64 t.m, .slice A n c] _ HLD.out Tryd.underlying26 rfl (by rw [size_node]; rfl) ?_)
    | (go_at_call 12; go_loud (refine HC.out.mono ?_; rintro e w2 ⟨A2, c2, rfl, ho2, hb2⟩; have hcv := conv_str (c := c2) (Reads.of_own ho2); have HB2 := Lib.hid hb2; clear ho2 hb2))
    | (go_at_call 36; go_loud (have hrd : Reads (w2.alloc (.cells #[.string (str (encT t))] 9)) (w2.alloc (.cells #[.string (str (encT t))] 9)).heap.size 1 (some ⟨w2.heap.size, 0, none⟩) [str (encT t)].length (ss [str (encT t)]) := ⟨rfl, fun _ => ⟨_, rfl, (by rw [size_alloc]; exact Nat.lt_succ_self _), one_new _ _ _⟩⟩; refine (of_ 1 _ [str (encT t)] 1 _ (HK.out.below (ba (bt HB1.out HB2.out) _)) hrd (by have := HE.out; omega) (by simp)).mono ?_; rintro e w3 ⟨rfl, hb3⟩; have HB3 := Lib.hid (bt (bt HB1.out HB2.out) (bt (below_new w2 (.cells #[.string (str (encT t))] 9)) hb3)); have HZ3 := Lib.hid ((HZ1.out.below HB2.out HZ1.out.lt).below (bt (below_new w2 (.cells #[.string (str (encT t))] 9)) hb3) (by have := (HZ1.out.below HB2.out HZ1.out.lt).lt; omega)); clear hb3 hrd))
    | (refine wpList_store_row rfl 31 (.tmp 2) (.tmp 7) rfl (w.heap.size + 1) (bs (digT t)).toArray rfl rfl 31 _ HZ3.out (by rw [Tryd.size31]; simp [bs_length, digT_len]) (by simp [bs_length, digT_len]) (all_oneCell_toArray (bs_one _)) ?_))
  refine bodyPost_ret (results_cell_row Tryd.results13 _ _ (w.heap.size + 1) 31 (bs (digT t)).toArray (0, 0) _ rfl (HZ3.out.setRow _) Tryd.underlying31 rfl (by rw [Tryd.size31]; simp [bs_length, digT_len])) rfl ⟨rfl, below_setRow HB3.out (by omega) _⟩
end Go.Proofs.YtikinofopkjdjaaDoor
