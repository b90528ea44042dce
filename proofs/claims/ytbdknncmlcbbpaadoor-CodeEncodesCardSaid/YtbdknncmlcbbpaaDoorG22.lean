/-
  A law's code of one function.
-/
import Derived.Test.YtbdknncmlcbbpaaDoorG16
import Derived.Test.YtbdknncmlcbbpaaDoorG21
import Derived.Test.YtbdknncmlcbbpaaDoorG17
import Derived.Test.YtbdknncmlcbbpaaDoorG07
set_option linter.unusedVariables false
namespace Go.Proofs.YtbdknncmlcbbpaaDoor
open Go.RowKit WM TR KM

set_option maxRecDepth 100000 in
set_option maxHeartbeats 2000000 in
theorem one_is (A : Option Addr) (c : Nat) (body : List Ins) (w : World) (hbo : BodyR w (fun b => b < w.heap.size) ⟨0, 1, A, c, body⟩) :
    Calls Tryd.prog 40 #[.slice A body.length c] w fun e w' => ∃ g, e = .returned (.agg #[.int .i64 0, .slice (some ⟨g, 0, none⟩) 1 1]) ∧ CoR w' (fun b => b < w'.heap.size) (some ⟨g, 0, none⟩) 1 [⟨0, 1, A, c, body⟩] ∧ Below w.heap.size w w' := by
  obtain ⟨n, hn⟩ : ∃ n, body.length = n := ⟨_, rfl⟩
  obtain ⟨B, hB⟩ : ∃ B, B = w.heap.size := ⟨_, rfl⟩
  obtain ⟨W2, hW2⟩ : ∃ W, W = (w.alloc (.cells #[.int .i64 0, .slice none 0 0] 25)).alloc (.cells #[.int .i64 0, .int .i64 1, .slice A n c, .slice none 0 0] 51) := ⟨_, rfl⟩
  have hb2 : Below w.heap.size w W2 := by rw [hW2]; exact ba (below_new _ _) _
  have kr : Blk W2 B 25 #[.int .i64 0, .slice none 0 0] := by rw [hW2, hB]; exact (Blk.new _ _ _).alloc _
  have kf : Blk W2 (B + 1) 51 #[.int .i64 0, .int .i64 1, .slice A n c, .slice none 0 0] := by rw [hW2, hB, ← size_alloc w (.cells #[.int .i64 0, .slice none 0 0] 25)]; exact Blk.new _ _ _
  have hco : CoR W2 (fun b => b < W2.heap.size ∧ b ≠ B) (some ⟨B + 1, 0, none⟩) 1 [⟨0, 1, A, c, body⟩] := by
    refine ⟨⟨rfl, fun _ => ⟨_, rfl, ⟨kf.lt, by show B + 1 ≠ B; omega⟩, fun j u hu => ?_⟩⟩, Nat.le_refl _, by simp, fun e he => ?_⟩
    · have h1 := kf.cell j
      have h2 : (entsC [(⟨0, 1, A, c, body⟩ : Ent)])[j]? = (#[Value.int .i64 0, .int .i64 1, .slice A n c, .slice none 0 0])[j]? := by
        rw [← hn]; simp [entsC, entC]
      rw [h2] at hu
      rw [Addr.add_lit, Nat.zero_add, h1]; exact hu
    · rw [List.mem_singleton.1 he]
      exact hbo.keep (fun b hb' => hb2.block b hb') fun b (hb' : b < w.heap.size) => ⟨Nat.lt_of_lt_of_le hb' hb2.size, by omega⟩
  obtain ⟨r0, r1, q0, q1⟩ : W2.cell? ⟨B, 0, none⟩ = some (.int .i64 0) ∧ W2.cell? ⟨B, 1, none⟩ = some (.slice none 0 0) ∧ W2.frozen? ⟨B, 0, none⟩ = false ∧ W2.frozen? ⟨B, 1, none⟩ = false := ⟨kr.cell 0, kr.cell 1, kr.frozen 0, kr.frozen 1⟩
  have HW2 := Lib.hid hW2
  have HB2 := Lib.hid hb2
  have HCO := Lib.hid hco
  have HB := Lib.hid hB
  rw [hn]
  have KR := Lib.hid kr
  clear hW2 hb2 hco kr kf hbo
  go_enter Tryd.func40, Tryd.ntmps40
  go_upto_region 1 with fail
  obtain ⟨Wr, hWr⟩ : ∃ W, W = w.alloc (.cells #[.int .i64 0, .slice none 0 0] 25) := ⟨_, rfl⟩
  have hws : Wr.heap.size = B + 1 := by rw [hWr, hB]; simp
  have hw22 : W2 = Wr.alloc (.cells #[.int .i64 0, .int .i64 1, .slice A n c, .slice none 0 0] 51) := by rw [HW2.out, hWr]
  obtain ⟨Wz, hWz⟩ : ∃ Wz, Wz = (W2.setCell ⟨B, 0, none⟩ (.int .i64 0)).setCell ⟨B, 1, none⟩ (.slice (some ⟨B + 1, 0, none⟩) 1 1) := ⟨_, rfl⟩
  have kz : Blk Wz B 25 #[.int .i64 0, .slice (some ⟨B + 1, 0, none⟩) 1 1] := by
    rw [hWz]
    have := (KR.out.set_ 0 (.int .i64 0)).set_ 1 (.slice (some ⟨B + 1, 0, none⟩) 1 1)
    simpa using this
  have z0 : Wz.cell? ⟨B, 0, none⟩ = some (.int .i64 0) := kz.cell 0
  have z1 : Wz.cell? ⟨B, 1, none⟩ = some (.slice (some ⟨B + 1, 0, none⟩) 1 1) := kz.cell 1
  have HBZ : Hid (Below w.heap.size w Wz) := Lib.hid (by rw [hWz]; exact below_set (below_set HB2.out (Nat.le_of_eq hB.symm) _ _) (Nat.le_of_eq hB.symm) _ _)
  have HCZ : Hid (CoR Wz (fun b => b < Wz.heap.size) (some ⟨B + 1, 0, none⟩) 1 [⟨0, 1, A, c, body⟩]) := Lib.hid (by
    rw [hWz]
    refine HCO.out.keep (Keeps.setCell (Keeps.setCell (Keeps.refl _ _) (fun h => h.2 rfl) _) (fun h => h.2 rfl) _) fun b hb => ?_
    simpa using hb.1)
  rw [hw22] at r0 r1 q0 q1
  rw [← hWr, ← hB]
  clear hWr kz
  have HWS := Lib.hid hws
  have HW22 := Lib.hid hw22
  have HWZ := Lib.hid hWz
  clear hws hw22 hB hWz
  go_wp2_with fail
  rw [HWS.out, ← HW22.out, ← HWZ.out]
  refine bodyPost_ret (v := .agg #[.int .i64 0, .slice (some ⟨B + 1, 0, none⟩) 1 1]) (by simp [results, Tryd.results40, go_sem, z0, z1]) rfl ⟨B + 1, rfl, HCZ.out, HBZ.out⟩
end Go.Proofs.YtbdknncmlcbbpaaDoor

/-
  scorialaw08's 'lives': the documented examples.
-/
namespace Go.Proofs.YtbdknncmlcbbpaaDoor
open Go.RowKit WM TR KM

/-- A literal of instructions, as a body. -/
theorem body_lit (w : World) (L : List Ins) (hl : L.length ≤ 200000) (ho : ∀ x ∈ L, okI x) (n : Nat) (hn : n = L.length) (cs : Array Value) (hcs : cs = (insCs L).toArray) :
    BodyR (w.alloc (.cells cs 54)) (fun b => b < (w.alloc (.cells cs 54)).heap.size) ⟨0, 1, some ⟨w.heap.size, 0, none⟩, n, L⟩ := by
  subst hn hcs
  have k := Blk.new w 54 (insCs L).toArray
  refine ⟨⟨insCs_length L, fun _ => ⟨_, rfl, k.lt, fun j u hu => ?_⟩⟩, Nat.le_refl _, hl, ho, by show inRange 0; unfold inRange; omega, by show inRange 1; unfold inRange; omega⟩
  rw [Addr.add_lit, Nat.zero_add, k.cell j, List.getElem?_toArray]
  exact hu
theorem val1 : valB 0 [⟨0, 1, liv1⟩] = true := by
  have h : valB 0 [⟨0, 1, liv1⟩] = (boundB 0 1 && ((hOf 0 [⟨0, 1, liv1⟩] ⟨0, 1, liv1⟩).isSome && true)) := rfl
  rw [h, liv1_hts]; decide
theorem val2 : valB 0 [⟨0, 1, liv2⟩] = true := by
  have h : valB 0 [⟨0, 1, liv2⟩] = (boundB 0 1 && ((hOf 0 [⟨0, 1, liv2⟩] ⟨0, 1, liv2⟩).isSome && true)) := rfl
  rw [h, liv2_hts]; decide
theorem val3 : valB 0 [⟨0, 1, liv3⟩] = false := by
  have h : valB 0 [⟨0, 1, liv3⟩] = (boundB 0 1 && ((hOf 0 [⟨0, 1, liv3⟩] ⟨0, 1, liv3⟩).isSome && true)) := rfl
  rw [h, liv3_hts]; decide
theorem at1 : hAt 0 [⟨0, 1, liv1⟩] 0 = some [0, 1] := by
  have h : hAt 0 [⟨0, 1, liv1⟩] 0 = if boundB 0 1 && idxB 0 1 then hOf 0 [⟨0, 1, liv1⟩] ⟨0, 1, liv1⟩ else none := rfl
  rw [h, liv1_hts]; decide
theorem at2 : hAt 0 [⟨0, 1, liv2⟩] 0 = some [0, 0, 1, -1, 0, 1] := by
  have h : hAt 0 [⟨0, 1, liv2⟩] 0 = if boundB 0 1 && idxB 0 1 then hOf 0 [⟨0, 1, liv2⟩] ⟨0, 1, liv2⟩ else none := rfl
  rw [h, liv2_hts]; decide
theorem at3 : hAt 0 [⟨0, 1, liv3⟩] 0 = none := by
  have h : hAt 0 [⟨0, 1, liv3⟩] 0 = if boundB 0 1 && idxB 0 1 then hOf 0 [⟨0, 1, liv3⟩] ⟨0, 1, liv3⟩ else none := rfl
  rw [h, liv3_hts]; decide
theorem same11 : sameK ⟨0, [⟨0, 1, liv1⟩]⟩ ⟨0, [⟨0, 1, liv1⟩]⟩ = true := by decide
theorem same12 : sameK ⟨0, [⟨0, 1, liv1⟩]⟩ ⟨0, [⟨0, 1, liv2⟩]⟩ = false := by decide
/-- A code of one function, in a block of its own. -/
structure One (W : World) (g h A c n : Nat) (L : List Ins) : Prop where
  blk : Blk W g 25 #[.int .i64 0, .slice (some ⟨h, 0, none⟩) 1 1]
  co : CoR W (fun b => b < W.heap.size) (some ⟨h, 0, none⟩) 1 [⟨0, 1, some ⟨A, 0, none⟩, c, L⟩]
  len : n = L.length
theorem One.next {W W' : World} {g h A c n : Nat} {L : List Ins} (o : One W g h A c n L) (hb : Below W.heap.size W W') : One W' g h A c n L := ⟨o.blk.below hb o.blk.lt, o.co.next hb, o.len⟩
theorem One.valid {W : World} {g h A c n : Nat} {L : List Ins} (o : One W g h A c n L) (hT : ET W) (hgt : 0 < W.heap.size) {r : Bool} (hr : valB 0 [⟨0, 1, L⟩] = r) :
    Calls Tryd.prog 10 #[.agg #[.int .i64 0, .slice (some ⟨h, 0, none⟩) 1 1]] W fun e w' => e = .returned (.bool r) ∧ Below W.heap.size W w' := by
  have := valid_is 0 [⟨0, 1, some ⟨A, 0, none⟩, c, L⟩] (some ⟨h, 0, none⟩) 1 W (by omega) o.co hT hgt
  have e : valB 0 (List.map Ent.fn [⟨0, 1, some ⟨A, 0, none⟩, c, L⟩]) = r := hr
  rw [e] at this
  exact this
theorem One.hts {W : World} {g h A c n : Nat} {L : List Ins} (o : One W g h A c n L) (hT : ET W) (hgt : 0 < W.heap.size) {r : Option (List Int)} (hr : hAt 0 [⟨0, 1, L⟩] 0 = r) :
    Calls Tryd.prog 26 #[.agg #[.int .i64 0, .slice (some ⟨h, 0, none⟩) 1 1], .int .i64 0] W (HtsPost r W) := by
  have := heightsAt_is 0 [⟨0, 1, some ⟨A, 0, none⟩, c, L⟩] (some ⟨h, 0, none⟩) 1 0 W (by omega) o.co hT hgt
  have e : hAt 0 (List.map Ent.fn [⟨0, 1, some ⟨A, 0, none⟩, c, L⟩]) 0 = r := hr
  rw [e] at this
  exact this
theorem One.same {W : World} {g h A c n g' h' A' c' n' : Nat} {L L' : List Ins} (o : One W g h A c n L) (o' : One W g' h' A' c' n' L') {r : Bool} (hr : sameK ⟨0, [⟨0, 1, L⟩]⟩ ⟨0, [⟨0, 1, L'⟩]⟩ = r) :
    Calls Tryd.prog 19 #[.agg #[.int .i64 0, .slice (some ⟨h, 0, none⟩) 1 1], .agg #[.int .i64 0, .slice (some ⟨h', 0, none⟩) 1 1]] W fun e w' => e = .returned (.bool r) ∧ Below W.heap.size W w' := by
  have := sameK_is 0 0 [⟨0, 1, some ⟨A, 0, none⟩, c, L⟩] [⟨0, 1, some ⟨A', 0, none⟩, c', L'⟩] (some ⟨h, 0, none⟩) (some ⟨h', 0, none⟩) 1 1 W o.co o'.co
  have e : sameK ⟨0, List.map Ent.fn [⟨0, 1, some ⟨A, 0, none⟩, c, L⟩]⟩ ⟨0, List.map Ent.fn [⟨0, 1, some ⟨A', 0, none⟩, c', L'⟩]⟩ = r := hr
  rw [e] at this
  exact this
/-- Integers that were made, against a literal. -/
theorem ints_lit {W : World} {A : Option Addr} {B c : Nat} (l : List Int) (ho : W.ownsRow B 3 1 (.slice A l.length c) l.length (vi l)) (hl : l.length ≤ 1000) (n : Nat) (hn : n = l.length) (cs : Array Value) (hcs : cs = (vi l).toArray) :
    Calls Tryd.prog 31 #[.slice A n c, .slice (some ⟨W.heap.size, 0, none⟩) n n] (W.alloc (.cells cs 3)) fun e w' => e = .returned (.bool true) ∧ Below W.heap.size W w' := by
  subst hn hcs
  have hb := below_new W (.cells (vi l).toArray 3)
  have k := Blk.new W 3 (vi l).toArray
  have h1 : Rd (W.alloc (.cells (vi l).toArray 3)) (fun b => b < (W.alloc (.cells (vi l).toArray 3)).heap.size) 1 A l.length (vi l) :=
    ((Rd.of_own ho).keep fun b hb' => hb.block b hb'.2).mono fun b hb' => Nat.lt_of_lt_of_le hb'.2 hb.size
  have h2 : Rd (W.alloc (.cells (vi l).toArray 3)) (fun b => b < (W.alloc (.cells (vi l).toArray 3)).heap.size) 1 (some ⟨W.heap.size, 0, none⟩) l.length (vi l) := by
    refine ⟨by simp [vi], fun _ => ⟨_, rfl, k.lt, fun j u hu => ?_⟩⟩
    rw [Addr.add_lit, Nat.zero_add, k.cell j, List.getElem?_toArray]
    exact hu
  exact (sameInts_is l l _ A (some ⟨W.heap.size, 0, none⟩) c l.length _ h1 h2 (fun b hb' => hb') (by omega) (by omega) true (by simp)).mono fun e w' h => ⟨h.1, bt hb h.2⟩
theorem lit2 {W : World} {A : Option Addr} {B c : Nat} (ho : W.ownsRow B 3 1 (.slice A 2 c) 2 (vi [0, 1])) :
    Calls Tryd.prog 31 #[.slice A 2 c, .slice (some ⟨W.heap.size, 0, none⟩) 2 2] (W.alloc (.cells #[.int .i64 0, .int .i64 1] 3)) fun e w' => e = .returned (.bool true) ∧ Below W.heap.size W w' := ints_lit [0, 1] ho (by decide) 2 rfl _ rfl
theorem lit6 {W : World} {A : Option Addr} {B c : Nat} (ho : W.ownsRow B 3 1 (.slice A 6 c) 6 (vi [0, 0, 1, -1, 0, 1])) :
    Calls Tryd.prog 31 #[.slice A 6 c, .slice (some ⟨W.heap.size, 0, none⟩) 6 6] (W.alloc (.cells #[.int .i64 0, .int .i64 0, .int .i64 1, .int .i64 (-1), .int .i64 0, .int .i64 1] 3)) fun e w' => e = .returned (.bool true) ∧ Below W.heap.size W w' := ints_lit [0, 0, 1, -1, 0, 1] ho (by decide) 6 rfl _ rfl
set_option maxRecDepth 100000 in
set_option maxHeartbeats 16000000 in
theorem lives_is (w : World) (hT : ET w) (hgt : 0 < w.heap.size) :
    Calls Tryd.prog 13 #[] w fun e w' => e = .returned (.bool true) ∧ Below w.heap.size w w' := by
  have hok1 : ∀ x ∈ liv1, okI x := by unfold liv1 okI inRange; simp
  have hok2 : ∀ x ∈ liv2, okI x := by unfold liv2 okI inRange; simp
  have hok3 : ∀ x ∈ liv3, okI x := by unfold liv3 okI inRange; simp
  obtain ⟨P, hP⟩ : ∃ P : Ending → World → Prop, P = fun e w' => e = .returned (.bool true) ∧ Below w.heap.size w w' := ⟨_, rfl⟩
  have HP := Lib.hid hP
  have HT := Lib.hid hT
  have HGT := Lib.hid hgt
  have HO1 := Lib.hid hok1
  have HO2 := Lib.hid hok2
  have HO3 := Lib.hid hok3
  rw [← hP]
  clear hP hT hgt hok1 hok2 hok3
  go_enter Tryd.func13, Tryd.ntmps13
  go_upto_region 2 with (first
    | (go_at_call 40; refine (one_is _ 2 liv1 _ (body_lit w liv1 (by decide) HO1.out 2 rfl _ rfl)).mono ?_; rintro e w1 ⟨h1, rfl, hco1, hb1⟩))
  obtain ⟨V1, hV1⟩ : ∃ V, V = w1.alloc (.cells #[.int .i64 0, .slice (some ⟨h1, 0, none⟩) 1 1] 25) := ⟨_, rfl⟩
  obtain ⟨g1, hg1⟩ : ∃ z, z = w1.heap.size := ⟨_, rfl⟩
  have hbv1 : Below w.heap.size w V1 := by rw [hV1]; exact ba (bt (below_new _ _) hb1) _
  have ho1 : One V1 g1 h1 w.heap.size 2 2 liv1 := ⟨by rw [hV1, hg1]; exact Blk.new _ _ _, by rw [hV1]; exact hco1.next (below_new _ _), rfl⟩
  rw [← hV1, ← hg1]
  have HB1 := Lib.hid hbv1
  have HN1 := Lib.hid ho1
  clear hV1 hg1 hbv1 ho1 hco1 hb1
  go_upto_region 3 with (first
    | (go_at_call 40; refine (one_is _ 6 liv2 _ (body_lit V1 liv2 (by decide) HO2.out 6 rfl _ rfl)).mono ?_; rintro e w2 ⟨h2, rfl, hco2, hb2⟩))
  obtain ⟨V2, hV2⟩ : ∃ V, V = w2.alloc (.cells #[.int .i64 0, .slice (some ⟨h2, 0, none⟩) 1 1] 25) := ⟨_, rfl⟩
  obtain ⟨g2, hg2⟩ : ∃ z, z = w2.heap.size := ⟨_, rfl⟩
  have hbv2 : Below V1.heap.size V1 V2 := by rw [hV2]; exact ba (bt (below_new _ _) hb2) _
  have ho2 : One V2 g2 h2 V1.heap.size 6 6 liv2 := ⟨by rw [hV2, hg2]; exact Blk.new _ _ _, by rw [hV2]; exact hco2.next (below_new _ _), rfl⟩
  rw [← hV2, ← hg2]
  have HB2 := Lib.hid (bt HB1.out hbv2)
  have HN2 := Lib.hid ho2
  replace HN1 := Lib.hid (HN1.out.next hbv2)
  clear hV2 hg2 hbv2 ho2 hco2 hb2 HB1
  go_upto_region 4 with (first
    | (go_at_call 40; refine (one_is _ 1 liv3 _ (body_lit V2 liv3 (by decide) HO3.out 1 rfl _ rfl)).mono ?_; rintro e w3 ⟨h3, rfl, hco3, hb3⟩))
  obtain ⟨V3, hV3⟩ : ∃ V, V = w3.alloc (.cells #[.int .i64 0, .slice (some ⟨h3, 0, none⟩) 1 1] 25) := ⟨_, rfl⟩
  obtain ⟨g3, hg3⟩ : ∃ z, z = w3.heap.size := ⟨_, rfl⟩
  have hbv3 : Below V2.heap.size V2 V3 := by rw [hV3]; exact ba (bt (below_new _ _) hb3) _
  have ho3 : One V3 g3 h3 V2.heap.size 1 1 liv3 := ⟨by rw [hV3, hg3]; exact Blk.new _ _ _, by rw [hV3]; exact hco3.next (below_new _ _), rfl⟩
  rw [← hV3, ← hg3]
  have HB3 := Lib.hid (bt HB2.out hbv3)
  have HN3 := Lib.hid ho3
  replace HN1 := Lib.hid (HN1.out.next hbv3)
  replace HN2 := Lib.hid (HN2.out.next hbv3)
  clear hV3 hg3 hbv3 ho3 hco3 hb3 HB2
  have HTV := Lib.hid (HT.out.below HB3.out HGT.out)
  have HGV : Hid (0 < V3.heap.size) := Lib.hid (Nat.lt_of_lt_of_le HGT.out HB3.out.size)
  have HK : Hid (∀ W, Below V3.heap.size V3 W → (W.cell? ⟨g1, 0, none⟩ = some (.int .i64 0) ∧ W.cell? ⟨g1, 1, none⟩ = some (.slice (some ⟨h1, 0, none⟩) 1 1)) ∧ (W.cell? ⟨g2, 0, none⟩ = some (.int .i64 0) ∧ W.cell? ⟨g2, 1, none⟩ = some (.slice (some ⟨h2, 0, none⟩) 1 1)) ∧ (W.cell? ⟨g3, 0, none⟩ = some (.int .i64 0) ∧ W.cell? ⟨g3, 1, none⟩ = some (.slice (some ⟨h3, 0, none⟩) 1 1))) := Lib.hid fun W hb =>
    ⟨⟨(HN1.out.next hb).blk.cell 0, (HN1.out.next hb).blk.cell 1⟩, ⟨(HN2.out.next hb).blk.cell 0, (HN2.out.next hb).blk.cell 1⟩, ⟨(HN3.out.next hb).blk.cell 0, (HN3.out.next hb).blk.cell 1⟩⟩
  have C1 : Hid (∀ W, Below V3.heap.size V3 W → Calls Tryd.prog 10 #[.agg #[.int .i64 0, .slice (some ⟨h1, 0, none⟩) 1 1]] W fun e w' => e = .returned (.bool true) ∧ Below W.heap.size W w') := Lib.hid fun W hb => (HN1.out.next hb).valid (HTV.out.below hb HGV.out) (Nat.lt_of_lt_of_le HGV.out hb.size) val1
  have C2 : Hid (∀ W, Below V3.heap.size V3 W → Calls Tryd.prog 10 #[.agg #[.int .i64 0, .slice (some ⟨h2, 0, none⟩) 1 1]] W fun e w' => e = .returned (.bool true) ∧ Below W.heap.size W w') := Lib.hid fun W hb => (HN2.out.next hb).valid (HTV.out.below hb HGV.out) (Nat.lt_of_lt_of_le HGV.out hb.size) val2
  have C3 : Hid (∀ W, Below V3.heap.size V3 W → Calls Tryd.prog 10 #[.agg #[.int .i64 0, .slice (some ⟨h3, 0, none⟩) 1 1]] W fun e w' => e = .returned (.bool false) ∧ Below W.heap.size W w') := Lib.hid fun W hb => (HN3.out.next hb).valid (HTV.out.below hb HGV.out) (Nat.lt_of_lt_of_le HGV.out hb.size) val3
  have C4 : Hid (∀ W, Below V3.heap.size V3 W → Calls Tryd.prog 26 #[.agg #[.int .i64 0, .slice (some ⟨h1, 0, none⟩) 1 1], .int .i64 0] W fun e w' => ∃ A c, e = .returned (.slice A 2 c) ∧ w'.ownsRow W.heap.size 3 1 (.slice A 2 c) 2 (vi [0, 1]) ∧ Below W.heap.size W w') := Lib.hid fun W hb => (HN1.out.next hb).hts (HTV.out.below hb HGV.out) (Nat.lt_of_lt_of_le HGV.out hb.size) at1
  have C5 : Hid (∀ W, Below V3.heap.size V3 W → Calls Tryd.prog 26 #[.agg #[.int .i64 0, .slice (some ⟨h2, 0, none⟩) 1 1], .int .i64 0] W fun e w' => ∃ A c, e = .returned (.slice A 6 c) ∧ w'.ownsRow W.heap.size 3 1 (.slice A 6 c) 6 (vi [0, 0, 1, -1, 0, 1]) ∧ Below W.heap.size W w') := Lib.hid fun W hb => (HN2.out.next hb).hts (HTV.out.below hb HGV.out) (Nat.lt_of_lt_of_le HGV.out hb.size) at2
  have C6 : Hid (∀ W, Below V3.heap.size V3 W → Calls Tryd.prog 26 #[.agg #[.int .i64 0, .slice (some ⟨h3, 0, none⟩) 1 1], .int .i64 0] W fun e w' => e = .returned (.slice none 0 0) ∧ Below W.heap.size W w') := Lib.hid fun W hb => (HN3.out.next hb).hts (HTV.out.below hb HGV.out) (Nat.lt_of_lt_of_le HGV.out hb.size) at3
  have C7 : Hid (∀ W, Below V3.heap.size V3 W → Calls Tryd.prog 19 #[.agg #[.int .i64 0, .slice (some ⟨h1, 0, none⟩) 1 1], .agg #[.int .i64 0, .slice (some ⟨h1, 0, none⟩) 1 1]] W fun e w' => e = .returned (.bool true) ∧ Below W.heap.size W w') := Lib.hid fun W hb => (HN1.out.next hb).same (HN1.out.next hb) same11
  have C8 : Hid (∀ W, Below V3.heap.size V3 W → Calls Tryd.prog 19 #[.agg #[.int .i64 0, .slice (some ⟨h1, 0, none⟩) 1 1], .agg #[.int .i64 0, .slice (some ⟨h2, 0, none⟩) 1 1]] W fun e w' => e = .returned (.bool false) ∧ Below W.heap.size W w') := Lib.hid fun W hb => (HN1.out.next hb).same (HN2.out.next hb) same12
  have HBW : Hid (Below V3.heap.size V3 V3) := Lib.hid (Below.refl _ _)
  obtain ⟨⟨a0, a1⟩, ⟨b0, b1⟩, c0, c1⟩ := HK.out _ HBW.out
  clear HN1 HN2 HN3 HT HGT HO1 HO2 HO3 HTV HGV
  go_wp2_with (first
    | (go_at_call 10; first | with_reducible refine (C1.out _ HBW.out).mono ?_ | with_reducible refine (C2.out _ HBW.out).mono ?_ | with_reducible refine (C3.out _ HBW.out).mono ?_
       rintro e wn ⟨rfl, hbn⟩
       replace HBW := Lib.hid (bt HBW.out hbn)
       clear a0 a1 b0 b1 c0 c1 hbn
       obtain ⟨⟨a0, a1⟩, ⟨b0, b1⟩, c0, c1⟩ := HK.out _ HBW.out)
    | (go_at_call 26; first
         | (with_reducible refine (C4.out _ HBW.out).mono ?_; rintro e wn ⟨An, cn, rfl, hon, hbn⟩; have HON := Lib.hid hon; clear hon)
         | (with_reducible refine (C5.out _ HBW.out).mono ?_; rintro e wn ⟨An, cn, rfl, hon, hbn⟩; have HON := Lib.hid hon; clear hon)
         | (with_reducible refine (C6.out _ HBW.out).mono ?_; rintro e wn ⟨rfl, hbn⟩)
       replace HBW := Lib.hid (bt HBW.out hbn)
       clear a0 a1 b0 b1 c0 c1 hbn
       obtain ⟨⟨a0, a1⟩, ⟨b0, b1⟩, c0, c1⟩ := HK.out _ HBW.out)
    | (go_at_call 31; first
         | with_reducible refine (lit2 HON.out).mono ?_
         | with_reducible refine (lit6 HON.out).mono ?_
       rintro e wn ⟨rfl, hbn⟩
       replace HBW := Lib.hid (bt HBW.out hbn)
       clear a0 a1 b0 b1 c0 c1 hbn HON
       obtain ⟨⟨a0, a1⟩, ⟨b0, b1⟩, c0, c1⟩ := HK.out _ HBW.out)
    | (go_at_call 19; first | with_reducible refine (C7.out _ HBW.out).mono ?_ | with_reducible refine (C8.out _ HBW.out).mono ?_
       rintro e wn ⟨rfl, hbn⟩
       replace HBW := Lib.hid (bt HBW.out hbn)
       clear a0 a1 b0 b1 c0 c1 hbn
       obtain ⟨⟨a0, a1⟩, ⟨b0, b1⟩, c0, c1⟩ := HK.out _ HBW.out))
  rw [HP.out]
  exact ⟨rfl, bt HB3.out HBW.out⟩
end Go.Proofs.YtbdknncmlcbbpaaDoor
