/-
  Encode of code: encK.
-/
import Derived.Test.YtbdknncmlcbbpaaDoorG31
import Derived.Test.YtbdknncmlcbbpaaDoorG32
import Derived.Test.YtbdknncmlcbbpaaDoorG16
import Derived.Test.YtbdknncmlcbbpaaDoorG30
set_option linter.unusedVariables false
namespace Go.Proofs.YtbdknncmlcbbpaaDoor
open Go.RowKit WM TR KM

theorem int_info : (Tryd.prog.info? 3).map (fun i => (i.zero, i.size, i.bytes)) = some (some (.int .i64 0), 1, 8) := by kernel_rfl
theorem vi_one (l : List Int) : ∀ u ∈ vi l, u.oneCell' = true := by
  intro u hu
  simp only [vi, List.mem_map] at hu
  obtain ⟨c, _, rfl⟩ := hu
  rfl
/-- Two encodings in a row of their own. -/
theorem concat_new {wa wb : World} {B1 B2 : Nat} {Aa Ab : Option Addr} {ca cb : Nat} {la lb : List UInt8} (hoa : wa.ownsRow B1 5 1 (.slice Aa la.length ca) la.length (bs la)) (hb : Below wa.heap.size wa wb) (hob : wb.ownsRow B2 5 1 (.slice Ab lb.length cb) lb.length (bs lb)) (h0 : 0 < la.length) (h1 : la.length ≤ 100000000) (h2 : lb.length ≤ 100000000) :
    Calls Tryd.prog 41 #[.slice (some ⟨wb.heap.size, 0, none⟩) 2 2] (wb.alloc (.cells #[.slice Aa la.length ca, .slice Ab lb.length cb] 32)) fun e w' => ∃ A c, e = .returned (.slice A (la ++ lb).length c) ∧ w'.ownsRow wb.heap.size 5 1 (.slice A (la ++ lb).length c) (la ++ lb).length (bs (la ++ lb)) ∧ Below wb.heap.size wb w' := by
  have hn := below_new wb (.cells #[.slice Aa la.length ca, .slice Ab lb.length cb] 32)
  have ra := ((Reads.of_own hoa).below hb)
  have ra2 := (ra.more hb.size).below hn
  have rb2 := (Reads.of_own hob).below hn
  refine (concat2_is la lb wb.heap.size Aa Ab ca cb _ (Blk.new wb 32 _) (ra2.more hn.size) (rb2.more hn.size) h0 h1 h2).mono ?_
  rintro e w' ⟨A, c, he, ho, hbw⟩
  exact ⟨A, c, he, own_lower ho hn.size, bt hn hbw⟩
theorem own_reads {w : World} {base n size c : Nat} {e : TypeId} {A : Option Addr} {xs : List Value} (h : w.ownsRow base e size (.slice A n c) n xs) : Reads w w.heap.size size A n xs := Reads.of_own h
theorem encF_le {e : Ent} {w : World} {S : Nat → Prop} (h : BodyR w S e) : (encL enc [e.p, e.w]).length ≤ 27 ∧ (encL enc (flatI e.body)).length ≤ 5400009 := by
  have h1 := encL_le [e.p, e.w] (fun x hx => by
    simp only [List.mem_cons, List.not_mem_nil, or_false] at hx
    rcases hx with rfl | rfl
    · exact h.rp
    · exact h.rw_) (by simp)
  have h2 := encL_le (flatI e.body) (fun x hx => by
    obtain ⟨y, hy, hx⟩ := List.mem_flatMap.1 hx
    have := h.ok y hy
    simp only [List.mem_cons, List.not_mem_nil, or_false] at hx
    rcases hx with rfl | rfl | rfl
    · exact this.1
    · exact this.2.1
    · exact this.2.2) (by rw [flatI_length]; have := h.len; omega)
  rw [flatI_length] at h2
  have h3 := h.len
  exact ⟨by simpa using h1, by omega⟩
theorem flatI_ok {e : Ent} {w : World} {S : Nat → Prop} (h : BodyR w S e) : ∀ x ∈ flatI e.body, inRange x := fun x hx => by
  obtain ⟨y, hy, hx⟩ := List.mem_flatMap.1 hx
  have := h.ok y hy
  simp only [List.mem_cons, List.not_mem_nil, or_false] at hx
  rcases hx with rfl | rfl | rfl
  · exact this.1
  · exact this.2.1
  · exact this.2.2
set_option maxRecDepth 100000 in
set_option maxHeartbeats 16000000 in
theorem codeEnc_is (ch : Int) (es : List Ent) (Ac : Option Addr) (cc : Nat) (w : World) (hco : CoR w (fun b => b < w.heap.size) Ac cc es) (hch : inRange ch) (hn : es.length ≤ 1000) :
    Calls Tryd.prog 15 #[.agg #[.int .i64 ch, .slice Ac es.length cc]] w fun e w' => ∃ A c, e = .returned (.slice A (encK ch (es.map Ent.fn)).length c) ∧ w'.ownsRow w.heap.size 5 1 (.slice A (encK ch (es.map Ent.fn)).length c) (encK ch (es.map Ent.fn)).length (bs (encK ch (es.map Ent.fn))) ∧ Below w.heap.size w w' := by
  obtain ⟨i0, hi, hz0, hz1, hz2⟩ := info_parts u8_info
  obtain ⟨j0, hj, hy0, hy1, hy2⟩ := info_parts int_info
  obtain ⟨n, hnn⟩ : ∃ n, n = es.length := ⟨_, rfl⟩
  obtain ⟨z, hz⟩ : ∃ z, z = w.heap.size := ⟨_, rfl⟩
  obtain ⟨W1, hW1⟩ : ∃ W, W = w.alloc (.cells #[.int .i64 ch, .slice Ac n cc] 25) := ⟨_, rfl⟩
  have hb1 : Below w.heap.size w W1 := by rw [hW1]; exact below_new _ _
  have k3 : Blk W1 z 25 #[.int .i64 ch, .slice Ac n cc] := by rw [hW1, hz]; exact Blk.new _ _ _
  have hrn : inRange (n : Int) := by unfold inRange; omega
  obtain ⟨hd, hhd⟩ : ∃ l, l = enc ch ++ enc (n : Int) := ⟨_, rfl⟩
  have hl1 := enc_len hch
  have hl2 := enc_len hrn
  have hdl : hd.length ≤ 18 := by rw [hhd, List.length_append]; omega
  obtain ⟨P, hP⟩ : ∃ P : Ending → World → Prop, P = fun e w' => ∃ A c, e = .returned (.slice A (encK ch (es.map Ent.fn)).length c) ∧ w'.ownsRow w.heap.size 5 1 (.slice A (encK ch (es.map Ent.fn)).length c) (encK ch (es.map Ent.fn)).length (bs (encK ch (es.map Ent.fn))) ∧ Below w.heap.size w w' := ⟨_, rfl⟩
  rw [← hP, ← hnn]
  have E1 : Hid (∀ W, Calls Tryd.prog 42 #[.int .i64 ch] W fun e w' => ∃ A c, e = .returned (.slice A (enc ch).length c) ∧ w'.ownsRow W.heap.size 5 1 (.slice A (enc ch).length c) (enc ch).length (bs (enc ch)) ∧ Below W.heap.size W w') := Lib.hid fun W => encInt ch W hch
  have E2 : Hid (∀ W, Calls Tryd.prog 42 #[.int .i64 (n : Int)] W fun e w' => ∃ A c, e = .returned (.slice A (enc (n : Int)).length c) ∧ w'.ownsRow W.heap.size 5 1 (.slice A (enc (n : Int)).length c) (enc (n : Int)).length (bs (enc (n : Int))) ∧ Below W.heap.size W w') := Lib.hid fun W => encInt n W hrn
  obtain ⟨c0, c1⟩ : W1.cell? ⟨z, 0, none⟩ = some (.int .i64 ch) ∧ W1.cell? ⟨z, 1, none⟩ = some (.slice Ac n cc) := ⟨k3.cell 0, k3.cell 1⟩
  have HW1 := Lib.hid hW1
  have HZ := Lib.hid hz
  have HB1 := Lib.hid hb1
  have HK3 := Lib.hid k3
  have HNN := Lib.hid hnn
  have HCO := Lib.hid (hco.next hb1)
  have HHD := Lib.hid hhd
  have HP := Lib.hid hP
  have HL := Lib.hid (And.intro hl1 hl2)
  rw [← hnn] at hn
  clear hW1 hz hb1 k3 hnn hco hhd hP hrn hch hl1 hl2
  go_enter Tryd.func15, Tryd.ntmps15
  go_upto_region 1 with fail
  rw [← HW1.out]
  try rw [← HZ.out]
  have HK : Hid (∀ W, Below W1.heap.size W1 W → W.cell? ⟨z, 0, none⟩ = some (.int .i64 ch) ∧ W.cell? ⟨z, 1, none⟩ = some (.slice Ac n cc)) := Lib.hid fun W hb => ⟨(HK3.out.below hb HK3.out.lt).cell 0, (HK3.out.below hb HK3.out.lt).cell 1⟩
  have HBW := Lib.hid (Below.refl W1.heap.size W1).drew
  go_cut [3] from 9 to 17 (fun s3 wv => ∃ (V : World) (A : Option Addr) (c : Nat), V = wv ∧ s3 = .slice A hd.length c ∧ Hid (V.ownsRow W1.heap.size 5 1 (.slice A hd.length c) hd.length (bs hd) ∧ Below W1.heap.size W1 V))
  case first =>
    go_region_with (first
      | (go_at_call 42; first
           | (with_reducible refine (E1.out _).mono ?_; rintro e wa ⟨Aa, ca, rfl, hoa, hba⟩; have HOA := Lib.hid hoa; clear hoa)
           | (with_reducible refine (E2.out _).mono ?_; rintro e wa ⟨Ab, cb, rfl, hob, hba⟩; have HOB := Lib.hid hob; have HAB := Lib.hid hba; clear hob)
         replace HBW := Lib.hid (bt HBW.out hba)
         clear c0 c1 hba
         obtain ⟨c0, c1⟩ := HK.out _ HBW.out)
      | (go_at_call 41; refine (concat_new HOA.out HAB.out HOB.out (by have := HL.out; omega) (by have := HL.out; omega) (by have := HL.out; omega)).mono ?_; rintro e wc ⟨A3, c3, rfl, ho3, hb3⟩; have HO3 := Lib.hid ho3; have HB3 := Lib.hid hb3; clear ho3 hb3))
    all_goals
      go_wp2_with fail
      go_meet
      exact ⟨_, A3, c3, rfl, by simp [HHD.out], by rw [HHD.out]; exact own_lower HO3.out HBW.out.size, bt HBW.out HB3.out⟩
  case rest =>
  obtain ⟨V, A3, c3, hwc, rfl, hO3⟩ := hcut
  subst hwc
  have HO3 := Lib.hid hO3.out
  clear hO3 c0 c1 HBW E1 E2
  have c1 : V.cell? ⟨z, 1, none⟩ = some (.slice Ac n cc) := (HK.out _ HO3.out.2).2
  go_upto_region 3 with fail
  clear c1
  go_loopw [3, 21] (fun s3 i wr => ∃ (k np : Nat) (A : Option Addr) (c : Nat), k ≤ n ∧ np ≤ 18 + k * 5400036 ∧ i = .int .i64 k ∧ s3 = .slice A np c ∧ Hid (np = (hd ++ (es.take k).flatMap fun e => encF e.fn).length ∧ wr.ownsRow W1.heap.size 5 1 (.slice A np c) np (bs (hd ++ (es.take k).flatMap fun e => encF e.fn)) ∧ Below W1.heap.size W1 wr)) (fun _ i _ => n - (intOf i).toNat)
  case atStart => exact ⟨0, hd.length, A3, c3, Nat.zero_le _, by omega, rfl, rfl, by simp, by simpa using HO3.out.1, HO3.out.2⟩
  case round =>
    obtain ⟨k, np, A, c, hkn, hnp, rfl, rfl, HI⟩ := hrel
    by_cases hlt : k < n
    · have hlt2 : (k : Int) < n := by omega
      have hkb : (0 : Int) ≤ (k : Int) ∧ (k : Int) < (n : Int) := ⟨by omega, hlt2⟩
      obtain ⟨en, hen⟩ : ∃ en, es[k]? = some en := ⟨_, List.getElem?_eq_getElem (by rw [← HNN.out]; exact hlt)⟩
      obtain ⟨aA, oA, hAc, hA1, hA2⟩ := HCO.out.rd.lit (by rw [← HNN.out]; omega)
      subst hAc
      obtain ⟨nb, hnb⟩ : ∃ z, z = en.body.length := ⟨_, rfl⟩
      have hee : ∀ j v, (entC en)[j]? = some v → wr.cell? ⟨aA, oA + k * 4 + j, none⟩ = some v := fun j v hv => by
        have h1 := hA2 _ _ (entsC_get es k en hen j v hv)
        rw [← Nat.add_assoc] at h1
        exact (HI.out.2.2.cell (p := ⟨aA, oA + k * 4 + j, none⟩) hA1).trans h1
      obtain ⟨f0, f1, f2, f3⟩ : wr.cell? ⟨aA, oA + k * 4, none⟩ = some (.int .i64 en.p) ∧ wr.cell? ⟨aA, oA + k * 4 + 1, none⟩ = some (.int .i64 en.w) ∧ wr.cell? ⟨aA, oA + k * 4 + 2, none⟩ = some (.slice en.A nb en.c) ∧ wr.cell? ⟨aA, oA + k * 4 + 3, none⟩ = some (.slice none 0 0) := ⟨hee 0 _ rfl, hee 1 _ rfl, by rw [hnb]; exact hee 2 _ rfl, hee 3 _ rfl⟩
      have HBO := Lib.hid (HCO.out.all en (List.mem_of_getElem? hen))
      have hnl : nb ≤ 200000 := by rw [hnb]; exact HBO.out.len
      have HNB := Lib.hid hnb
      have HTK : Hid ((es.take (k + 1)).flatMap (fun e => encF e.fn) = (es.take k).flatMap (fun e => encF e.fn) ++ encF en.fn) := Lib.hid (by rw [List.take_add_one, hen]; simp)
      clear hA1 hA2 hen hee hnb
      go_upto_region 5 with fail
      obtain ⟨W2, hW2⟩ : ∃ W, W = wr.alloc (.cells #[.int .i64 en.p, .int .i64 en.w, .slice en.A nb en.c, .slice none 0 0] 51) := ⟨_, rfl⟩
      obtain ⟨g5, hg5⟩ : ∃ z, z = wr.heap.size := ⟨_, rfl⟩
      have hbw : Below wr.heap.size wr W2 := by rw [hW2]; exact below_new _ _
      have k5 : Blk W2 g5 51 #[.int .i64 en.p, .int .i64 en.w, .slice en.A nb en.c, .slice none 0 0] := by rw [hW2, hg5]; exact Blk.new _ _ _
      rw [← hW2, ← hg5]
      have x2 : W2.cell? ⟨g5, 2, none⟩ = some (.slice en.A nb en.c) := k5.cell 2
      have HBW := Lib.hid hbw
      have HK5 := Lib.hid k5
      have HB2 := Lib.hid (bt HI.out.2.2 hbw)
      have HOW := Lib.hid (ownsRow_below HI.out.2.1 hbw)
      clear hW2 hg5 hbw k5 f0 f1 f2 f3
      go_upto_region 7 with fail
      clear x2
      go_loopw [6, 28] (fun s6 i wr => ∃ (j n6 : Nat) (A6 : Option Addr) (c6 : Nat), j ≤ nb ∧ n6 ≤ 600000 ∧ i = .int .i64 j ∧ s6 = .slice A6 n6 c6 ∧ Hid (n6 = 3 * j ∧ wr.ownsRow W2.heap.size 3 1 (.slice A6 n6 c6) n6 (vi (flatI (en.body.take j))) ∧ Below W2.heap.size W2 wr)) (fun _ i _ => nb - (intOf i).toNat)
      case atStart => exact ⟨0, 0, none, 0, Nat.zero_le _, by omega, rfl, rfl, rfl, World.ownsRow_nil _ _ _ _, Below.refl _ _⟩
      case round =>
        obtain ⟨j, n6, A6, c6, hjn, hn6, rfl, rfl, HJ⟩ := hrel
        by_cases hjl : j < nb
        · have hjl2 : (j : Int) < nb := by omega
          have hjb : (0 : Int) ≤ (j : Int) ∧ (j : Int) < (nb : Int) := ⟨by omega, hjl2⟩
          obtain ⟨x, hx⟩ : ∃ x, en.body[j]? = some x := ⟨_, List.getElem?_eq_getElem (by rw [← HNB.out]; exact hjl)⟩
          obtain ⟨aB, oB, hAB, hB1, hB2⟩ := HBO.out.rd.lit (by rw [← HNB.out]; omega)
          have hB3 : Below W1.heap.size W1 wr := bt HB2.out HJ.out.2.2
          have ee : ∀ i v, (insC x)[i]? = some v → wr.cell? ⟨aB, oB + j * 3 + i, none⟩ = some v := fun i v hv => by
            have h1 := hB2 _ _ (insCs_get en.body j x hx i v hv)
            rw [← Nat.add_assoc] at h1
            exact (hB3.cell (p := ⟨aB, oB + j * 3 + i, none⟩) hB1).trans h1
          obtain ⟨f0, f1, f2⟩ : wr.cell? ⟨aB, oB + j * 3, none⟩ = some (.int .i64 x.op) ∧ wr.cell? ⟨aB, oB + j * 3 + 1, none⟩ = some (.int .i64 x.a) ∧ wr.cell? ⟨aB, oB + j * 3 + 2, none⟩ = some (.int .i64 x.b) := ⟨ee 0 _ rfl, ee 1 _ rfl, ee 2 _ rfl⟩
          have HTJ : Hid (flatI (en.body.take (j + 1)) = flatI (en.body.take j) ++ [x.op, x.a, x.b]) := Lib.hid (by rw [List.take_add_one, hx, flatI_append]; simp [flatI])
          have hAB2 : en.A = some ⟨aB, oB, none⟩ := hAB
          rw [hAB2]
          clear ee hx hB1 hB2 hB3
          go_upto_region 9 with fail
          obtain ⟨W4, hW4⟩ : ∃ W, W = wr.alloc (.cells #[.int .i64 x.op, .int .i64 x.a, .int .i64 x.b] 54) := ⟨_, rfl⟩
          obtain ⟨g8, hg8⟩ : ∃ z, z = wr.heap.size := ⟨_, rfl⟩
          have k8 : Blk W4 g8 54 #[.int .i64 x.op, .int .i64 x.a, .int .i64 x.b] := by rw [hW4, hg8]; exact Blk.new _ _ _
          have hb4 : Below wr.heap.size wr W4 := by rw [hW4]; exact below_new _ _
          rw [← hW4, ← hg8]
          obtain ⟨y0, y1, y2⟩ : W4.cell? ⟨g8, 0, none⟩ = some (.int .i64 x.op) ∧ W4.cell? ⟨g8, 1, none⟩ = some (.int .i64 x.a) ∧ W4.cell? ⟨g8, 2, none⟩ = some (.int .i64 x.b) := ⟨k8.cell 0, k8.cell 1, k8.cell 2⟩
          have HB4 := Lib.hid (bt HJ.out.2.2 hb4)
          have HO4 := Lib.hid (ownsRow_below HJ.out.2.1 hb4)
          clear hW4 hg8 k8 hb4 f0 f1 f2
          go_wp2_with (at_builtin; go_loud (refine wpList_append_any _ rfl (.tmp 32) (.tmp 39) 22 rfl W2.heap.size 3 j0 _ 1 8 Tryd.underlying22 hj hy0 hy1 hy2 rfl (by omega) (.slice A6 n6 c6) n6 _ rfl (HO4.out.alloc _) _ (some ⟨W4.heap.size, 0, none⟩) 3 3 (vi [x.op, x.a, x.b]) rfl (own_reads (own_lit (w := W4) (base := W4.heap.size) (e := 3) (size := 1) (xs := vi [x.op, x.a, x.b]) (n := 3) (Nat.le_refl _) rfl (len_le (by omega)))) (vi_one _) (len_le (by omega)) (by omega) (by have := HB4.out.size; rw [size_alloc]; omega) ?_; intro v4 w4 hown4 hgrow4 _; obtain ⟨A7, c7, rfl, _⟩ := own_len hown4; have HN4 : Hid (w4.ownsRow W2.heap.size 3 1 (.slice A7 (n6 + 3) c7) (n6 + 3) (vi (flatI (en.body.take (j + 1)))) ∧ Below W2.heap.size W2 w4) := Lib.hid ⟨by rw [HTJ.out, vi_append]; exact hown4, below_row HB4.out hgrow4 fun b e => (HO4.out.lt b e).1⟩; clear hown4 hgrow4))
          go_roundw
          case rel => exact ⟨j + 1, n6 + 3, A7, c7, by omega, by have := HJ.out.1; omega, by go_num, rfl, by have := HJ.out.1; omega, HN4.out.1, HN4.out.2⟩
          case measure => simp [intOf]; omega
        · have hje : j = nb := by omega
          subst hje
          have hE2 := HBO.out
          have hle := encF_le hE2
          have HFI := Lib.hid (flatI_ok hE2)
          obtain ⟨ni, hni⟩ : ∃ z, z = flatI en.body := ⟨_, rfl⟩
          have hfl : (flatI en.body).length = n6 := by rw [flatI_length, HJ.out.1, HNB.out]
          have hrow : wr.ownsRow W2.heap.size 3 1 (.slice A6 n6 c6) n6 (vi (flatI en.body)) := by
            have h := HJ.out.2.1
            rw [HNB.out, List.take_length] at h
            exact h
          have HROW := Lib.hid hrow
          have k5r := HK5.out.below HJ.out.2.2 HK5.out.lt
          obtain ⟨y0, y1⟩ : wr.cell? ⟨g5, 0, none⟩ = some (.int .i64 en.p) ∧ wr.cell? ⟨g5, 1, none⟩ = some (.int .i64 en.w) := ⟨k5r.cell 0, k5r.cell 1⟩
          have HOR := Lib.hid (ownsRow_below HOW.out HJ.out.2.2)
          have HB1r := Lib.hid (bt HB2.out HJ.out.2.2)
          obtain ⟨n1, hn1⟩ : ∃ z, z = (encL enc [en.p, en.w]).length := ⟨_, rfl⟩
          obtain ⟨n2, hn2⟩ : ∃ z, z = (encL enc (flatI en.body)).length := ⟨_, rfl⟩
          rw [← hn1, ← hn2] at hle
          have HN12 := Lib.hid (And.intro hn1 hn2)
          have HFL := Lib.hid hfl
          have HI1 : Hid (Calls Tryd.prog 43 #[.slice (some ⟨wr.heap.size, 0, none⟩) 2 2] (wr.alloc (.cells #[.int .i64 en.p, .int .i64 en.w] 3)) fun e w' => ∃ A c, e = .returned (.slice A n1 c) ∧ w'.ownsRow wr.heap.size 5 1 (.slice A n1 c) n1 (bs (encL enc [en.p, en.w])) ∧ Below wr.heap.size wr w') := Lib.hid (by
            have hbn := below_new wr (.cells #[.int .i64 en.p, .int .i64 en.w] 3)
            have h := encInts (some ⟨wr.heap.size, 0, none⟩) [en.p, en.w] 2 (wr.alloc (.cells #[.int .i64 en.p, .int .i64 en.w] 3)) (own_reads (own_lit (w := wr) (base := wr.heap.size) (e := 3) (size := 1) (xs := vi [en.p, en.w]) (n := 2) (Nat.le_refl _) rfl (len_le (by omega)))) (fun x hx => by
              simp only [List.mem_cons, List.not_mem_nil, or_false] at hx
              rcases hx with rfl | rfl
              · exact hE2.rp
              · exact hE2.rw_) (by rw [← hn1]; omega) (by simp)
            refine h.mono fun e w' h2 => ?_
            obtain ⟨A, c, h3, h4, h5⟩ := h2
            rw [← hn1] at h3 h4
            exact ⟨A, c, h3, own_lower h4 hbn.size, bt hbn h5⟩)
          have HI2 : Hid (∀ W, Reads W W.heap.size 1 A6 n6 (vi (flatI en.body)) → Calls Tryd.prog 43 #[.slice A6 n6 c6] W fun e w' => ∃ A c, e = .returned (.slice A n2 c) ∧ w'.ownsRow W.heap.size 5 1 (.slice A n2 c) n2 (bs (encL enc (flatI en.body))) ∧ Below W.heap.size W w') := Lib.hid fun W hr => by
            have h := encInts A6 (flatI en.body) c6 W (by rw [hfl]; exact hr) HFI.out (by rw [← hn2]; omega) (by rw [hfl]; omega)
            rw [hfl, ← hn2] at h
            exact h
          have HRK : Hid (∀ w5 w6 : World, Below wr.heap.size wr w5 → w5.grownBy w6 (Value.slice A np c).ownBlock → Reads w6 w6.heap.size 1 A6 n6 (vi (flatI en.body))) := Lib.hid fun w5 w6 hb hg => by
            have hr := Rd.of_own hrow
            refine (hr.keep (w' := w6) fun b hb2 => ?_).reads fun b hb2 => ?_
            · exact (hg.block b (Nat.lt_of_lt_of_le hb2.2 hb.size) (fun e => by have := (HOW.out.lt b e.symm).2; omega)).trans (hb.block b hb2.2)
            · have h1 := hb2.2
              have h2 := hb.size
              have h3 := hg.size
              show b < w6.heap.size
              omega
          clear hni ni hfl hrow k5r hn1 hn2 hE2
          go_upto_region 12 with (first
            | (go_at_call 43; refine HI1.out.mono ?_; rintro e w5 ⟨A8, c8, rfl, ho8, hb8⟩; have HO8 := Lib.hid ho8; have HB8 := Lib.hid hb8; have HOU := Lib.hid (ownsRow_below HOR.out hb8); clear ho8 hb8 y0 y1)
            | (at_builtin; go_loud (refine wpList_append_any _ rfl (.tmp 42) (.tmp 48) 32 rfl W1.heap.size 5 i0 _ 1 1 Tryd.underlying32 hi hz0 hz1 hz2 rfl (by omega) (.slice A np c) np _ rfl HOU.out _ A8 n1 c8 (bs (encL enc [en.p, en.w])) rfl (Reads.of_own HO8.out) (bs_one _) (len_le (by omega)) (by omega) (Nat.le_trans HB1r.out.size HB8.out.size) ?_; intro v6 w6 hown6 hgrow6 _; obtain ⟨A9, c9, rfl, _⟩ := own_len hown6; have HO9 := Lib.hid hown6; have HBX := Lib.hid (below_grR (bt HB1r.out HB8.out) hgrow6 fun b e => (HOU.out.lt b e).1); have HRX := Lib.hid (HRK.out _ _ HB8.out hgrow6); clear hown6 hgrow6)))
          have hsum : np + n1 + n2 ≤ 18 + (k + 1) * 5400036 := by omega
          go_wp2_with (first
            | (go_at_call 43; refine (HI2.out _ HRX.out).mono ?_; rintro e w7 ⟨A2, c2, rfl, ho7, hb7⟩; have HO7 := Lib.hid ho7; have HB7 := Lib.hid hb7; have HOV := Lib.hid (ownsRow_below HO9.out hb7); clear ho7 hb7)
            | (at_builtin; go_loud (refine wpList_append_any _ rfl (.tmp 50) (.tmp 52) 32 rfl W1.heap.size 5 i0 _ 1 1 Tryd.underlying32 hi hz0 hz1 hz2 rfl (by omega) (.slice A9 (np + n1) c9) (np + n1) _ rfl HOV.out _ A2 n2 c2 (bs (encL enc (flatI en.body))) rfl (Reads.of_own HO7.out) (bs_one _) (len_le (by omega)) (by omega) (Nat.le_trans HBX.out.size HB7.out.size) ?_; intro v9 w9 hown9 hgrow9 _; obtain ⟨Az, cz, rfl, _⟩ := own_len hown9; have HOZ := Lib.hid hown9; have HBZ := Lib.hid (below_grR (bt HBX.out HB7.out) hgrow9 fun b e => (HOV.out.lt b e).1); clear hown9 hgrow9)))
          have HFI2 : Hid (np + n1 + n2 = (hd ++ (es.take (k + 1)).flatMap fun e => encF e.fn).length ∧ bs (hd ++ (es.take k).flatMap fun e => encF e.fn) ++ bs (encL enc [en.p, en.w]) ++ bs (encL enc (flatI en.body)) = bs (hd ++ (es.take (k + 1)).flatMap fun e => encF e.fn)) := Lib.hid (by
            have h1 : hd ++ (es.take (k + 1)).flatMap (fun e => encF e.fn) = (hd ++ (es.take k).flatMap (fun e => encF e.fn)) ++ encL enc [en.p, en.w] ++ encL enc (flatI en.body) := by
              rw [HTK.out]
              show _ = _
              rw [show encF en.fn = encL enc [en.p, en.w] ++ encL enc (flatI en.body) from rfl]
              simp only [List.append_assoc]
            rw [h1]
            refine ⟨?_, by simp only [bs_append, List.append_assoc]⟩
            rw [List.length_append, List.length_append, ← HI.out.1, ← HN12.out.1, ← HN12.out.2])
          go_roundw
          case rel => exact ⟨k + 1, np + n1 + n2, Az, cz, by omega, hsum, by go_num, rfl, HFI2.out.1, by rw [← HFI2.out.2]; exact HOZ.out, HBZ.out⟩
          case measure => simp [intOf]; omega
    · have hke : k = n := by omega
      subst hke
      go_wp2_with fail
      rw [HP.out]
      have h := HI.out
      have hE : hd ++ (es.take k).flatMap (fun e => encF e.fn) = encK ch (es.map Ent.fn) := by
        rw [HHD.out, HNN.out, List.take_length, encK, List.length_map, List.flatMap_map]
      rw [hE] at h
      obtain ⟨h1, h2, h3⟩ := h
      subst h1
      exact ⟨A, c, rfl, own_lower h2 HB1.out.size, bt HB1.out h3⟩
end Go.Proofs.YtbdknncmlcbbpaaDoor

/-
  Digest of code: the hash of the bytes.
-/
namespace Go.Proofs.YtbdknncmlcbbpaaDoor
open Go.RowKit WM TR KM

/-- The digest of code. -/
def digK (ch : Int) (fs : List KM.Fn) : List UInt8 := ofB 2 [str (encK ch fs)]
theorem encP_one (l : List UInt8) : encP [str l] = encB l := by simp [encP, str_list]
theorem ofB_len (t : Int) (l : List ByteArray) : (ofB t l).length = 16 := by
  unfold ofB
  rw [List.length_take]
  have : (sha (inputOf t l)).length = 32 := rfl
  omega
theorem encK_small {ch : Int} {es : List Ent} {w : World} {S : Nat → Prop} {Ac : Option Addr} {cc : Nat} (hco : CoR w S Ac cc es) (hch : inRange ch) (hn : es.length ≤ 1000) : (encK ch (es.map Ent.fn)).length ≤ 18 + es.length * 5400036 := by
  unfold encK
  rw [List.length_append, List.length_append, List.flatMap_map, List.length_map]
  have h1 := (enc_len hch).2
  have h2 := (enc_len (n := (es.length : Int)) ⟨by omega, by omega⟩).2
  have h3 : ∀ l : List Ent, (∀ e ∈ l, BodyR w S e) → (l.flatMap fun e => encF e.fn).length ≤ l.length * 5400036 := by
    intro l
    induction l with
    | nil => intro _; simp
    | cons a l ih =>
      intro h
      rw [List.flatMap_cons, List.length_append, List.length_cons]
      have h4 := encF_le (h a List.mem_cons_self)
      have h5 := ih fun e he => h e (List.mem_cons_of_mem _ he)
      rw [show encF a.fn = encL enc [a.p, a.w] ++ encL enc (flatI a.body) from rfl, List.length_append]
      omega
  have := h3 es hco.all
  omega

set_option maxRecDepth 100000 in
set_option maxHeartbeats 4000000 in
theorem codeDig_is (ch : Int) (es : List Ent) (Ac : Option Addr) (cc : Nat) (w : World) (hco : CoR w (fun b => b < w.heap.size) Ac cc es) (hch : inRange ch) (hn : es.length ≤ 1000) (hk : KT 1 w) :
    Calls Tryd.prog 17 #[.agg #[.int .i64 ch, .slice Ac es.length cc]] w fun e w' => e = .returned (.agg (bs (digK ch (es.map Ent.fn))).toArray) ∧ Below w.heap.size w w' := by
  obtain ⟨n, hnn⟩ : ∃ n, es.length = n := ⟨_, rfl⟩
  have hsm := encK_small hco hch hn
  obtain ⟨W1, hW1⟩ : ∃ W, W = (w.alloc (.cells #[.int .i64 ch, .slice Ac n cc] 25)).alloc (.cells (bs (List.replicate 16 0)).toArray 37) := ⟨_, rfl⟩
  have hz : W1.heap.size = w.heap.size + 2 := by rw [hW1, size_alloc, size_alloc]
  have hB1 : Below w.heap.size w W1 := by rw [hW1]; exact ba (below_new _ _) _
  have hZ1 : Blk W1 (w.heap.size + 1) 37 (bs (List.replicate 16 0)).toArray := by rw [hW1]; exact Blk.new_at _ _ (by rw [size_alloc]) rfl
  have hZ0 : Blk W1 w.heap.size 25 #[.int .i64 ch, .slice Ac n cc] := by rw [hW1]; exact (Blk.new _ _ _).alloc _
  have hC := codeEnc_is ch es Ac cc W1 (hco.next hB1) hch hn
  rw [hnn] at hC
  obtain ⟨l, hl⟩ : ∃ l, l = encK ch (es.map Ent.fn) := ⟨_, rfl⟩
  unfold digK
  rw [← hl] at hC hsm ⊢
  rw [hnn]
  have hE : (encP [str l]).length ≤ 137438953472 := by
    rw [encP_one]
    unfold encB
    rw [List.length_append]
    have := (enc_len (n := (l.length : Int)) ⟨by omega, by omega⟩).2
    omega
  have HC := Lib.hid hC
  have HK := Lib.hid hk
  have HB1 := Lib.hid hB1
  have HZ1 := Lib.hid hZ1
  have HZ := Lib.hid hz
  have HE := Lib.hid hE
  have HW1 := Lib.hid hW1
  have c0 : W1.cell? ⟨w.heap.size, 0, none⟩ = some (.int .i64 ch) := hZ0.cell 0
  have c1 : W1.cell? ⟨w.heap.size, 1, none⟩ = some (.slice Ac n cc) := hZ0.cell 1
  clear hco hk hE hz hB1 hZ1 hZ0 hC hW1 hnn hl hsm
  go_enter Tryd.func17, Tryd.ntmps17
  go_upto_region 1 with fail
  have e16 : (#[.int .u8 0, .int .u8 0, .int .u8 0, .int .u8 0, .int .u8 0, .int .u8 0, .int .u8 0, .int .u8 0, .int .u8 0, .int .u8 0, .int .u8 0, .int .u8 0, .int .u8 0, .int .u8 0, .int .u8 0, .int .u8 0] : Array Value) = (bs (List.replicate 16 0)).toArray := by kernel_rfl
  rw [e16, ← HW1.out]
  clear e16
  go_wp2_with (first
    | (go_at_call 15; go_loud (clear c0 c1; refine HC.out.mono ?_; rintro e w2 ⟨A2, c2, rfl, ho2, hb2⟩; have hcv := conv_str (c := c2) (Reads.of_own ho2); have HB2 := Lib.hid hb2; clear ho2 hb2))
    | (go_at_call 25; go_loud (have hrd : Reads (w2.alloc (.cells #[.string (str l)] 9)) (w2.alloc (.cells #[.string (str l)] 9)).heap.size 1 (some ⟨w2.heap.size, 0, none⟩) [str l].length (ss [str l]) := ⟨rfl, fun _ => ⟨_, rfl, (by rw [size_alloc]; exact Nat.lt_succ_self _), one_new _ _ _⟩⟩; refine (of_ 2 _ [str l] 1 _ (HK.out.below (ba (bt HB1.out HB2.out) _)) hrd HE.out (by simp)).mono ?_; rintro e w3 ⟨rfl, hb3⟩; have HB3 := Lib.hid (bt (bt HB1.out HB2.out) (bt (below_new w2 (.cells #[.string (str l)] 9)) hb3)); have HZ3 := Lib.hid ((HZ1.out.below HB2.out HZ1.out.lt).below (bt (below_new w2 (.cells #[.string (str l)] 9)) hb3) (by have := (HZ1.out.below HB2.out HZ1.out.lt).lt; omega)); clear hb3 hrd))
    | (refine wpList_store_row rfl 37 (.tmp 2) (.tmp 7) rfl (w.heap.size + 1) (bs (ofB 2 [str l])).toArray rfl rfl 37 _ HZ3.out (by rw [Tryd.size37]; simp [bs_length, ofB_len]) (by simp [bs_length, ofB_len]) (all_oneCell_toArray (bs_one _)) ?_))
  refine bodyPost_ret (results_cell_row Tryd.results17 _ _ (w.heap.size + 1) 37 (bs (ofB 2 [str l])).toArray (0, 0) _ rfl (HZ3.out.setRow _) Tryd.underlying37 rfl (by rw [Tryd.size37]; simp [bs_length, ofB_len])) rfl ⟨rfl, below_setRow HB3.out (by omega) _⟩
end Go.Proofs.YtbdknncmlcbbpaaDoor
