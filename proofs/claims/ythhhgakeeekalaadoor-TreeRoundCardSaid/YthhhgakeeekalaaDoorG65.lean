/-
  The walk of the law of bytes.
-/
import Derived.Test.YthhhgakeeekalaaDoorG60
import Derived.Test.YthhhgakeeekalaaDoorG62
import Derived.Test.YthhhgakeeekalaaDoorG64
import Derived.Test.YthhhgakeeekalaaDoorG28
import Derived.Test.YthhhgakeeekalaaDoorG07
import Derived.Test.YthhhgakeeekalaaDoorG23
import Derived.Test.YthhhgakeeekalaaDoorG15
set_option linter.unusedVariables false
namespace Go.Proofs.YthhhgakeeekalaaDoor
open Go.RowKit WM TR

/-- A literal of no bytes, kept shut. -/
def bs0b (parts : Array (Nat × Value)) : Sem Value := Instr.buildSlice 36 0 parts
theorem shutB0b (parts : Array (Nat × Value)) : Instr.buildSlice 36 0 parts = bs0b parts := rfl
theorem run_bs0b (W : World) : (bs0b #[]).run Tryd.prog W = .ok (.slice (some ⟨W.heap.size, 0, none⟩) 0 0) (W.alloc (.cells #[] 5)) := by kernel_rfl
attribute [local go_sem ↓ high] shutB0b
attribute [local go_sem] run_bs0b

theorem below_grR {a w w' : World} {row : Option Nat} (hb : Below a.heap.size a w) (h : w.grownBy w' row) (hr : ∀ b, row = some b → a.heap.size ≤ b) : Below a.heap.size a w' :=
  ⟨h.os.trans hb.os, h.tape.trans hb.tape, h.output.trans hb.output, Nat.le_trans hb.size h.size, fun i hi => (h.block i (Nat.lt_of_lt_of_le hi hb.size) (fun e => by have := hr i e.symm; omega)).trans (hb.block i hi)⟩

theorem ints4 (w : World) (a b c d : Int) : Reads (w.alloc (.cells #[.int .i64 a, .int .i64 b, .int .i64 c, .int .i64 d] 3)) (w.alloc (.cells #[.int .i64 a, .int .i64 b, .int .i64 c, .int .i64 d] 3)).heap.size 1 (some ⟨w.heap.size, 0, none⟩) [a, b, c, d].length (vi [a, b, c, d]) :=
  ⟨rfl, fun _ => ⟨_, rfl, (by rw [size_alloc]; exact Nat.lt_succ_self _), cells_new w [.int .i64 a, .int .i64 b, .int .i64 c, .int .i64 d] 3⟩⟩
theorem str1 (w : World) (s : ByteArray) : Reads (w.alloc (.cells #[.string s] 9)) (w.alloc (.cells #[.string s] 9)).heap.size 1 (some ⟨w.heap.size, 0, none⟩) 1 (ss [s]) :=
  ⟨rfl, fun _ => ⟨_, rfl, (by rw [size_alloc]; exact Nat.lt_succ_self _), one_new _ _ _⟩⟩
/-- The bytes of two trees, compared. -/
theorem sameB (AB AY : Option Addr) (cB cY N NY : Nat) (x y : T) (w : World) (hx : Reads w w.heap.size 1 AB N (bs (encT x))) (hy : Reads w w.heap.size 1 AY NY (bs (encT y))) (hN : (encT x).length = N) (hNY : (encT y).length = NY) (h1 : N ≤ 1000000) (h2 : NY ≤ 1000000) (hok : Ok x) (hoky : Ok y) (r : Bool) (hr : decide (cmp x y = 0) = r) :
    Calls Tryd.prog 23 #[.slice AB N cB, .slice AY NY cY] w fun e w' => e = .returned (.bool r) ∧ Below w.heap.size w w' := by
  subst hN hNY hr
  by_cases h : encT x = encT y
  · have e := enc_inj hok hoky h
    subst e
    rw [cmp_self, decide_eq_true rfl]
    exact same _ _ AB AY cB cY (encT x) w hx hy (by omega)
  · have hne : ¬ cmp x y = 0 := fun e => h (by rw [cmp_zero e])
    rw [decide_eq_false hne]
    exact sameNe _ _ AB AY cB cY _ _ w hx hy (by omega) h

set_option maxRecDepth 100000 in
set_option maxHeartbeats 16000000 in
theorem round_law (L M : List Int) (cut : Int) (F : List UInt8) (S : Nat → Prop) (A B C : Option Addr) (c c' cf : Nat) (w : World) (hL : Rd w S 1 A L.length (vi L)) (hM : Rd w S 1 B M.length (vi M)) (hF : Reads w w.heap.size 1 C F.length (bs F)) (hcf : F.length ≤ cf) (hin : In S w.heap.size) (hrL : ∀ x ∈ L, inRange x) (hrM : ∀ x ∈ M, inRange x) (hlL : L.length ≤ 9223372036854775807) (hlM : M.length ≤ 9223372036854775807) (hlF : F.length ≤ 9223372036854775807) (hcu : inRange cut) (hT : ST w) (hg : 0 < w.heap.size) (hkt : KT 1 w) :
    Calls Tryd.prog 6 #[.slice A L.length c, .slice B M.length c', .int .i64 cut, .slice C F.length cf] w fun e w' => e = .returned (.bool true) ∧ Below w.heap.size w w' := by
  obtain ⟨x, hx⟩ : ∃ x, x = genTree L := ⟨_, rfl⟩
  obtain ⟨y, hy⟩ : ∃ y, y = genTree M := ⟨_, rfl⟩
  have hsx : size x ≤ 4096 := by rw [hx]; exact genTree_size L
  have hsy : size y ≤ 4096 := by rw [hy]; exact genTree_size M
  have HTX : Hid (Calls Tryd.prog 8 #[.slice A L.length c] w (MadeT x 6 w)) := Lib.hid (by rw [hx]; exact Tree_is L S A c w hL hin hrL hlL)
  have HTY : Hid (∀ W, Below w.heap.size w W → Calls Tryd.prog 8 #[.slice B M.length c'] W (MadeT y 6 W)) := Lib.hid (fun W hb => by rw [hy]; exact Tree_is M S B c' W (hM.keep (Keeps.below hin hb)) (hin.more hb.size) hrM hlM)
  have HFW : Hid (∀ W, Below w.heap.size w W → Calls Tryd.prog 27 #[.slice C F.length cf, .int .i64 50] W fun e w' => ∃ A' c', e = .returned (.slice A' (F.take 50).length c') ∧ w'.ownsRow W.heap.size 5 1 (.slice A' (F.take 50).length c') (F.take 50).length (bs (F.take 50)) ∧ Below W.heap.size W w') := Lib.hid (fun W hb => few_is C F cf 50 W ((hF.below hb).more hb.size) hcf hlF (by omega))
  have HSX : Hid (size x ≤ 4096) := Lib.hid hsx
  have HSY : Hid (size y ≤ 4096) := Lib.hid hsy
  have HT := Lib.hid hT
  have HG := Lib.hid hg
  have HKT := Lib.hid hkt
  have HCU := Lib.hid hcu
  obtain ⟨i0, hi, hz0, hz1, hz2⟩ := info_parts Tryd.info5
  obtain ⟨F5, hF5⟩ : ∃ l, F.take 50 = l := ⟨_, rfl⟩
  have hn5 : F5.length ≤ 50 := by rw [← hF5, List.length_take]; omega
  rw [hF5] at HFW
  obtain ⟨n5, hn5e⟩ : ∃ n, F5.length = n := ⟨_, rfl⟩
  rw [hn5e] at HFW hn5
  have HN5 := Lib.hid hn5e
  clear hF5 hn5e
  clear hx hy hsx hsy hL hM hF hin hrL hrM hlL hlM hcu hT hg hkt
  go_enter Tryd.func6, Tryd.ntmps6
  go_upto_region 3 with (first
    | (go_at_call 8; refine HTX.out.mono ?_; rintro e w1 ⟨A1, c1, rfl, hr1, hb1⟩
       have H11 := Held.new hr1 (fun b hb => hb.2)
       have hbw := ba hb1 (.cells #[.int .i64 x.k, .int .i64 x.n, .int .i64 x.m, .slice A1 x.kids.length c1] 25)
       clear hr1 hb1)
    | (go_at_call 8; refine (HTY.out _ hbw).mono ?_; rintro e w2 ⟨A2, c2, rfl, hr2, hb2⟩
       have H12 := Held.new hr2 (fun b hb => hb.2)
       have hb2' := ba hb2 (.cells #[.int .i64 y.k, .int .i64 y.n, .int .i64 y.m, .slice A2 y.kids.length c2] 25)
       replace H11 := H11.next hb2'
       replace hbw := bt hbw hb2'
       clear hr2 hb2 hb2'))
  obtain ⟨g1, hg1⟩ : ∃ g, g = w1.heap.size := ⟨_, rfl⟩
  obtain ⟨g2, hg2⟩ : ∃ g, g = w2.heap.size := ⟨_, rfl⟩
  obtain ⟨W2, hW2⟩ : ∃ W, W = w2.alloc (.cells #[.int .i64 y.k, .int .i64 y.n, .int .i64 y.m, .slice A2 y.kids.length c2] 25) := ⟨_, rfl⟩
  rw [← hW2] at H11 H12 hbw ⊢
  rw [← hg1] at H11 ⊢
  rw [← hg2] at H12 ⊢
  have hokx := H11.2.ok (by have := HSX.out; omega)
  have hoky := H12.2.ok (by have := HSY.out; omega)
  have hdx := H11.2.depth_le
  have hbN := encT_small x hokx
  have hbN6 := encT_len hokx
  obtain ⟨N, hN⟩ : ∃ n, (encT x).length = n := ⟨_, rfl⟩
  have HENC : Hid (∀ W', Below W2.heap.size W2 W' → Calls Tryd.prog 24 #[.agg #[.int .i64 x.k, .int .i64 x.n, .int .i64 x.m, .slice A1 x.kids.length c1]] W' fun e w' =>
      ∃ A' c', e = .returned (.slice A' N c') ∧ w'.ownsRow W'.heap.size 5 1 (.slice A' N c') N (bs (encT x)) ∧ Below W'.heap.size W' w') := Lib.hid (fun W' h => by rw [← hN]; exact encode_is 6 x _ A1 c1 W' (H11.next h).2 (in_lt _) (by have := HSX.out; omega))
  rw [hN] at hbN hbN6
  have HN : Hid (N ≤ 184320 ∧ 6 ≤ N) := Lib.hid ⟨by have := HSX.out; omega, hbN6⟩
  have HNE : Hid ((encT x).length = N) := Lib.hid hN
  have HOX := Lib.hid hokx
  have HOY := Lib.hid hoky
  have HDX : Hid (depth x ≤ 24) := Lib.hid (by omega)
  have X11 := Lib.hid H11
  have X12 := Lib.hid H12
  have XBW := Lib.hid hbw
  have hr0 : Below W2.heap.size W2 W2 := Below.refl _ _
  clear hW2 hg1 hg2 hN hbN hbN6 hokx hoky hdx H11 H12 hbw HTX HTY
  go_upto_region 4 with (first
    | (refine wpList_load_mid rfl 25 (.tmp 9) rfl g1 0 rfl [.int .i64 x.k, .int .i64 x.n, .int .i64 x.m, .slice A1 x.kids.length c1] _ X11.out.load Tryd.underlying25 rfl (by rw [size_node]; rfl) ?_)
    | (go_at_call 24; refine (HENC.out _ hr0).mono ?_; rintro e V ⟨AB, cB, rfl, hob, hb3⟩))
  have HB3 := Lib.hid hb3
  have HRB : Hid (∀ W', Below V.heap.size V W' → Reads W' W'.heap.size 1 AB N (bs (encT x))) := Lib.hid (fun W' h => ((Reads.of_own hob).below h).more h.size)
  obtain ⟨_, _, hcB1, hcB⟩ := own_len hob
  cases hcB1
  have HCB := Lib.hid hcB
  clear hob hb3 hcB hr0
  have HDEC : Hid (∀ (W' : World) (A6 : Option Addr) (c6 : Nat), Reads W' W'.heap.size 1 A6 (N + n5) (bs (encT x ++ F5)) → N + n5 ≤ c6 → Calls Tryd.prog 28 #[.slice A6 ((N + n5 : Nat) : Int).toNat c6] W' (DecodePost (some (x, N)) W')) := Lib.hid (fun W' A6 c6 h1 h2 => by
    have e : N + n5 = (encT x ++ F5).length := by rw [List.length_append, HNE.out, HN5.out]
    have hd := dec_enc 24 x F5 HOX.out HDX.out
    rw [HNE.out] at hd
    rw [Int.toNat_natCast, ← hd]
    rw [e] at h1 h2 ⊢
    exact decode_is A6 c6 _ W' h1 h2 (by rw [← e]; have := HN.out; omega))
  have hN0 : N ≤ 184320 := HN.out.1
  have hN6 : 6 ≤ N := HN.out.2
  rw [Int.toNat_natCast] at HDEC
  go_upto_region 5 with (first
    | (at_builtin; refine wpList_append_any _ rfl (.tmp 29) (.tmp 30) _ rfl V.heap.size 5 i0 (.int .u8 0) 1 1 Tryd.underlying36 hi hz0 hz1 hz2 rfl (by omega) _ 0 [] rfl (own_lit (xs := []) (n := 0) (Nat.le_refl _) rfl (len_le (by omega))) _ AB N cB (bs (encT x)) rfl (HRB.out _ (below_new _ _)) (bs_one _) (len_le (by omega)) (by omega) (by rw [size_alloc]; omega) ?_
       intro v4 w4 hown4 hg4 _
       rw [Nat.zero_add, List.nil_append] at hown4
       have hb4 : Below V.heap.size V w4 := below_grR (below_new V (.cells #[] 5)) hg4 (fun b e => Nat.le_of_eq (Option.some.inj e))
       have hq4 := hown4.lt
       clear hg4)
    | (go_at_call 27; refine (HFW.out _ (bt (bt XBW.out HB3.out) hb4)).mono ?_; rintro e w5 ⟨A5, c5, rfl, ho5, hb5⟩
       have hown5 := ownsRow_below hown4 hb5
       have hb45 := bt hb4 hb5)
    | (at_builtin; refine wpList_append_any _ rfl (.tmp 31) (.tmp 33) _ rfl V.heap.size 5 i0 (.int .u8 0) 1 1 Tryd.underlying36 hi hz0 hz1 hz2 rfl (by omega) v4 N (bs (encT x)) rfl hown5 _ A5 n5 c5 (bs F5) rfl (Reads.of_own ho5) (bs_one _) (len_le (by omega)) (by omega) hb45.size ?_
       intro v6 w6 hown6 hg6 _
       rw [← bs_append] at hown6
       have hb6 : Below V.heap.size V w6 := below_grR hb45 hg6 (fun b e => (hq4 b e).1)
       obtain ⟨A6, c6, rfl, hc6⟩ := own_len hown6
       clear hg6 hown5 ho5 hb5 hb45 hown4 hb4 hq4)
    | (go_at_call 28; refine (HDEC.out _ _ _ (Reads.of_own hown6) hc6).mono ?_; rintro e w7 ⟨A7, c7, rfl, hr7, hb7⟩
       clear hown6 hc6))
  have H17 := Held.new hr7 (fun b hb => hb.2)
  have hb67 := ba (bt hb6 hb7) (.cells #[.int .i64 x.k, .int .i64 x.n, .int .i64 x.m, .slice A7 x.kids.length c7] 25)
  obtain ⟨g7, hg7⟩ : ∃ g, g = w7.heap.size := ⟨_, rfl⟩
  obtain ⟨W7, hW7⟩ : ∃ W, W = w7.alloc (.cells #[.int .i64 x.k, .int .i64 x.n, .int .i64 x.m, .slice A7 x.kids.length c7] 25) := ⟨_, rfl⟩
  rw [← hW7] at H17 hb67 ⊢
  rw [← hg7] at H17 ⊢
  have Y11 := Lib.hid ((X11.out.next HB3.out).next hb67)
  have Y12 := Lib.hid ((X12.out.next HB3.out).next hb67)
  have Y17 := Lib.hid H17
  have HB7 := Lib.hid hb67
  have HF1 : Hid (Calls Tryd.prog 17 #[.agg #[.int .i64 x.k, .int .i64 x.n, .int .i64 x.m, .slice A1 x.kids.length c1], .agg #[.int .i64 x.k, .int .i64 x.n, .int .i64 x.m, .slice A7 x.kids.length c7]] W7 fun e w' => e = .returned (.int .i64 0) ∧ Below W7.heap.size W7 w') := Lib.hid (by
    have h := tcmp_is _ x x _ _ A1 A7 c1 c7 _ W7 Y11.out.2 Y17.out.2 (in_lt _) (in_lt _) (by have := HSX.out; omega) (by have := HSX.out; omega)
    rw [cmp_self] at h
    exact h)
  have har := arnd_le (x := cut) (n := (N : Int)) (by omega)
  obtain ⟨kq, hkq⟩ : ∃ k : Nat, arnd cut (N : Int) = (k : Int) := ⟨(arnd cut (N : Int)).toNat, by omega⟩
  have hkN : kq < N := by omega
  have HAR : Hid (∀ W, Calls Tryd.prog 12 #[.int .i64 cut, .int .i64 (N : Int)] W fun e w' => e = .returned (.int .i64 (kq : Int)) ∧ W = w') := Lib.hid (fun W => by rw [← hkq]; exact around_is cut N HCU.out (by omega) W)
  have hc8 := cut8 AB N cB kq (by have := HCB.out; omega)
  obtain ⟨A8, hA8⟩ : ∃ A8, A8 = (if cB = 0 then AB else AB.map (·.add 0)) := ⟨_, rfl⟩
  have HD2 : Hid (∀ W', Below V.heap.size V W' → Calls Tryd.prog 28 #[.slice A8 kq cB] W' (DecodePost none W')) := Lib.hid (fun W' h => by
    have h1 := reads_cut8 (c := cB) (k := kq) (HRB.out W' h) (by omega)
    have hl : ((encT x).take kq).length = kq := by rw [List.length_take, HNE.out]; omega
    have hd := dec_cut (d := 24) (p := (encT x).take kq) (q := (encT x).drop kq) HOX.out HDX.out (List.take_append_drop _ _) (fun e => by
      have := congrArg List.length e
      rw [List.length_drop, HNE.out, List.length_nil] at this; omega) (by omega)
    rw [← hA8] at h1
    have h2 := decode_is A8 cB ((encT x).take kq) W' (by rw [hl]; exact h1) (by have := HCB.out; omega) (by omega)
    rw [hl, hd] at h2
    exact h2)
  have HGI : Hid (∀ W', Below V.heap.size V W' → Calls Tryd.prog 31 #[.slice AB N cB] W' fun e w' => ∃ (A9 : Option Addr) (c9 u : Nat), e = .returned (.tuple #[.slice A9 4 c9, .int .i64 (u : Int), .int .i64 0]) ∧ Reads w' w'.heap.size 1 A9 4 (vi [x.k, x.n, x.m, (x.kids.length : Int)]) ∧ Below W'.heap.size W' w') := Lib.hid (fun W' h => by
    have h1 := HRB.out W' h
    have hg := head_read HOX.out ((x.kids.map encT).flatten)
    rw [← encT_eq] at hg
    have h2 := getInts AB cB (encT x) W' (by rw [HNE.out]; exact h1) (by rw [HNE.out]; exact HCB.out) (by rw [HNE.out]; omega)
    rw [hg, HNE.out] at h2
    refine h2.mono ?_
    rintro e w' ⟨A9, c9, rfl, ho, hb⟩
    exact ⟨A9, c9, _, rfl, Reads.of_own ho, hb⟩)
  rw [← hA8] at hc8
  have hNN : ((N : Int) != (N : Int)) = false := by simp
  have hNZ : ((N : Int) == 0) = false := by simp; omega
  clear hW7 hg7 H17 hr7 hb6 hb7 hb67 har hkq hA8 HDEC HFW HENC
  obtain ⟨p0, p1, p2, p3⟩ := Y11.out.cells
  obtain ⟨q0, q1, q2, q3⟩ := Y17.out.cells
  go_upto_region 9 with (first
    | (go_at_call 17; refine HF1.out.mono ?_; rintro e w8 ⟨rfl, hb8⟩)
    | (go_at_call 12; refine (HAR.out _).mono ?_; rintro e w' ⟨rfl, rfl⟩)
    | (go_at_call 28; refine (HD2.out _ (bt HB7.out hb8)).mono ?_; rintro e w9 ⟨rfl, hb9⟩
       have hb79 := bt (bt HB7.out hb8) hb9
       have hb7a := bt hb79 (below_new w9 (.cells #[.int .i64 0, .int .i64 0, .int .i64 0, .slice none 0 0] 25)))
    | (go_at_call 31; refine (HGI.out _ hb7a).mono ?_; rintro e w10 ⟨A9, c9, u9, rfl, hr9, hb10⟩))
  have hbs : Below W7.heap.size W7 w10 := bt (bt (bt hb8 hb9) (below_new w9 (.cells #[.int .i64 0, .int .i64 0, .int .i64 0, .slice none 0 0] 25))) hb10
  have Z11 := Lib.hid (Y11.out.next hbs)
  have Z12 := Lib.hid (Y12.out.next hbs)
  have hbV : Below V.heap.size V w10 := bt HB7.out hbs
  have HBV := Lib.hid hbV
  have HBW : Hid (Below w.heap.size w w10) := Lib.hid (bt (bt XBW.out HB3.out) hbV)
  have HR9 : Hid (∀ W', Below w10.heap.size w10 W' → Reads W' W'.heap.size 1 A9 4 (vi [x.k, x.n, x.m, (x.kids.length : Int)])) := Lib.hid (fun W' h => (hr9.below h).more h.size)
  have HK : Hid (∀ W', Below w10.heap.size w10 W' → W'.cell? ⟨g1, 0, none⟩ = some (.int .i64 x.k) ∧ W'.cell? ⟨g1, 1, none⟩ = some (.int .i64 x.n) ∧ W'.cell? ⟨g1, 2, none⟩ = some (.int .i64 x.m) ∧ W'.cell? ⟨g1, 3, none⟩ = some (.slice A1 x.kids.length c1) ∧ W'.cell? ⟨g2, 0, none⟩ = some (.int .i64 y.k) ∧ W'.cell? ⟨g2, 1, none⟩ = some (.int .i64 y.n) ∧ W'.cell? ⟨g2, 2, none⟩ = some (.int .i64 y.m) ∧ W'.cell? ⟨g2, 3, none⟩ = some (.slice A2 y.kids.length c2)) := Lib.hid (fun W' h => by
    obtain ⟨a0, a1, a2, a3⟩ := (Z11.out.next h).cells
    obtain ⟨b0, b1, b2, b3⟩ := (Z12.out.next h).cells
    exact ⟨a0, a1, a2, a3, b0, b1, b2, b3⟩)
  obtain ⟨NY, hNY⟩ : ∃ n, (encT y).length = n := ⟨_, rfl⟩
  have hNYb : NY ≤ 1000000 := by have := encT_small y HOY.out; have := HSY.out; omega
  have FE : Hid (∀ W', Below w10.heap.size w10 W' → Calls Tryd.prog 24 #[.agg #[.int .i64 y.k, .int .i64 y.n, .int .i64 y.m, .slice A2 y.kids.length c2]] W' fun e w' =>
      ∃ A' c', e = .returned (.slice A' NY c') ∧ w'.ownsRow W'.heap.size 5 1 (.slice A' NY c') NY (bs (encT y)) ∧ Below W'.heap.size W' w') := Lib.hid (fun W' h => by rw [← hNY]; exact encode_is 6 y _ A2 c2 W' (Z12.out.next h).2 (in_lt _) (by have := HSY.out; omega))
  obtain ⟨r, hr⟩ : ∃ r, decide (cmp x y = 0) = r := ⟨_, rfl⟩
  obtain ⟨X, hX⟩ : ∃ X, cmp x y = X := ⟨_, rfl⟩
  have hXr : (X == 0) = r := by
    rw [← hr, ← hX, Bool.eq_iff_iff]
    simp only [beq_iff_eq, decide_eq_true_eq]
  have FS : Hid (∀ (W' : World) (AY : Option Addr) (cY : Nat), Below w10.heap.size w10 W' → Reads W' W'.heap.size 1 AY NY (bs (encT y)) → Calls Tryd.prog 23 #[.slice AB N cB, .slice AY NY cY] W' fun e w' => e = .returned (.bool r) ∧ Below W'.heap.size W' w') := Lib.hid (fun W' AY cY h h1 => sameB AB AY cB cY N NY x y W' (HRB.out W' (bt HBV.out h)) h1 HNE.out hNY (by omega) hNYb HOX.out HOY.out r hr)
  have FC : Hid (∀ W', Below w10.heap.size w10 W' → Calls Tryd.prog 17 #[.agg #[.int .i64 x.k, .int .i64 x.n, .int .i64 x.m, .slice A1 x.kids.length c1], .agg #[.int .i64 y.k, .int .i64 y.n, .int .i64 y.m, .slice A2 y.kids.length c2]] W' fun e w' => e = .returned (.int .i64 X) ∧ Below W'.heap.size W' w') := Lib.hid (fun W' h => by
    rw [← hX]
    exact tcmp_is _ x y _ _ A1 A2 c1 c2 _ W' (Z11.out.next h).2 (Z12.out.next h).2 (in_lt _) (in_lt _) (by have := HSX.out; omega) (by have := HSY.out; omega))
  have hrr : (r == r) = true := by simp
  have hbc : Below w10.heap.size w10 w10.drew := (Below.refl _ _).drew
  clear hr hX hNY hNYb hbs hbV hr9 hb10 hb7a hb79 hb9 hb8 p0 p1 p2 p3 q0 q1 q2 q3 HD2 HGI HAR HF1 hc8
  go_cut [21] from 74 to 82 (fun s21 wv => ∃ (V2 : World), V2 = wv ∧ s21 = .bool true ∧ Hid (Below w10.heap.size w10 V2))
  case first =>
    refine wp_region_noPanic ?_
    go_region_held2 (fun W' => W'.cell? ⟨g1, 0, none⟩ = some (.int .i64 x.k) ∧ W'.cell? ⟨g1, 1, none⟩ = some (.int .i64 x.n) ∧ W'.cell? ⟨g1, 2, none⟩ = some (.int .i64 x.m) ∧ W'.cell? ⟨g1, 3, none⟩ = some (.slice A1 x.kids.length c1) ∧ W'.cell? ⟨g2, 0, none⟩ = some (.int .i64 y.k) ∧ W'.cell? ⟨g2, 1, none⟩ = some (.int .i64 y.n) ∧ W'.cell? ⟨g2, 2, none⟩ = some (.int .i64 y.m) ∧ W'.cell? ⟨g2, 3, none⟩ = some (.slice A2 y.kids.length c2))
      (exact HK.out _ hbc)
      (first
      | (go_at_call 24; refine (FE.out _ hbc).mono ?_; rintro e w11 ⟨AY, cY, rfl, ho, hb11⟩; replace hbc := bt hbc hb11; have HRY := Lib.hid (Reads.of_own ho); clear ho hb11)
      | (go_at_call 23; refine (FS.out _ _ _ hbc HRY.out).mono ?_; rintro e w12 ⟨rfl, hb12⟩; replace hbc := bt hbc hb12; clear hb12)
      | (go_at_call 17; refine (FC.out _ hbc).mono ?_; rintro e w13 ⟨rfl, hb13⟩; replace hbc := bt hbc hb13; clear hb13))
    all_goals
      refine NoPanic.normal ?_
      go_wp2_with fail
      go_meet
      exact ⟨_, rfl, rfl, hbc⟩
  case rest =>
  obtain ⟨V2, hV2, rfl, HBV2⟩ := hcut
  subst hV2
  obtain ⟨st, hst⟩ : ∃ s, str (encT x) = s := ⟨_, rfl⟩
  obtain ⟨D, hD⟩ : ∃ D, (bs (digT x)).toArray = D := ⟨_, rfl⟩
  have hof : ofB 1 [st] = digT x := by rw [← hst]; rfl
  have hEl : (encP [st]).length ≤ 137438953472 := by
    rw [← hst, encP_str]
    unfold encB
    rw [List.length_append, HNE.out]
    have := (enc_len (n := (N : Int)) ⟨by omega, by omega⟩).2
    omega
  have HT2 := HT.out.below HBW.out HG.out
  have hg2 := Nat.lt_of_lt_of_le HG.out HBW.out.size
  have HK10 := HKT.out.below HBW.out
  have FSI : Hid (∀ (W' : World) (b : Nat), Below w10.heap.size w10 W' → Reads W' W'.heap.size 1 (some ⟨b, 0, none⟩) 4 (vi [x.k, x.n, x.m, (x.kids.length : Int)]) → Calls Tryd.prog 32 #[.slice A9 4 c9, .slice (some ⟨b, 0, none⟩) 4 4] W' fun e w' => e = .returned (.bool true) ∧ Below W'.heap.size W' w') := Lib.hid (fun W' b h h1 =>
    sameInts_is [x.k, x.n, x.m, (x.kids.length : Int)] [x.k, x.n, x.m, (x.kids.length : Int)] _ A9 (some ⟨b, 0, none⟩) c9 4 W' (Rd.of_reads (HR9.out W' h)) (Rd.of_reads h1) (In.lt _) (by simp) (by simp) true (by simp))
  have FD : Hid (∀ W', Below w10.heap.size w10 W' → Calls Tryd.prog 25 #[.agg #[.int .i64 x.k, .int .i64 x.n, .int .i64 x.m, .slice A1 x.kids.length c1]] W' fun e w' => e = .returned (.agg D) ∧ Below W'.heap.size W' w') := Lib.hid (fun W' h => by
    rw [← hD]
    exact digest_is _ x _ A1 c1 W' (Z11.out.next h).2 (in_lt _) (by have := HSX.out; omega) (HK10.below h))
  have FO : Hid (∀ (W' : World) (b : Nat), Below w10.heap.size w10 W' → Reads W' W'.heap.size 1 (some ⟨b, 0, none⟩) 1 (ss [st]) → Calls Tryd.prog 33 #[.int .i64 1, .slice (some ⟨b, 0, none⟩) 1 1] W' fun e w' => e = .returned (.agg D) ∧ Below W'.heap.size W' w') := Lib.hid (fun W' b h h1 => by
    have h2 := of_ 1 (some ⟨b, 0, none⟩) [st] 1 W' (HK10.below h) h1 hEl (by simp)
    rw [hof, hD] at h2
    exact h2)
  have HLV : Hid (∀ W', Below w10.heap.size w10 W' → Calls Tryd.prog 19 #[] W' fun e w' => e = .returned (.bool true) ∧ Below W'.heap.size W' w') := Lib.hid (fun W' h => lives_is W' (HT2.below h hg2) (Nat.lt_of_lt_of_le hg2 h.size))
  have HCV : Hid (∀ W', Below w10.heap.size w10 W' → (convert 36 9 (.slice AB N cB)).run Tryd.prog W' = .ok (.string st) W') := Lib.hid (fun W' h => by
    have h1 := HRB.out W' (bt HBV.out h)
    rw [← HNE.out] at h1 ⊢
    rw [← hst]
    exact conv_str h1)
  have hEQ : ∀ W : World, (binOp .eql 40 (.agg D) (.agg D)).run Tryd.prog W = .ok (.bool true) W := fun W => by
    have h := eq44 (digT x) (digT x) (digT_len x) (digT_len x) W
    rw [hD, decide_eq_true rfl] at h
    exact h
  have HKF : Hid (∀ W', Below w10.heap.size w10 W' → W'.cell? ⟨g1, 0, none⟩ = some (.int .i64 x.k) ∧ W'.cell? ⟨g1, 1, none⟩ = some (.int .i64 x.n) ∧ W'.cell? ⟨g1, 2, none⟩ = some (.int .i64 x.m) ∧ W'.cell? ⟨g1, 3, none⟩ = some (.slice A1 x.kids.length c1) ∧ (convert 36 9 (.slice AB N cB)).run Tryd.prog W' = .ok (.string st) W') := Lib.hid (fun W' h => by
    obtain ⟨a0, a1, a2, a3⟩ := (Z11.out.next h).cells
    exact ⟨a0, a1, a2, a3, HCV.out W' h⟩)
  clear hst hD hof hEl HT2 hg2 HK10 FE FS FC hXr hrr hbc
  go_upto_region 10 with fail
  have hbc : Below w10.heap.size w10 V2.drew := HBV2.out.drew
  refine wp_region_noPanic ?_
  go_region_held2 (fun W' => W'.cell? ⟨g1, 0, none⟩ = some (.int .i64 x.k) ∧ W'.cell? ⟨g1, 1, none⟩ = some (.int .i64 x.n) ∧ W'.cell? ⟨g1, 2, none⟩ = some (.int .i64 x.m) ∧ W'.cell? ⟨g1, 3, none⟩ = some (.slice A1 x.kids.length c1) ∧ (convert 36 9 (.slice AB N cB)).run Tryd.prog W' = .ok (.string st) W')
    (first | exact HKF.out _ hbc | exact HKF.out _ (ba hbc _) | exact HKF.out _ (ba (ba hbc _) _))
    (first
    | (go_at_call 32; refine (FSI.out _ _ (ba hbc _) (ints4 _ _ _ _ _)).mono ?_; rintro e w11 ⟨rfl, hb11⟩; replace hbc := bt (ba hbc _) hb11; clear hb11)
    | (go_at_call 25; (with_reducible refine (FD.out _ hbc).mono ?_); rintro e w12 ⟨rfl, hb12⟩; replace hbc := bt hbc hb12; clear hb12)
    | (go_at_call 25; (with_reducible refine (FD.out _ (ba hbc _)).mono ?_); rintro e w12 ⟨rfl, hb12⟩; have hrow := ((str1 w11 st).below hb12).more hb12.size; replace hbc := bt (ba hbc _) hb12; clear hb12)
    | (go_at_call 33; (with_reducible refine (FO.out _ _ (ba hbc _) (str1 _ _)).mono ?_); rintro e w13 ⟨rfl, hb13⟩; replace hbc := bt (ba hbc _) hb13; clear hb13)
    | (go_at_call 33; (with_reducible refine (FO.out _ _ hbc hrow).mono ?_); rintro e w13 ⟨rfl, hb13⟩; replace hbc := bt hbc hb13; clear hb13)
    | (go_at_call 19; (with_reducible refine (HLV.out _ hbc).mono ?_); rintro e w14 ⟨rfl, hb14⟩; replace hbc := bt hbc hb14; clear hb14))
  all_goals
    refine NoPanic.normal ?_
    go_wp2_with fail
    go_ret
    exact ⟨rfl, bt HBW.out hbc⟩
end Go.Proofs.YthhhgakeeekalaaDoor
