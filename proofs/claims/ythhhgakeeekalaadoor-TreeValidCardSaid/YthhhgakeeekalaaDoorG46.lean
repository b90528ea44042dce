/-
  The walk of the law of Valid.
-/
import Derived.Test.YthhhgakeeekalaaDoorG45
set_option linter.unusedVariables false
namespace Go.Proofs.YthhhgakeeekalaaDoor
open Go.RowKit WM TR

attribute [local go_sem ↓ high] shutB0 shutB6
attribute [local go_sem] run_bs0 run_bs6

theorem below_gr {a X w' : World} {row : Option Nat} (hX : Below a.heap.size a X) (h : X.grownBy w' row) (hr : ∀ b, row = some b → a.heap.size ≤ b) : Below a.heap.size a w' :=
  ⟨h.os.trans hX.os, h.tape.trans hX.tape, h.output.trans hX.output, Nat.le_trans hX.size h.size, fun i hi => (h.block i (Nat.lt_of_lt_of_le hi hX.size) (fun e => by have := hr i e.symm; omega)).trans (hX.block i hi)⟩
theorem nd_keep {X w5 : World} {q : Nat} {t : T} {A : Option Addr} {c : Nat} (hb : Blk X q 25 (nd t A c).toArray) (h : w5.heap[q]? = X.heap[q]?) (hq : q < w5.heap.size) : Reads w5 w5.heap.size 4 (some ⟨q, 0, none⟩) 1 (nd t A c) :=
  ⟨rfl, fun _ => ⟨_, rfl, hq, fun j u hu => by
    have hb5 : Blk w5 q 25 (nd t A c).toArray := h.trans hb
    rw [Addr.add_lit, Nat.zero_add, hb5.cell j]
    simpa using hu⟩⟩

set_option maxRecDepth 100000 in
set_option maxHeartbeats 16000000 in
theorem valid_law (L : List Int) (at_ how by_ more : Int) (S : Nat → Prop) (A : Option Addr) (c : Nat) (w : World) (hL : Rd w S 1 A L.length (vi L)) (hin : In S w.heap.size) (hrL : ∀ x ∈ L, inRange x) (hlL : L.length ≤ 9223372036854775807) (ha : inRange at_) (hh : inRange how) (hy : inRange by_) (hm : inRange more) (hT : ST w) (hg : 0 < w.heap.size) :
    Calls Tryd.prog 4 #[.slice A L.length c, .int .i64 at_, .int .i64 how, .int .i64 by_, .int .i64 more] w fun e w' => e = .returned (.bool true) ∧ Below w.heap.size w w' := by
  obtain ⟨z, hz⟩ : ∃ z, z = genTree L := ⟨_, rfl⟩
  have hsz : size z ≤ 4096 := by rw [hz]; exact genTree_size L
  have har := arnd_le (x := more) (n := 8) (by omega)
  obtain ⟨kq, hkq⟩ : ∃ k : Nat, arnd more 8 = (k : Int) := ⟨(arnd more 8).toNat, by omega⟩
  have hkq8 : kq < 8 := by omega
  have har9 := arnd_le (x := more) (n := 9) (by omega)
  obtain ⟨k9, hk9⟩ : ∃ k : Int, arnd more 9 = k := ⟨_, rfl⟩
  rw [hk9] at har9
  have HTZ : Hid (∀ W, Below w.heap.size w W → Calls Tryd.prog 8 #[.slice A L.length c] W (MadeT z 6 W)) := Lib.hid (fun W hb => by rw [hz]; exact Tree_is L S A c W (hL.keep (Keeps.below hin hb)) (hin.more hb.size) hrL hlL)
  have HTP : Hid (Calls Tryd.prog 10 #[.slice A L.length c] w (ProgPost w)) := Lib.hid (program_is L S A c w hL hin hrL hlL)
  have HA8 : Hid (∀ W, Calls Tryd.prog 12 #[.int .i64 more, .int .i64 8] W fun e w' => e = .returned (.int .i64 (kq : Int)) ∧ W = w') := Lib.hid (fun W => by rw [← hkq]; exact around_is more 8 hm (by omega) W)
  have HA9 : Hid (∀ W, Calls Tryd.prog 12 #[.int .i64 more, .int .i64 9] W fun e w' => e = .returned (.int .i64 k9) ∧ W = w') := Lib.hid (fun W => by rw [← hk9]; exact around_is more 9 hm (by omega) W)
  have HSZ : Hid (size z ≤ 4096) := Lib.hid hsz
  have HT := Lib.hid hT
  have HG := Lib.hid hg
  have HRA := Lib.hid ha
  have HRH := Lib.hid hh
  have HRY := Lib.hid hy
  have HRM := Lib.hid hm
  obtain ⟨i0, hi, hz0, hz1, hz2⟩ := info_parts node_info
  clear hz hsz har hkq hk9 hL hin hrL hlL ha hh hy hm hT hg
  go_enter Tryd.func4, Tryd.ntmps4
  go_upto_region 2 with (first
    | (go_at_call 10; refine HTP.out.mono ?_; rintro e w1 ⟨p, A1, c1, rfl, hp1, hr1, hb1⟩
       have H11 := Held.new hr1 (fun b hb => hb.2)
       have hbw := ba hb1 (.cells #[.int .i64 p.k, .int .i64 p.n, .int .i64 p.m, .slice A1 p.kids.length c1] 25)
       clear hr1))
  have HPR := Lib.hid hp1
  have HSP : Hid (size p ≤ 256) := Lib.hid hp1.2.2.1
  obtain ⟨gp, hgp⟩ : ∃ g, g = w1.heap.size := ⟨_, rfl⟩
  rw [← hgp] at H11 ⊢
  clear hp1 hgp hb1
  go_upto_region 4 with (first
    | (refine wpList_load_mid rfl 25 (.tmp 11) rfl gp 0 rfl [.int .i64 p.k, .int .i64 p.n, .int .i64 p.m, .slice A1 p.kids.length c1] _ H11.load Tryd.underlying25 rfl (by rw [size_node]; rfl) ?_)
    | (go_at_call 9; refine (spoilt_is 11 p A1 c1 at_ how by_ _ H11.2 (by have := HSP.out; omega) HRA.out HRH.out HRY.out).mono ?_; rintro e w2 ⟨u, A2, c2, D2, rfl, hsu, hr2, hb2⟩
       have HSU : Hid (size u ≤ 600) := Lib.hid (by have := HSP.out; omega)
       have H12 := Held.new hr2 (fun b hb => hb)
       have hb2' := bt hb2 (below_new w2 (.cells #[.int .i64 u.k, .int .i64 u.n, .int .i64 u.m, .slice A2 u.kids.length c2] 25))
       replace H11 := H11.next hb2'
       replace hbw := bt hbw hb2'
       clear hsu hr2 hb2 hb2'))
  obtain ⟨go, hgo⟩ : ∃ g, g = w2.heap.size := ⟨_, rfl⟩
  obtain ⟨V2, hV2⟩ : ∃ V, V = w2.alloc (.cells #[.int .i64 u.k, .int .i64 u.n, .int .i64 u.m, .slice A2 u.kids.length c2] 25) := ⟨_, rfl⟩
  rw [← hgo] at H12 ⊢
  rw [← hV2] at H11 H12 hbw ⊢
  obtain ⟨gl, hgl⟩ : ∃ g, g = V2.heap.size := ⟨_, rfl⟩
  obtain ⟨lp, hlp⟩ : ∃ l, p.kids.length = l := ⟨_, rfl⟩
  obtain ⟨W3, hW3⟩ : ∃ W, W = V2.alloc (.cells #[.int .i64 p.k, .int .i64 p.n, .int .i64 p.m, .slice A1 lp c1] 25) := ⟨_, rfl⟩
  have hz3 : W3.heap.size = gl + 1 := by rw [hW3, hgl]; exact size_alloc _ _
  have hbx : Below V2.heap.size V2 W3 := by rw [hW3]; exact below_new _ _
  have hb3 : Below w.heap.size w W3 := bt hbw hbx
  have hBL : Blk W3 gl 25 #[.int .i64 p.k, .int .i64 p.n, .int .i64 p.m, .slice A1 lp c1] := by rw [hW3, hgl]; exact Blk.new _ _ _
  have hBP : Blk W3 gp 25 #[.int .i64 p.k, .int .i64 p.n, .int .i64 p.m, .slice A1 lp c1] := by rw [← hlp]; exact H11.1.below hbx H11.1.lt
  have hBO : Blk W3 go 25 #[.int .i64 u.k, .int .i64 u.n, .int .i64 u.m, .slice A2 u.kids.length c2] := H12.1.below hbx H12.1.lt
  have hRP : Rep W3 (fun b => b < gl) 11 p (nd p A1 c1) := by rw [hgl]; exact H11.2.keep (Keeps.below (in_lt V2) hbx)
  have hRU : Rep W3 (fun b => b < gl) D2 u (nd u A2 c2) := by rw [hgl]; exact H12.2.keep (Keeps.below (in_lt V2) hbx)
  have hpl : gp < gl := by have := H11.1.lt; omega
  have hol : go < gl := by have := H12.1.lt; omega
  have HGLW : Hid (w.heap.size ≤ gl) := Lib.hid (by have := hbw.size; omega)
  have hgg : go + 1 = gl := by rw [hgl, hV2, size_alloc, hgo]
  rw [hlp, ← hW3, hgg]
  clear hgg
  have HB3 := Lib.hid hb3
  have HLP := Lib.hid hlp
  have HBP := Lib.hid hBP
  have HBO := Lib.hid hBO
  have HRP := Lib.hid hRP
  have HRU := Lib.hid hRU
  have HZ3 := Lib.hid hz3
  have hlp0 : 0 < lp := by
    have h := HPR.out.2.1
    unfold btw at h
    simp only [Bool.and_eq_true, decide_eq_true_eq] at h
    omega
  have hlp1 : lp ≤ 256 := by have h1 := kids_lt p; have h2 := HSP.out; omega
  obtain ⟨k0, hk0⟩ : ∃ k, p.kids[0]? = some k := ⟨_, List.getElem?_eq_getElem (by omega)⟩
  obtain ⟨bk, ok, Ak, ck, hAk, hsk, hck, hrk⟩ := hRP.kid hk0
  subst hAk
  have hszk : size k0 ≤ 256 := by have h1 := size_kid hk0; have h2 := HSP.out; omega
  have HLL : Hid (LongR gl W3 W3 p.k p.n p.m p.kids (some ⟨bk, ok, none⟩) c1 lp) := Lib.hid ⟨hBL, hRP.mono fun b (hb : b < gl) => ⟨by omega, by omega⟩, gw_refl _ _, hlp⟩
  have HRK := Lib.hid hrk
  have HCK : Hid (∀ W', W3.grownBy W' (some gl) → W'.cell? ⟨bk, ok, none⟩ = some (.int .i64 k0.k) ∧ W'.cell? ⟨bk, ok + 1, none⟩ = some (.int .i64 k0.n) ∧ W'.cell? ⟨bk, ok + 2, none⟩ = some (.int .i64 k0.m) ∧ W'.cell? ⟨bk, ok + 3, none⟩ = some (.slice Ak k0.kids.length ck)) := Lib.hid (fun W' h => by
    have hb : W'.heap[bk]? = W3.heap[bk]? := h.block bk (by have : bk < gl := hsk; omega) (fun e => by have : bk < gl := hsk; have := Option.some.inj e; omega)
    have hk := fun (j : Nat) (v : Value) (hv : (nd k0 Ak ck)[j]? = some v) => (World.cell?_of_block (a := ⟨bk, ok + 0 * 4 + j, none⟩) hb).trans (hck j v hv)
    exact ⟨hk 0 _ rfl, hk 1 _ rfl, hk 2 _ rfl, hk 3 _ rfl⟩)
  have HSK := Lib.hid hszk
  have HK0 := Lib.hid hk0
  clear hW3 hV2 hgo hgl hbx hb3 hlp hBP hBO hRP hRU hBL H11 H12 hbw hk0 hsk hck hrk hszk hz3
  go_wp2_with fail
  go_loopw [14] (fun i wr => ∃ (j : Nat) (tl : List T) (Al : Option Addr) (cl l : Nat), j ≤ kq ∧ i = .int .i64 j ∧ Hid (LongR gl W3 wr p.k p.n p.m tl Al cl l ∧ l ≤ lp + j ∧ size ⟨p.k, p.n, p.m, tl⟩ ≤ 256 + 256 * j)) (fun i _ => kq - (intOf i).toNat)
  case atStart => exact ⟨0, p.kids, _, c1, lp, Nat.zero_le _, rfl, HLL.out, by omega, by have := HSP.out; rw [sz_kids]; omega⟩
  case round =>
    clear HLL
    obtain ⟨j, tl, Al, cl, l, hj, rfl, HR⟩ := hrel
    obtain ⟨Wr, hWr⟩ : ∃ Wr, Wr = wr := ⟨_, rfl⟩
    subst hWr
    by_cases hlt : j < kq
    · have hlt2 : (j : Int) < kq := by omega
      have hl300 : l ≤ 300 := by have := HR.out.2.1; omega
      have hglW : gl < Wr.heap.size := HR.out.1.blk.lt
      have hWW : W3.heap.size ≤ Wr.heap.size := HR.out.1.grown.size
      have hcap := HR.out.1.rep.cap
      obtain ⟨xs, hrd, hrs⟩ := HR.out.1.rep.kids
      have hlen := HR.out.1.len
      simp only at hrd hrs hcap
      rw [hlen] at hrd hcap
      have hone := hrs.one_cell
      have HGW : Hid (∀ W', Below Wr.heap.size Wr W' → W3.grownBy W' (some gl)) := Lib.hid (fun W' h => gw_trans HR.out.1.grown (gw_of_below h))
      have HK : Hid (∀ W', Below Wr.heap.size Wr W' → W'.cell? ⟨gl, 3, none⟩ = some (.slice Al l cl) ∧ W'.cell? ⟨gp, 3, none⟩ = some (.slice (some ⟨bk, ok, none⟩) lp c1) ∧ W'.cell? ⟨bk, ok, none⟩ = some (.int .i64 k0.k) ∧ W'.cell? ⟨bk, ok + 1, none⟩ = some (.int .i64 k0.n) ∧ W'.cell? ⟨bk, ok + 2, none⟩ = some (.int .i64 k0.m) ∧ W'.cell? ⟨bk, ok + 3, none⟩ = some (.slice Ak k0.kids.length ck)) := Lib.hid (fun W' h => by
        obtain ⟨a0, a1, a2, a3⟩ := HCK.out W' (HGW.out W' h)
        exact ⟨(HR.out.1.blk.below h hglW).cell 3, (HBP.out.gw (HGW.out W' h) (by omega)).cell 3, a0, a1, a2, a3⟩)
      have HRK2 : Hid (Rep Wr (Nr gl Wr.heap.size) 10 k0 (nd k0 Ak ck)) := Lib.hid ((HRK.out.keep (w' := Wr) (fun b (hb : b < gl) => HR.out.1.grown.block b (by have := HZ3.out; omega) (fun e => by have := Option.some.inj e; omega))).mono fun b (hb : b < gl) => ⟨by omega, by omega⟩)
      have HRS := Lib.hid hrs
      have HRDX : Hid (∀ W', Below Wr.heap.size Wr W' → Reads W' W'.heap.size 4 Al l xs) := Lib.hid (fun W' h => (hrd.keep (Keeps.below (nr_in gl Wr) h)).reads (fun b hb => Nat.lt_of_lt_of_le hb.2 h.size))
      have HONE := Lib.hid hone
      have HNX : Hid (∀ (w7 : World) (A7 : Option Addr) (c7 : Nat), Below Wr.heap.size Wr w7 → w7.ownsRow Wr.heap.size 25 4 (.slice A7 (l + 1) c7) (l + 1) (xs ++ nd k0 Ak ck) → LongR gl W3 (w7.setCell ⟨gl, 3, none⟩ (.slice A7 (l + 1) c7)) p.k p.n p.m (tl ++ [k0]) A7 c7 (l + 1)) := Lib.hid (fun w7 A7 c7 hB ho => HR.out.1.next hB (by have := HZ3.out; omega) HRS.out HRK2.out ho)
      have HO1 : Hid (((Wr.alloc (.cells #[] 25)).drew).ownsRow Wr.heap.size 25 4 (.slice (some ⟨Wr.heap.size, 0, none⟩) 0 0) 0 []) := Lib.hid (own_lit (xs := []) (n := 0) (Nat.le_refl _) rfl (len_le (by omega))).drew
      have HO2 : Hid ((((Wr.alloc (.cells #[] 25)).alloc (.cells #[.int .i64 k0.k, .int .i64 k0.n, .int .i64 k0.m, .slice Ak k0.kids.length ck] 25)).drew).ownsRow Wr.heap.size 25 4 (.slice (some ⟨Wr.heap.size, 0, none⟩) 0 0) 0 []) := Lib.hid ((own_lit (xs := []) (n := 0) (Nat.le_refl _) rfl (len_le (by omega))).alloc _).drew
      have HO3 : Hid ((((Wr.alloc (.cells #[.int .i64 k0.k, .int .i64 k0.n, .int .i64 k0.m, .slice Ak k0.kids.length ck] 25)).alloc (.cells #[] 25)).drew).ownsRow Wr.heap.size 25 4 (.slice (some ⟨Wr.heap.size + 1, 0, none⟩) 0 0) 0 []) := Lib.hid (by
        have h := own_lit (w := Wr.alloc (.cells #[.int .i64 k0.k, .int .i64 k0.n, .int .i64 k0.m, .slice Ak k0.kids.length ck] 25)) (base := Wr.heap.size) (e := 25) (size := 4) (xs := []) (n := 0) (by rw [size_alloc]; omega) rfl (len_le (by omega))
        rw [size_alloc] at h
        exact h.drew)
      have HX1 : Hid (Below Wr.heap.size Wr ((Wr.alloc (.cells #[] 25)).drew)) := Lib.hid (ba (Below.refl _ _) _).drew
      have HX2 : Hid (Below Wr.heap.size Wr (((Wr.alloc (.cells #[] 25)).alloc (.cells #[.int .i64 k0.k, .int .i64 k0.n, .int .i64 k0.m, .slice Ak k0.kids.length ck] 25)).drew)) := Lib.hid (ba (ba (Below.refl _ _) _) _).drew
      have HX3 : Hid (Below Wr.heap.size Wr (((Wr.alloc (.cells #[.int .i64 k0.k, .int .i64 k0.n, .int .i64 k0.m, .slice Ak k0.kids.length ck] 25)).alloc (.cells #[] 25)).drew)) := Lib.hid (ba (ba (Below.refl _ _) _) _).drew
      have HZ1 : Hid (((Wr.alloc (.cells #[] 25)).drew).heap.size = Wr.heap.size + 1) := Lib.hid (size_alloc _ _)
      have HZ2 : Hid ((((Wr.alloc (.cells #[] 25)).alloc (.cells #[.int .i64 k0.k, .int .i64 k0.n, .int .i64 k0.m, .slice Ak k0.kids.length ck] 25)).drew).heap.size = Wr.heap.size + 2) := Lib.hid (by show ((Wr.alloc _).alloc _).heap.size = _; rw [size_alloc, size_alloc])
      have HZ3' : Hid ((((Wr.alloc (.cells #[.int .i64 k0.k, .int .i64 k0.n, .int .i64 k0.m, .slice Ak k0.kids.length ck] 25)).alloc (.cells #[] 25)).drew).heap.size = Wr.heap.size + 2) := Lib.hid (by show ((Wr.alloc _).alloc _).heap.size = _; rw [size_alloc, size_alloc])
      have HN2 : Hid (Blk (((Wr.alloc (.cells #[] 25)).alloc (.cells #[.int .i64 k0.k, .int .i64 k0.n, .int .i64 k0.m, .slice Ak k0.kids.length ck] 25)).drew) (Wr.heap.size + 1) 25 (nd k0 Ak ck).toArray) := Lib.hid (Blk.drew (by
        have h := Blk.new (Wr.alloc (.cells #[] 25)) 25 (nd k0 Ak ck).toArray
        rw [size_alloc] at h
        exact h))
      have HN3 : Hid (Blk (((Wr.alloc (.cells #[.int .i64 k0.k, .int .i64 k0.n, .int .i64 k0.m, .slice Ak k0.kids.length ck] 25)).alloc (.cells #[] 25)).drew) Wr.heap.size 25 (nd k0 Ak ck).toArray) := Lib.hid (Blk.drew ((Blk.new Wr 25 (nd k0 Ak ck).toArray).alloc _))
      have HHB := HR
      have hbc : Below Wr.heap.size Wr Wr.drew := (Below.refl _ _).drew
      have hmo : Tryd.prog.follows .mixedOrders = true := by kernel_rfl
      clear hrd hrs hlen hone hcap
      go_upto_region 7 with (first
        | (go_at_call 12; refine (HA8.out _).mono ?_; rintro e w' ⟨rfl, rfl⟩))
      have HX4 : Hid (Below Wr.heap.size Wr ((Wr.alloc (.cells #[.int .i64 k0.k, .int .i64 k0.n, .int .i64 k0.m, .slice Ak k0.kids.length ck] 25)).drew)) := Lib.hid (ba (Below.refl _ _) _).drew
      obtain ⟨qa0, qa1, qa2, qa3, qa4, qa5⟩ := HK.out _ hbc
      obtain ⟨qb0, qb1, qb2, qb3, qb4, qb5⟩ := HK.out _ HX1.out
      obtain ⟨qc0, qc1, qc2, qc3, qc4, qc5⟩ := HK.out _ HX2.out
      obtain ⟨qd0, qd1, qd2, qd3, qd4, qd5⟩ := HK.out _ HX3.out
      obtain ⟨qe0, qe1, qe2, qe3, qe4, qe5⟩ := HK.out _ HX4.out
      go_region_law
        (first
        | (have hmm := mk1; refine step_append_any _ rfl (.tmp 36) (.tmp 41) 23 rfl Wr.heap.size 25 i0 _ 4 48 Tryd.underlying23 hi hz0 hz1 hz2 rfl (by omega) _ l xs rfl (HO5.out.alloc _) _ (some ⟨w5.heap.size, 0, none⟩) 1 1 (nd k0 Ak ck) rfl (reads_nd w5 k0 Ak ck) (nd_one k0 Ak ck) (len_le (by omega)) (by omega) (by have := HB5.out.size; rw [size_alloc]; omega) ?_
           intro v7 w7 hown7 hg7 hn7; obtain ⟨A7, c7, hv7, _⟩ := own_len hown7; subst hv7; have HO7 := Lib.hid hown7
           have HB7 : Hid (Below Wr.heap.size Wr w7) := Lib.hid (below_gr (ba HB5.out _) hg7 (fun b hb => (HO5.out.lt b hb).1))
           have hL7 := HHB.out.1.blk.below HB7.out hglW
           have g3 := hL7.cell 3; have gf3 := hL7.frozen 3; simp only [List.getElem?_toArray, List.getElem?_cons_zero, List.getElem?_cons_succ] at g3
           replace hbc := HB7.out; clear hown7 hg7 hn7 hL7)
        | (refine step_append_any _ rfl (.tmp 36) (.tmp 41) 23 rfl Wr.heap.size 25 i0 _ 4 48 Tryd.underlying23 hi hz0 hz1 hz2 rfl (by omega) _ l xs rfl HO5.out _ _ 1 1 (nd k0 Ak ck) rfl HRN.out (nd_one k0 Ak ck) (len_le (by omega)) (by omega) HB5.out.size ?_
           intro v7 w7 hown7 hg7 hn7; obtain ⟨A7, c7, hv7, _⟩ := own_len hown7; subst hv7; have HO7 := Lib.hid hown7
           have HB7 : Hid (Below Wr.heap.size Wr w7) := Lib.hid (below_gr HB5.out hg7 (fun b hb => (HO5.out.lt b hb).1))
           have hL7 := HHB.out.1.blk.below HB7.out hglW
           have g3 := hL7.cell 3; have gf3 := hL7.frozen 3; simp only [List.getElem?_toArray, List.getElem?_cons_zero, List.getElem?_cons_succ] at g3
           replace hbc := HB7.out; clear hown7 hg7 hn7 hL7)
        | (refine step_append_any _ rfl (.tmp 33) (.tmp 35) 23 rfl Wr.heap.size 25 i0 _ 4 48 Tryd.underlying23 hi hz0 hz1 hz2 rfl (by omega) _ 0 [] rfl HO1.out _ Al l cl xs rfl (HRDX.out _ HX1.out) HONE.out (len_le (by omega)) (by omega) HX1.out.size ?_
           intro v5 w5 hown5 hg5 hn5; replace hown5 := own_nil hown5; have HO5 := Lib.hid hown5
           have HB5 : Hid (Below Wr.heap.size Wr w5) := Lib.hid (below_gr HX1.out hg5 (fun b hb => (HO1.out.lt b hb).1))
           have mk1 : True := trivial
           obtain ⟨qf0, qf1, qf2, qf3, qf4, qf5⟩ := HK.out _ HB5.out
           replace hbc := HB5.out; clear hown5 hg5 hn5)
        | (refine step_append_any _ rfl (.tmp 33) (.tmp 35) 23 rfl Wr.heap.size 25 i0 _ 4 48 Tryd.underlying23 hi hz0 hz1 hz2 rfl (by omega) _ 0 [] rfl HO2.out _ Al l cl xs rfl (HRDX.out _ HX2.out) HONE.out (len_le (by omega)) (by omega) HX2.out.size ?_
           intro v5 w5 hown5 hg5 hn5; replace hown5 := own_nil hown5; have HO5 := Lib.hid hown5
           have HB5 : Hid (Below Wr.heap.size Wr w5) := Lib.hid (below_gr HX2.out hg5 (fun b hb => (HO2.out.lt b hb).1))
           have HRN := Lib.hid (nd_keep HN2.out (hg5.block _ (by have := HZ2.out; omega) (fun e => by have h : some (Wr.heap.size + 1) = some Wr.heap.size := e; have := Option.some.inj h; omega)) (by have := HZ2.out; have := hg5.size; omega))
           replace hbc := HB5.out; clear hown5 hg5 hn5)
        | (refine step_append_any _ rfl (.tmp 33) (.tmp 35) 23 rfl Wr.heap.size 25 i0 _ 4 48 Tryd.underlying23 hi hz0 hz1 hz2 rfl (by omega) _ 0 [] rfl HO3.out _ Al l cl xs rfl (HRDX.out _ HX3.out) HONE.out (len_le (by omega)) (by omega) HX3.out.size ?_
           intro v5 w5 hown5 hg5 hn5; replace hown5 := own_nil hown5; have HO5 := Lib.hid hown5
           have HB5 : Hid (Below Wr.heap.size Wr w5) := Lib.hid (below_gr HX3.out hg5 (fun b hb => (HO3.out.lt b hb).1))
           have HRN := Lib.hid (nd_keep HN3.out (hg5.block _ (by have := HZ3'.out; omega) (fun e => by have h : some Wr.heap.size = some (Wr.heap.size + 1) := e; have := Option.some.inj h; omega)) (by have := HZ3'.out; have := hg5.size; omega))
           replace hbc := HB5.out; clear hown5 hg5 hn5))
      all_goals
        go_wp2_with fail
        go_roundw
        case rel => exact ⟨j + 1, tl ++ [k0], A7, c7, l + 1, by omega, by go_num, HNX.out w7 A7 c7 HB7.out HO7.out, by have := HHB.out.2.1; omega, by rw [two_sizes]; have := HHB.out.2.2; have := HSK.out; omega⟩
        case measure => simp [intOf]; omega
    · have hjk : ¬ (j : Int) < kq := by omega
      have hglW : gl < Wr.heap.size := HR.out.1.blk.lt
      have hGW := HR.out.1.grown
      have hWW : W3.heap.size ≤ Wr.heap.size := hGW.size
      have HKW : Hid (Wr.cell? ⟨gp, 3, none⟩ = some (.slice (some ⟨bk, ok, none⟩) lp c1)) := Lib.hid ((HBP.out.gw hGW (by omega)).cell 3)
      have g3 := HKW.out
      have HLK : Hid (∀ i z, ([.int .i64 k0.k, .int .i64 k0.n, .int .i64 k0.m, .slice Ak k0.kids.length ck] : List Value)[i]? = some z → Wr.cell? ⟨bk, ok + i, none⟩ = some z) := Lib.hid (fun i z hz => by
        obtain ⟨a0, a1, a2, a3⟩ := HCK.out Wr hGW
        match i, hz with
        | 0, hz => cases hz; exact a0
        | 1, hz => cases hz; exact a1
        | 2, hz => cases hz; exact a2
        | 3, hz => cases hz; exact a3
        | i + 4, hz => simp at hz)
      have hrk := HRK.out.keep (w' := Wr) (fun b (hb : b < gl) => hGW.block b (by have := HZ3.out; omega) (fun e => by have := Option.some.inj e; omega))
      have hcapk := hrk.cap
      obtain ⟨ys, hrd, hrs⟩ := hrk.kids
      obtain ⟨kn, hkn⟩ : ∃ n, k0.kids.length = n := ⟨_, rfl⟩
      rw [hkn] at hrd hcapk HLK
      have hkn0 : 0 < kn := by
        have h := HPR.out.2.2.2.2 0 k0 HK0.out
        have h2 : IsFun k0 := by unfold isFun at h; simpa using h
        have h3 := h2.2.1
        unfold btw at h3
        simp only [Bool.and_eq_true, decide_eq_true_eq] at h3
        omega
      have hkn1 : kn ≤ 256 := by have := kids_lt k0; have := HSK.out; omega
      have HKN := Lib.hid hkn
      have HRRK := Lib.hid hrk.range
      obtain ⟨gb, hgb⟩ : ∃ g, g = Wr.heap.size := ⟨_, rfl⟩
      have HRD := Lib.hid hrd
      have HRS := Lib.hid hrs
      have HONE := Lib.hid hrs.one_cell
      have HGW := Lib.hid hGW
      have HGB := Lib.hid hgb
      clear hrk hrd hrs hkn hcapk hGW
      go_upto_region 9 with (first
        | (go_at_call 12; refine (HA8.out _).mono ?_; rintro e w' ⟨rfl, rfl⟩)
        | (refine wpList_load_mid rfl 25 (.tmp 46) rfl bk ok rfl [.int .i64 k0.k, .int .i64 k0.n, .int .i64 k0.m, .slice Ak kn ck] _ HLK.out Tryd.underlying25 rfl (by rw [size_node]; rfl) ?_))
      obtain ⟨V8, hV8⟩ : ∃ V, V = Wr.alloc (.cells #[.int .i64 k0.k, .int .i64 k0.n, .int .i64 k0.m, .slice Ak kn ck] 25) := ⟨_, rfl⟩
      have HB8 : Hid (Below Wr.heap.size Wr V8) := Lib.hid (by rw [hV8]; exact below_new _ _)
      have hx8 : Blk V8 gb 25 #[.int .i64 k0.k, .int .i64 k0.n, .int .i64 k0.m, .slice Ak kn ck] := by rw [hV8, hgb]; exact Blk.new _ _ _
      have hz8 : V8.heap.size = gb + 1 := by rw [hV8, hgb]; exact size_alloc _ _
      have HX8 := Lib.hid hx8
      have HZ8 := Lib.hid hz8
      have b3 := hx8.cell 3
      simp only [List.getElem?_toArray, List.getElem?_cons_zero, List.getElem?_cons_succ] at b3
      have hgb8 : gb < V8.heap.size := by omega
      rw [← hV8, ← hgb]
      have HRD8 : Hid (Reads (V8.alloc (.cells #[] 25)) (V8.alloc (.cells #[] 25)).heap.size 4 Ak kn ys) := Lib.hid ((HRD.out.keep (Keeps.below (B := Wr.heap.size) (fun b (hb : b < gl) => by omega) (ba HB8.out _))).reads (fun b (hb : b < gl) => by rw [size_alloc]; omega))
      clear hV8 hx8 hz8 hgb g3
      go_upto_region 10 with (first
        | (at_builtin
           refine wpList_append_any _ rfl (.tmp 48) (.tmp 50) 23 rfl (gb + 1) 25 i0 _ 4 48 Tryd.underlying23 hi hz0 hz1 hz2 rfl (by omega) _ 0 [] rfl (own_lit (xs := []) (n := 0) (Nat.le_of_eq HZ8.out.symm) rfl (len_le (by omega))) _ Ak kn ck ys rfl HRD8.out HONE.out (len_le (by omega)) (by omega) (by rw [size_alloc, HZ8.out]; omega) ?_
           intro v9 w9 hown9 hg9 hn9
           replace hown9 := own_nil hown9
           obtain ⟨A9, c9, hv9, _⟩ := own_len hown9
           subst hv9
           have HB9 : Hid (Below V8.heap.size V8 w9) := Lib.hid (below_grown hg9 (fun b hb => Nat.le_of_eq (Option.some.inj hb)))
           have HO9 := Lib.hid hown9
           have hx9 := HX8.out.below HB9.out HX8.out.lt
           have HX9 := Lib.hid hx9
           clear b3
           have b3 := hx9.cell 3; have e3 := hx9.frozen 3
           simp only [List.getElem?_toArray, List.getElem?_cons_zero, List.getElem?_cons_succ] at b3
           clear hown9 hg9 hn9 hx9))
      obtain ⟨m, hm⟩ : ∃ m, kn = m + 1 := ⟨kn - 1, by omega⟩
      have HB89 : Hid (Below Wr.heap.size Wr w9) := Lib.hid (bt HB8.out HB9.out)
      obtain ⟨r, hr9⟩ : ∃ r, A9 = some ⟨r, 0, none⟩ := by
        have h := HO9.out
        rw [hm] at h
        obtain ⟨r, c, e⟩ := ownsRow_succ h
        cases e
        exact ⟨r, rfl⟩
      subst hr9
      have HRW := Lib.hid (HO9.out.lt r rfl)
      obtain ⟨V9, hV9⟩ : ∃ V, V = w9.setCell ⟨gb, 3, none⟩ (.slice (some ⟨r, 0, none⟩) kn c9) := ⟨_, rfl⟩
      have HX10 : Hid (Blk V9 gb 25 #[.int .i64 k0.k, .int .i64 k0.n, .int .i64 k0.m, .slice (some ⟨r, 0, none⟩) kn c9]) := Lib.hid (by
        have h := HX9.out.set_ 3 (.slice (some ⟨r, 0, none⟩) kn c9)
        rw [hV9]; simpa using h)
      have HO10 : Hid (V9.ownsRow (gb + 1) 25 4 (.slice (some ⟨r, 0, none⟩) kn c9) kn ys) := Lib.hid (by rw [hV9]; exact own_set HO9.out _)
      have HB10 : Hid (Below Wr.heap.size Wr V9) := Lib.hid (by rw [hV9]; exact HB89.out.setCell (Nat.le_of_eq HGB.out.symm) _)
      have HRS10 : Hid (Reps V9 (fun b => b < gl) 9 k0.kids ys) := Lib.hid (HRS.out.keep fun b (hb : b < gl) => HB10.out.block b (by omega))
      have hz9 : V9.heap.size = w9.heap.size := by rw [hV9]; exact World.size_setCell _ _ _
      have HRL : Hid (r < V9.heap.size) := Lib.hid (by have := HRW.out; omega)
      rw [← hV9]
      have HM := Lib.hid hm
      have hmk : (0 : Int) ≤ (m : Int) ∧ (m : Int) < (kn : Int) := ⟨by omega, by omega⟩
      have hglb : gl < gb := by have := HGB.out; omega
      have hwk : IntKind.i64.wrap ((kn : Int) - 1) = (m : Int) := by rw [IntKind.wrap_i64]; omega
      have hw10 : IntKind.i64.wrap (10 + k9) = 10 + k9 := by rw [IntKind.wrap_i64]; omega
      have HDC : Hid (Calls Tryd.prog 11 #[.int .i64 (10 + k9)] V9.drew (DeepPost 100 V9.drew)) := Lib.hid (deep_any (10 + k9) 100 (by omega) (by omega) (by omega) V9.drew)
      have d3 : V9.drew.cell? ⟨gb, 3, none⟩ = some (.slice (some ⟨r, 0, none⟩) kn c9) := HX10.out.drew.cell 3
      clear hV9 b3 e3 hm hz9 HO9 HX9 HB9
      go_cut [8] from 53 to 63 (fun s8 wv => ∃ (V : World) (bt : T) (D : Nat), V = wv ∧ Hid (size bt ≤ 400 ∧ Below Wr.heap.size Wr V ∧ Held V gb bt (10 + D) (some ⟨r, 0, none⟩) c9))
      case first =>
        go_region_law (first
          | (go_simp; go_at_call 11; refine HDC.out.mono ?_; rintro e1 w10 ⟨dt, A10, c10, D10, rfl, hsd, hr10, hb10⟩
             have hb10' : Below V9.heap.size V9 w10 := ⟨hb10.os, hb10.tape, hb10.output, hb10.size, hb10.block⟩
             have hx := HX10.out.below hb10' HX10.out.lt
             have ho := ownsRow_below HO10.out hb10'
             obtain ⟨V, bt, hV, hsb, hbV, hHV⟩ := body_made (gl := gl) (m := m) (q := V9.heap.size) (bt HB10.out hb10') HGB.out hx ho (HRS10.out.keep fun b (hb : b < gl) => hb10'.block b (by have := HX10.out.lt; omega)) (by omega) HKN.out (by have := HM.out; omega) HRRK.out hr10 HRL.out
             have HVV := Lib.hid hV; have HSB : Hid (size bt ≤ 400) := Lib.hid (by have := HSK.out; omega); have HBV := Lib.hid hbV; have HHV := Lib.hid hHV
             have d3' := hx.cell 3
             obtain ⟨u0, t0⟩ := own_cell (j := m * 4) ho (by have := HM.out; omega); obtain ⟨u1, t1⟩ := own_cell (j := m * 4 + 1) ho (by have := HM.out; omega); obtain ⟨u2, t2⟩ := own_cell (j := m * 4 + 2) ho (by have := HM.out; omega); obtain ⟨u3, t3⟩ := own_cell (j := m * 4 + 3) ho (by have := HM.out; omega)
             have f0 := ho.frozenAt (m * 4); have f1 := ho.frozenAt (m * 4 + 1); have f2 := ho.frozenAt (m * 4 + 2); have f3 := ho.frozenAt (m * 4 + 3)
             simp only [List.getElem?_toArray, List.getElem?_cons_zero, List.getElem?_cons_succ] at d3'
             clear hx ho hV hsb hbV hHV hr10 hb10 hb10' hsd)
          | (go_simp; go_at_call 12; refine (HA9.out _).mono ?_; rintro e w' ⟨rfl, rfl⟩))
        all_goals
          go_wp2_with fail
          go_meet
          rw [← HVV.out]
          exact ⟨_, bt, D10, rfl, HSB.out, HBV.out, HHV.out⟩
      case rest =>
      obtain ⟨V, bt, D, hV, HH⟩ := hcut
      subst hV
      clear d3 hwk hw10
      have hLT := HR.out.1
      obtain ⟨lt, hltt⟩ : ∃ t : T, t = ⟨p.k, p.n, p.m, tl⟩ := ⟨_, rfl⟩
      have hW3V : W3.grownBy V (some gl) := gw_trans HGW.out (gw_of_below HH.out.2.1)
      have H1 : Held V gp p 11 (some ⟨bk, ok, none⟩) c1 := ⟨by rw [HLP.out]; exact HBP.out.gw hW3V (by omega), (HRP.out.keep (w' := V) (fun b (hb : b < gl) => hW3V.block b (by have := HZ3.out; omega) (fun e => by have := Option.some.inj e; omega))).mono fun b (hb : b < gl) => by show b < V.heap.size; have := HH.out.2.1.size; omega⟩
      have H2 : Held V go u D2 A2 c2 := ⟨HBO.out.gw hW3V (by omega), (HRU.out.keep (w' := V) (fun b (hb : b < gl) => hW3V.block b (by have := HZ3.out; omega) (fun e => by have := Option.some.inj e; omega))).mono fun b (hb : b < gl) => by show b < V.heap.size; have := HH.out.2.1.size; omega⟩
      have H3 : Held V gl lt 11 Al cl := by
        rw [hltt]
        refine ⟨?_, ((hLT.rep.keep (Keeps.below (nr_in gl Wr) HH.out.2.1))).mono fun b hb => by show b < V.heap.size; have := hb.2; have := HH.out.2.1.size; omega⟩
        have h := hLT.blk.below HH.out.2.1 hglW
        rw [← hLT.len] at h
        exact h
      have H4 := HH.out.2.2
      have HSL : Hid (size lt ≤ 3000) := Lib.hid (by rw [hltt]; have := HR.out.2.2; omega)
      have HSB : Hid (size bt ≤ 400) := Lib.hid HH.out.1
      have HBV : Hid (Below w.heap.size w V) := Lib.hid (by
        have hb := HB3.out
        have hg := hW3V
        exact ⟨hg.os.trans hb.os, hg.tape.trans hb.tape, hg.output.trans hb.output, Nat.le_trans hb.size hg.size, fun b hb' => (hg.block b (by have := hb.size; omega) (fun e => by have := Option.some.inj e; have := HGLW.out; omega)).trans (hb.block b hb')⟩)
      clear hLT hltt hW3V
      go_upto_region 12 with (first
        | (refine wpList_load_mid rfl 25 (.tmp 15) rfl gb 0 rfl [.int .i64 bt.k, .int .i64 bt.n, .int .i64 bt.m, .slice (some ⟨r, 0, none⟩) bt.kids.length c9] _ H4.load Tryd.underlying25 rfl (by rw [size_node]; rfl) ?_))
      obtain ⟨dT, hdT⟩ : ∃ t : T, t = ⟨27, 0, 0, [bt]⟩ := ⟨_, rfl⟩
      have H5 := deep_held H4
      rw [← hdT] at H5
      obtain ⟨W11, hW11⟩ : ∃ W, W = (V.alloc (.cells #[.int .i64 bt.k, .int .i64 bt.n, .int .i64 bt.m, .slice (some ⟨r, 0, none⟩) bt.kids.length c9] 25)).alloc (.cells #[.int .i64 27, .int .i64 0, .int .i64 0, .slice (some ⟨V.heap.size, 0, none⟩) 1 1] 25) := ⟨_, rfl⟩
      have hb11 : Below V.heap.size V W11 := by rw [hW11]; exact ba (below_new _ _) _
      rw [← hW11] at H5 ⊢
      replace H1 := H1.next hb11
      replace H2 := H2.next hb11
      replace H3 := H3.next hb11
      have HSD : Hid (size dT ≤ 401) := Lib.hid (by rw [hdT, size_eq]; have := HSB.out; simp; omega)
      obtain ⟨gd, hgd⟩ : ∃ g, g = V.heap.size + 1 := ⟨_, rfl⟩
      obtain ⟨gv, hgv⟩ : ∃ g, g = V.heap.size := ⟨_, rfl⟩
      rw [← hgd, ← hgv] at H5
      rw [← hgd]
      have HBW : Hid (Below w.heap.size w W11) := Lib.hid (bt' HBV.out hb11)
      clear hW11 hb11 hgd hgv H4 hdT
      have HK : Hid (∀ W', Below W11.heap.size W11 W' → W'.cell? ⟨gp, 0, none⟩ = some (.int .i64 p.k) ∧ W'.cell? ⟨gp, 1, none⟩ = some (.int .i64 p.n) ∧ W'.cell? ⟨gp, 2, none⟩ = some (.int .i64 p.m) ∧ W'.cell? ⟨gp, 3, none⟩ = some (.slice (some ⟨bk, ok, none⟩) p.kids.length c1) ∧ W'.cell? ⟨go, 0, none⟩ = some (.int .i64 u.k) ∧ W'.cell? ⟨go, 1, none⟩ = some (.int .i64 u.n) ∧ W'.cell? ⟨go, 2, none⟩ = some (.int .i64 u.m) ∧ W'.cell? ⟨go, 3, none⟩ = some (.slice A2 u.kids.length c2) ∧ W'.cell? ⟨gl, 0, none⟩ = some (.int .i64 lt.k) ∧ W'.cell? ⟨gl, 1, none⟩ = some (.int .i64 lt.n) ∧ W'.cell? ⟨gl, 2, none⟩ = some (.int .i64 lt.m) ∧ W'.cell? ⟨gl, 3, none⟩ = some (.slice Al lt.kids.length cl) ∧ W'.cell? ⟨gd, 0, none⟩ = some (.int .i64 dT.k) ∧ W'.cell? ⟨gd, 1, none⟩ = some (.int .i64 dT.n) ∧ W'.cell? ⟨gd, 2, none⟩ = some (.int .i64 dT.m) ∧ W'.cell? ⟨gd, 3, none⟩ = some (.slice (some ⟨gv, 0, none⟩) dT.kids.length 1)) := Lib.hid (fun W' h => by
        obtain ⟨a0, a1, a2, a3⟩ := (H1.next h).cells
        obtain ⟨b0, b1, b2, b3⟩ := (H2.next h).cells
        obtain ⟨d0, d1, d2, d3⟩ := (H3.next h).cells
        obtain ⟨f0, f1, f2, f3⟩ := (H5.next h).cells
        exact ⟨a0, a1, a2, a3, b0, b1, b2, b3, d0, d1, d2, d3, f0, f1, f2, f3⟩)
      have HQ : Hid (inRange (how.tdiv 6)) := Lib.hid (by
        have h : (how.tdiv 6).natAbs = how.natAbs / 6 := Int.natAbs_tdiv how 6
        have := HRH.out
        unfold inRange at *; omega)
      have HW6 : Hid (IntKind.i64.wrap (how.tdiv 6) = how.tdiv 6) := Lib.hid (by rw [IntKind.wrap_i64]; have := HQ.out; unfold inRange at this; omega)
      have HSPC : Hid (∀ W', Below W11.heap.size W11 W' → Calls Tryd.prog 9 #[.agg #[.int .i64 u.k, .int .i64 u.n, .int .i64 u.m, .slice A2 u.kids.length c2], .int .i64 by_, .int .i64 (IntKind.i64.wrap (how.tdiv 6)), .int .i64 more] W' (SpPost u W')) := Lib.hid (fun W' h => by rw [HW6.out]; exact spoilt_is D2 u A2 c2 by_ (how.tdiv 6) more W' (H2.next h).2 (by have := HSU.out; omega) HRY.out HQ.out HRM.out)
      have HTZ2 : Hid (∀ W', Below W11.heap.size W11 W' → Calls Tryd.prog 8 #[.slice A L.length c] W' (MadeT z 6 W')) := Lib.hid (fun W' h => HTZ.out W' (bt' HBW.out h))
      have X1 := Lib.hid H1
      have X2 := Lib.hid H2
      have X3 := Lib.hid H3
      have X5 := Lib.hid H5
      have hbc : Below W11.heap.size W11 W11.drew := (Below.refl _ _).drew
      clear H1 H2 H3 H5
      go_cut [17] from 67 to 79 (fun s17 wv => ∃ (gr or : Nat) (s2 : T) (V : World), V = wv ∧ s17 = .slice (some ⟨gr, or, none⟩) 6 6 ∧ Hid (RowT V gr or [p, u, s2, lt, dT, z] ∧ size s2 ≤ 2000 ∧ Below W11.heap.size W11 V))
      case first =>
        refine wp_region_noPanic ?_
        go_region_held2 (fun W' => W'.cell? ⟨gp, 0, none⟩ = some (.int .i64 p.k) ∧ W'.cell? ⟨gp, 1, none⟩ = some (.int .i64 p.n) ∧ W'.cell? ⟨gp, 2, none⟩ = some (.int .i64 p.m) ∧ W'.cell? ⟨gp, 3, none⟩ = some (.slice (some ⟨bk, ok, none⟩) p.kids.length c1) ∧ W'.cell? ⟨go, 0, none⟩ = some (.int .i64 u.k) ∧ W'.cell? ⟨go, 1, none⟩ = some (.int .i64 u.n) ∧ W'.cell? ⟨go, 2, none⟩ = some (.int .i64 u.m) ∧ W'.cell? ⟨go, 3, none⟩ = some (.slice A2 u.kids.length c2) ∧ W'.cell? ⟨gl, 0, none⟩ = some (.int .i64 lt.k) ∧ W'.cell? ⟨gl, 1, none⟩ = some (.int .i64 lt.n) ∧ W'.cell? ⟨gl, 2, none⟩ = some (.int .i64 lt.m) ∧ W'.cell? ⟨gl, 3, none⟩ = some (.slice Al lt.kids.length cl) ∧ W'.cell? ⟨gd, 0, none⟩ = some (.int .i64 dT.k) ∧ W'.cell? ⟨gd, 1, none⟩ = some (.int .i64 dT.n) ∧ W'.cell? ⟨gd, 2, none⟩ = some (.int .i64 dT.m) ∧ W'.cell? ⟨gd, 3, none⟩ = some (.slice (some ⟨gv, 0, none⟩) dT.kids.length 1))
          (first | exact HK.out _ hbc | exact HK.out _ (ba hbc _))
          (first
          | (go_at_call 8; refine (HTZ2.out _ hbc).mono ?_; rintro e w14 ⟨A14, c14, rfl, hr14, hb14⟩; replace hbc := bt' hbc hb14; replace OS := OS.next hb14; have OZ : Old w14 6 z A14 c14 := hr14.mono fun b hb => hb.2; clear hr14 hb14)
          | (go_at_call 9; refine (HSPC.out _ hbc).mono ?_; rintro e w13 ⟨s2, A13, c13, D13, rfl, hsu, hr13, hb13⟩; replace hbc := bt' hbc hb13; have OS : Old w13 D13 s2 A13 c13 := hr13; have HS2 := Lib.hid hsu; clear hr13 hb13 hsu))
        all_goals
          refine NoPanic.normal ?_
          go_wp2_with fail
          go_meet
          refine ⟨_, _, s2, _, rfl, rfl, ?_, by have := HS2.out; have := HSU.out; omega, ba hbc _⟩
          have O1 : Old w14 11 p (some ⟨bk, ok, none⟩) c1 := (X1.out.next hbc).2
          have O2 : Old w14 D2 u A2 c2 := (X2.out.next hbc).2
          have O3 : Old w14 11 lt Al cl := (X3.out.next hbc).2
          have O5 : Old w14 (10 + D + 1) dT (some ⟨gv, 0, none⟩) 1 := (X5.out.next hbc).2
          have h := (((((Reps.one (O1.deep (D' := 50 + D + D2 + D13) (by omega))).snoc (O2.deep (by omega))).snoc (OS.deep (by omega))).snoc (O3.deep (by omega))).snoc (O5.deep (by omega))).snoc (OZ.deep (by omega))
          exact rowT_of h
      case rest =>
      obtain ⟨gr, or, s2, W4, hW4, rfl, HH4⟩ := hcut
      subst hW4
      have HB34 : Hid (Below W11.heap.size W11 W4) := Lib.hid HH4.out.2.2
      obtain ⟨ts, hts⟩ : ∃ ts, ts = [p, u, s2, lt, dT, z] := ⟨_, rfl⟩
      have HTSL : Hid (ts.length = 6) := Lib.hid (by rw [hts]; rfl)
      have HTSS : Hid (∀ t ∈ ts, size t ≤ 1000000) := Lib.hid (fun t ht => by
        rw [hts] at ht
        have h := HH4.out.2.1
        simp only [List.mem_cons, List.not_mem_nil, or_false] at ht
        rcases ht with rfl | rfl | rfl | rfl | rfl | rfl
        · have := HSP.out; omega
        · have := HSU.out; omega
        · omega
        · have := HSL.out; omega
        · have := HSD.out; omega
        · have := HSZ.out; omega)
      have HROW : Hid (∀ (i : Nat) (t : T), ts[i]? = some t → ∃ A c, (∀ W', Below W4.heap.size W4 W' → W'.cell? ⟨gr, or + i * 4, none⟩ = some (.int .i64 t.k) ∧ W'.cell? ⟨gr, or + i * 4 + 1, none⟩ = some (.int .i64 t.n) ∧ W'.cell? ⟨gr, or + i * 4 + 2, none⟩ = some (.int .i64 t.m) ∧ W'.cell? ⟨gr, or + i * 4 + 3, none⟩ = some (.slice A t.kids.length c)) ∧ ∃ D, ∀ W', Below W4.heap.size W4 W' → Rep W' (fun b => b < W'.heap.size) D t (nd t A c)) := Lib.hid (fun i t ht => by
        rw [hts] at ht
        obtain ⟨hgl, hall⟩ := HH4.out.1
        obtain ⟨A, c, D, hc, hr⟩ := hall i t ht
        refine ⟨A, c, fun W' h => ?_, D, fun W' h => (hr.keep (Keeps.below (in_lt W4) h)).mono fun b (hb : b < W4.heap.size) => Nat.lt_of_lt_of_le hb h.size⟩
        have hk := fun (j : Nat) (v : Value) (hv : (nd t A c)[j]? = some v) => (h.cell (p := ⟨gr, or + i * 4 + j, none⟩) hgl).trans (hc j v hv)
        exact ⟨hk 0 _ rfl, hk 1 _ rfl, hk 2 _ rfl, hk 3 _ rfl⟩)
      have HBW4 : Hid (Below w.heap.size w W4) := Lib.hid (bt' HBW.out HB34.out)
      have XP := Lib.hid (X1.out.next HB34.out)
      clear hts hbc HK HSPC HH4 HTZ2
      go_wp2_with fail
      go_loopw [18] (fun i wr => ∃ j : Nat, j ≤ 6 ∧ i = .int .i64 j ∧ Hid (Below W4.heap.size W4 wr)) (fun i _ => 6 - (intOf i).toNat)
      case atStart => exact ⟨0, Nat.zero_le _, rfl, Below.refl _ _⟩
      case round =>
        obtain ⟨i, hi', rfl, HBi⟩ := hrel
        by_cases hli : i < 6
        · obtain ⟨ti, hti⟩ : ∃ t, ts[i]? = some t := ⟨_, List.getElem?_eq_getElem (by rw [HTSL.out]; exact hli)⟩
          obtain ⟨Ai, ci, hKi, Di, hRi⟩ := HROW.out i ti hti
          have HKI := Lib.hid hKi
          have HRI := Lib.hid hRi
          have HSI : Hid (size ti ≤ 1000000) := Lib.hid (HTSS.out ti (List.mem_of_getElem? hti))
          have hib : (0 : Int) ≤ i ∧ (i : Int) < 6 := ⟨by omega, by omega⟩
          obtain ⟨vb, hvb⟩ : ∃ b, isProg ti = b := ⟨_, rfl⟩
          have F1 : Hid (∀ W', Below W4.heap.size W4 W' → Calls Tryd.prog 20 #[.agg #[.int .i64 ti.k, .int .i64 ti.n, .int .i64 ti.m, .slice Ai ti.kids.length ci]] W' fun e w' => e = .returned (.bool vb) ∧ Below W'.heap.size W' w') := Lib.hid (fun W' h => by
            rw [← hvb]
            exact tvalid_is Di ti _ Ai ci W' (HRI.out W' h) (in_lt _) HSI.out ((HT.out.below HBW4.out HG.out).below h (Nat.lt_of_lt_of_le HG.out HBW4.out.size)) (Nat.lt_of_lt_of_le (Nat.lt_of_lt_of_le HG.out HBW4.out.size) h.size))
          have F2 : Hid (∀ W', Below W4.heap.size W4 W' → Calls Tryd.prog 21 #[.agg #[.int .i64 ti.k, .int .i64 ti.n, .int .i64 ti.m, .slice Ai ti.kids.length ci]] W' fun e w' => e = .returned (.bool vb) ∧ Below W'.heap.size W' w') := Lib.hid (fun W' h => by rw [← hvb]; exact valid_is Di ti _ Ai ci W' (HRI.out W' h) (in_lt _) HSI.out)
          have hvv : (vb != vb) = false := by simp
          have hbc : Below W4.heap.size W4 wr.drew := HBi.out.drew
          clear hti hKi hRi hvb
          go_wp2_with fail
          go_cut [96] from 80 to 96 (fun s96 wv => ∃ V : World, V = wv ∧ s96 = .bool false ∧ Hid (Below W4.heap.size W4 V))
          case first =>
            refine wp_region_noPanic ?_
            go_region_held2 (fun W' => W'.cell? ⟨gr, or + i * 4, none⟩ = some (.int .i64 ti.k) ∧ W'.cell? ⟨gr, or + i * 4 + 1, none⟩ = some (.int .i64 ti.n) ∧ W'.cell? ⟨gr, or + i * 4 + 2, none⟩ = some (.int .i64 ti.m) ∧ W'.cell? ⟨gr, or + i * 4 + 3, none⟩ = some (.slice Ai ti.kids.length ci))
              (exact HKI.out _ hbc)
              (first
              | (go_at_call 20; refine (F1.out _ hbc).mono ?_; rintro e w5 ⟨rfl, hb5⟩; replace hbc := bt' hbc hb5; clear hb5)
              | (go_at_call 21; refine (F2.out _ hbc).mono ?_; rintro e w5 ⟨rfl, hb5⟩; replace hbc := bt' hbc hb5; clear hb5))
            all_goals
              refine NoPanic.normal ?_
              go_wp2_with fail
              go_meet
              exact ⟨_, rfl, rfl, hbc⟩
          case rest =>
          obtain ⟨V2, hV2, rfl, HBV2⟩ := hcut
          subst hV2
          clear hbc F1 F2 hvv
          go_wp2_with fail
          go_roundw
          case rel => exact ⟨i + 1, by omega, by go_num, HBV2.out⟩
          case measure => simp [intOf]; omega
        · have hi6 : i = 6 := by omega
          subst hi6
          have HBF : Hid (Below w.heap.size w wr) := Lib.hid (bt' HBW4.out HBi.out)
          have HTF : Hid (ST wr ∧ 0 < wr.heap.size) := Lib.hid ⟨HT.out.below HBF.out HG.out, Nat.lt_of_lt_of_le HG.out HBF.out.size⟩
          have H1 := XP.out.next HBi.out
          have HVC : Hid (Calls Tryd.prog 20 #[.agg #[.int .i64 p.k, .int .i64 p.n, .int .i64 p.m, .slice (some ⟨bk, ok, none⟩) p.kids.length c1]] wr fun e w' => e = .returned (.bool true) ∧ Below wr.heap.size wr w') := Lib.hid (by
            have h := tvalid_is 11 p _ (some ⟨bk, ok, none⟩) c1 wr H1.2 (in_lt _) (by have := HSP.out; omega) HTF.out.1 HTF.out.2
            rw [isProg_true HPR.out] at h
            exact h)
          clear hi' hli
          go_wp2_with (first
            | (refine wpList_load_mid rfl 25 (.tmp 11) rfl gp 0 rfl [.int .i64 p.k, .int .i64 p.n, .int .i64 p.m, .slice (some ⟨bk, ok, none⟩) p.kids.length c1] _ H1.load Tryd.underlying25 rfl (by rw [size_node]; rfl) ?_)
            | (go_at_call 20; refine HVC.out.mono ?_; rintro e w8 ⟨rfl, hb8⟩; have HB8' := Lib.hid (bt' HBF.out hb8); have HLV : Hid (Calls Tryd.prog 19 #[] w8 fun e w' => e = .returned (.bool true) ∧ Below w8.heap.size w8 w') := Lib.hid (lives_is w8 (HTF.out.1.below hb8 HTF.out.2) (Nat.lt_of_lt_of_le HTF.out.2 hb8.size)); clear hb8)
            | (go_at_call 19; refine HLV.out.mono ?_; rintro e w9' ⟨rfl, hb9'⟩))
          go_ret
          exact ⟨rfl, bt' HB8'.out hb9'⟩
end Go.Proofs.YthhhgakeeekalaaDoor
