/-
  The walk of the law of places and replacing.
-/
import Derived.Test.YtebfhbdamnbojaaDoorG23
import Derived.Test.YtebfhbdamnbojaaDoorG24
import Derived.Test.YtebfhbdamnbojaaDoorG08
set_option linter.unusedVariables false
namespace Go.Proofs.YtebfhbdamnbojaaDoor
open Go.RowKit WM TR

/-- A node in a block of its own, its tree below the world's end. -/
def Held (w : World) (g : Nat) (t : T) (D : Nat) (A : Option Addr) (c : Nat) : Prop :=
  Blk w g 25 #[.int .i64 t.k, .int .i64 t.n, .int .i64 t.m, .slice A t.kids.length c] ∧ Rep w (fun b => b < w.heap.size) D t (nd t A c)
/-- Places, below the world's end. -/
def PsAt (w : World) (A : Option Addr) (ps : List (List Int)) : Prop := Ps w (fun b => b < w.heap.size) A ps
/-- A place, below the world's end. -/
def RdAt (w : World) (A : Option Addr) (p : List Int) : Prop := Rd w (fun b => b < w.heap.size) 1 A p.length (vi p)
section
variable {w w' : World} {g D c : Nat} {t : T} {A : Option Addr}
theorem Held.new {S : Nat → Prop} (h : Rep w S D t (nd t A c)) (hin : In S w.heap.size) : Held (w.alloc (.cells #[.int .i64 t.k, .int .i64 t.n, .int .i64 t.m, .slice A t.kids.length c] 25)) w.heap.size t D A c :=
  ⟨Blk.new _ _ _, (h.keep (Keeps.below hin (below_new _ _))).mono fun b hb => by
    have := hin b hb
    show b < (w.alloc _).heap.size
    rw [size_alloc]; omega⟩
theorem Held.next (h : Held w g t D A c) (hb : Below w.heap.size w w') : Held w' g t D A c :=
  ⟨h.1.below hb h.1.lt, (h.2.keep (Keeps.below (in_lt w) hb)).mono fun b (hb' : b < w.heap.size) => Nat.lt_of_lt_of_le hb' hb.size⟩
theorem Held.load (h : Held w g t D A c) : ∀ i z, ([.int .i64 t.k, .int .i64 t.n, .int .i64 t.m, .slice A t.kids.length c] : List Value)[i]? = some z → w.cell? ⟨g, 0 + i, none⟩ = some z := fun i z hz => by
  rw [h.1.cell (0 + i), Nat.zero_add]; simpa using hz
theorem Held.cells (h : Held w g t D A c) : w.cell? ⟨g, 0, none⟩ = some (.int .i64 t.k) ∧ w.cell? ⟨g, 1, none⟩ = some (.int .i64 t.n) ∧ w.cell? ⟨g, 2, none⟩ = some (.int .i64 t.m) ∧ w.cell? ⟨g, 3, none⟩ = some (.slice A t.kids.length c) :=
  ⟨h.1.cell 0, h.1.cell 1, h.1.cell 2, h.1.cell 3⟩
theorem PsAt.next {ps : List (List Int)} (h : PsAt w A ps) (hb : Below w.heap.size w w') : PsAt w' A ps :=
  (Ps.keep h (Keeps.below (in_lt w) hb)).mono fun b (hb' : b < w.heap.size) => Nat.lt_of_lt_of_le hb' hb.size
theorem RdAt.next {p : List Int} (h : RdAt w A p) (hb : Below w.heap.size w w') : RdAt w' A p :=
  (Rd.keep h (Keeps.below (in_lt w) hb)).mono fun b (hb' : b < w.heap.size) => Nat.lt_of_lt_of_le hb' hb.size
end
/-- A node that was stored late into a block of its own. -/
theorem Held.early {w' : World} {g D c : Nat} {u : T} {A : Option Addr} {cs : List Value} {B : Nat} (hb : Blk w' g 25 cs.toArray) (hs : cs.length = 4) (hg : g < B) (h : Rep w' (fun b => B ≤ b ∧ b < w'.heap.size) D u (nd u A c)) :
    Held ((((w'.setCell ⟨g, 0, none⟩ (.int .i64 u.k)).setCell ⟨g, 1, none⟩ (.int .i64 u.n)).setCell ⟨g, 2, none⟩ (.int .i64 u.m)).setCell ⟨g, 3, none⟩ (.slice A u.kids.length c)) g u D A c :=
  ⟨put4_blk hb hs _ _ _ _, (put4_rep h (fun e => by have := e.1; omega) _ _ _ _).mono fun b hb => by
    have := hb.2
    simpa using this⟩
/-- What a function leaves that hands a node out, with something beside it. -/
def Out2S (u : T) (v : Value) (w : World) (e : Ending) (w' : World) : Prop :=
  ∃ A' c' D, e = .returned (.tuple #[.agg #[.int .i64 u.k, .int .i64 u.n, .int .i64 u.m, .slice A' u.kids.length c'], v]) ∧ Rep w' (fun b => w.heap.size ≤ b ∧ b < w'.heap.size) D u (nd u A' c') ∧ Below w.heap.size w w'
theorem at_ok_s {w : World} {D c pc : Nat} {t u : T} {A P : Option Addr} {p : List Int} (h : Rep w (fun b => b < w.heap.size) D t (nd t A c)) (hp : RdAt w P p) (hs : size t ≤ 1000000) (hpc : p.length ≤ pc) (hpl : p.length ≤ 1000000) (hu : at? p t = some u) :
    Calls Tryd.prog 25 #[.agg #[.int .i64 t.k, .int .i64 t.n, .int .i64 t.m, .slice A t.kids.length c], .slice P p.length pc] w (Out2S u (.bool true) w) := by
  have H := tat_is D t _ _ A c w p P pc h hp (in_lt w) (in_lt w) hs hpc hpl
  rw [hu] at H
  refine H.mono ?_
  rintro e w' ⟨u', A', c', D', rfl, he, hr, hb⟩
  exact ⟨A', c', D', he, hr, hb⟩
/-- What a function leaves that hands a node out, with something beside it. -/
def Out2 (u : T) (v : Value) (w : World) (e : Ending) (w' : World) : Prop :=
  ∃ A' c' D, e = .returned (.tuple #[.agg #[.int .i64 u.k, .int .i64 u.n, .int .i64 u.m, .slice A' u.kids.length c'], v]) ∧ Rep w' (fun b => b < w'.heap.size) D u (nd u A' c') ∧ Below w.heap.size w w'
theorem at_ok {w : World} {D c pc : Nat} {t u : T} {A P : Option Addr} {p : List Int} (h : Rep w (fun b => b < w.heap.size) D t (nd t A c)) (hp : RdAt w P p) (hs : size t ≤ 1000000) (hpc : p.length ≤ pc) (hpl : p.length ≤ 1000000) (hu : at? p t = some u) :
    Calls Tryd.prog 25 #[.agg #[.int .i64 t.k, .int .i64 t.n, .int .i64 t.m, .slice A t.kids.length c], .slice P p.length pc] w (Out2 u (.bool true) w) := by
  have H := tat_is D t _ _ A c w p P pc h hp (in_lt w) (in_lt w) hs hpc hpl
  rw [hu] at H
  refine H.mono ?_
  rintro e w' ⟨u', A', c', D', rfl, he, hr, hb⟩
  exact ⟨A', c', D', he, hr.mono fun b hb => hb.2, hb⟩
theorem set_ok {w : World} {D Dx c cx pc : Nat} {t x u : T} {A X P : Option Addr} {p : List Int} (h : Rep w (fun b => b < w.heap.size) D t (nd t A c)) (hx : Rep w (fun b => b < w.heap.size) Dx x (nd x X cx)) (hp : RdAt w P p) (hs : size t ≤ 1000000) (hsx : size x ≤ 1000000) (hpc : p.length ≤ pc) (hpl : p.length ≤ 1000000) (hu : set? p t x = some u) :
    Calls Tryd.prog 27 #[.agg #[.int .i64 t.k, .int .i64 t.n, .int .i64 t.m, .slice A t.kids.length c], .slice P p.length pc, .agg #[.int .i64 x.k, .int .i64 x.n, .int .i64 x.m, .slice X x.kids.length cx]] w (Out2 u (.int .i64 0) w) := by
  have H := tset_is D Dx t x _ _ _ A X c cx w p P pc h hx hp (in_lt w) (in_lt w) (in_lt w) hs hsx hpc hpl
  rw [hu] at H
  refine H.mono ?_
  intro e w' h
  obtain ⟨A', c', D', he, hr, hb⟩ := h.some_
  exact ⟨A', c', D', he, hr.mono fun b hb => hb.2, hb⟩

theorem st_lt {w : World} (h : ST w) : 0 < w.heap.size := by
  have := h 0 _ rfl 0 _ rfl
  exact block_lt_of_cell this
theorem new_lt (w : World) (o : Obj) : w.heap.size < ((w.alloc o).drew).heap.size := by
  show w.heap.size < (w.alloc o).heap.size
  rw [size_alloc]; omega
theorem put4_later {a w : World} {g : Nat} (h : Below a.heap.size a w) (hg : a.heap.size ≤ g) (v0 v1 v2 v3 : Value) :
    Below a.heap.size a ((((w.setCell ⟨g, 0, none⟩ v0).setCell ⟨g, 1, none⟩ v1).setCell ⟨g, 2, none⟩ v2).setCell ⟨g, 3, none⟩ v3) := put4_below h _ _ _ _ hg

set_option maxRecDepth 100000 in
set_option maxHeartbeats 6000000 in
theorem found_is (L M : List Int) (at_ : Int) (S : Nat → Prop) (A B : Option Addr) (c c' : Nat) (w : World) (hL : Rd w S 1 A L.length (vi L)) (hM : Rd w S 1 B M.length (vi M)) (hin : In S w.heap.size) (hrL : ∀ x ∈ L, inRange x) (hrM : ∀ x ∈ M, inRange x) (hlL : L.length ≤ 9223372036854775807) (hlM : M.length ≤ 9223372036854775807) (ha : inRange at_) (hT : ST w) (hg : 0 < w.heap.size) :
    Calls Tryd.prog 7 #[.slice A L.length c, .slice B M.length c', .int .i64 at_] w fun e w' => e = .returned (.bool true) ∧ Below w.heap.size w w' := by
  obtain ⟨x, hx⟩ : ∃ x, x = genTree L := ⟨_, rfl⟩
  obtain ⟨y, hy⟩ : ∃ y, y = genTree M := ⟨_, rfl⟩
  obtain ⟨n, hn⟩ : ∃ n, n = size x := ⟨_, rfl⟩
  have hsx : size x ≤ 4096 := by rw [hx]; exact genTree_size L
  have hsy : size y ≤ 4096 := by rw [hy]; exact genTree_size M
  have hn0 : 0 < n := by rw [hn]; exact size_pos x
  have hn1 : n ≤ 4096 := by omega
  have har := arnd_le (x := at_) (n := (n : Int)) (by omega)
  obtain ⟨k, hk⟩ : ∃ k : Nat, arnd at_ (n : Int) = (k : Int) := ⟨(arnd at_ n).toNat, by omega⟩
  have hkb : (0 : Int) ≤ k ∧ (k : Int) < n := ⟨by omega, by omega⟩
  have hpn : (paths x).length = n := by rw [paths_length, hn]
  obtain ⟨p, hp⟩ : ∃ p, (paths x)[k]? = some p := ⟨_, List.getElem?_eq_getElem (by omega)⟩
  obtain ⟨old, hold⟩ := at_of_idx p x k (idx_paths x k p hp)
  obtain ⟨z, hz⟩ := set_of_at y p x old hold
  have hsz := set_size y p x z hz
  have HTX : Hid (∀ W, Below w.heap.size w W → Calls Tryd.prog 10 #[.slice A L.length c] W (MadeT x 6 W)) := Lib.hid (fun W hb => by rw [hx]; exact Tree_is L S A c W (hL.keep (Keeps.below hin hb)) (hin.more hb.size) hrL hlL)
  have HTY : Hid (∀ W, Below w.heap.size w W → Calls Tryd.prog 10 #[.slice B M.length c'] W (MadeT y 6 W)) := Lib.hid (fun W hb => by rw [hy]; exact Tree_is M S B c' W (hM.keep (Keeps.below hin hb)) (hin.more hb.size) hrM hlM)
  have HAR : Hid (∀ W, Calls Tryd.prog 14 #[.int .i64 at_, .int .i64 (n : Int)] W fun e w' => e = .returned (.int .i64 (k : Int)) ∧ W = w') := Lib.hid (fun W => by rw [← hk]; exact around_is at_ n ha (by omega) W)
  have HALL : Hid (∀ (j : Nat) q, (paths x)[j]? = some q → idx q x = some j ∧ q.length ≤ 1000000 ∧ ∃ a, at? q x = some a ∧ size a ≤ 1000000 ∧ (beg q p = false → beg p q = false → at? q z = some a)) := Lib.hid (fun j q hq => by
    have h1 := idx_paths x j q hq
    obtain ⟨a, h2⟩ := at_of_idx q x j h1
    have h3 := path_le x q (List.mem_of_getElem? hq)
    have h4 := at_size q x a h2
    refine ⟨h1, by omega, a, h2, by omega, fun e1 e2 => ?_⟩
    rw [← h2]
    exact at_apart y p q x z hz (fun h => by rw [beg_iff.2 h] at e1; cases e1) (fun h => by rw [beg_iff.2 h] at e2; cases e2))
  have HPL : Hid (p.length ≤ 1000000) := Lib.hid (by have := path_le x p (List.mem_of_getElem? hp); omega)
  have HP := Lib.hid hp
  have HPN := Lib.hid hpn
  have HSO : Hid (size old ≤ 1000000) := Lib.hid (by have := at_size p x old hold; omega)
  have HSZ : Hid (size z ≤ 1000000) := Lib.hid (by omega)
  have HSX : Hid (size x = n) := Lib.hid hn.symm
  have HSX2 : Hid (size x ≤ 1000000) := Lib.hid (by omega)
  have HSY : Hid (size y ≤ 1000000) := Lib.hid (by omega)
  have HAT := Lib.hid hold
  have HSET := Lib.hid hz
  have HNOW := Lib.hid (at_set y p x z hz)
  have HBACK := Lib.hid (set_undo y old p x z hold hz)
  have HT := Lib.hid hT
  have HG := Lib.hid hg
  have HR0 := Lib.hid (Below.refl w.heap.size w)
  have hne : ((n : Int) == 0) = false := by simp; omega
  have hmo : Tryd.prog.follows .mixedOrders = true := by kernel_rfl
  clear hx hy hn hsx hsy har hk hpn hp hold hz hsz hL hM hin hrL hrM hlL hlM ha hT hg
  go_enter Tryd.func7, Tryd.ntmps7
  go_wp2_with (first
    | (refine wpList_load_mid rfl 25 (.tmp 7) rfl w1.heap.size 0 rfl [.int .i64 x.k, .int .i64 x.n, .int .i64 x.m, .slice A1 x.kids.length c1] _ H7.load Tryd.underlying25 rfl (by rw [size_node]; rfl) ?_)
    | (go_at_call 10; have hm := hb1; refine (HTY.out _ (ba hb1 _)).mono ?_; rintro e w2 ⟨A2, c2, rfl, hr2, hb2⟩
       have hb2' : Below w2.heap.size w2 (w2.alloc (.cells #[.int .i64 y.k, .int .i64 y.n, .int .i64 y.m, .slice A2 y.kids.length c2] 25)) := below_new _ _
       have hbw := bt (bt (ba hb1 _) hb2) hb2'
       have H7 : Held w2 w1.heap.size x 6 A1 c1 := (Held.new hr1 (fun b hb => hb.2)).next hb2
       replace H7 := H7.next hb2'
       have H8 := Held.new hr2 (fun b hb => hb.2)
       clear hb2' hr1 hr2 hb2 hm)
    | (go_at_call 10; refine (HTX.out _ HR0.out).mono ?_; rintro e w1 ⟨A1, c1, rfl, hr1, hb1⟩)
    | (go_at_call 24; refine (tpaths_is 6 x _ A1 c1 _ H7.2 (in_lt _) HSX2.out).mono ?_; rintro e w3 ⟨A3, c3, rfl, hcap3, hps3, hb3⟩; rw [HSX.out]; have HPS : PsAt w3 A3 (paths x) := hps3.mono fun b hb => hb.2; clear hps3 hcap3; replace H7 := H7.next hb3; replace H8 := H8.next hb3; replace hbw := bt hbw hb3; clear hb3)
    | (go_at_call 15; refine (size_is 6 x _ A1 c1 _ H7.2 (in_lt _) HSX2.out).mono ?_; rintro e w4 ⟨rfl, hb4⟩; rw [HSX.out]; replace HPS := HPS.next hb4; replace H7 := H7.next hb4; replace H8 := H8.next hb4; replace hbw := bt hbw hb4; clear hb4))
  have X7 := Lib.hid H7
  have X8 := Lib.hid H8
  have XPS := Lib.hid HPS
  have XBW := Lib.hid hbw
  clear H7 H8 HPS hbw hb1
  go_loopw [10] (fun i wr => ∃ j : Nat, j ≤ n ∧ i = .int .i64 j ∧ Hid (Below w4.heap.size w4 wr)) (fun i _ => n - (intOf i).toNat)
  case atStart => exact ⟨0, Nat.zero_le _, rfl, Below.refl _ _⟩
  case round =>
    obtain ⟨j, hj, rfl, HB⟩ := hrel
    have H7 := X7.out.next HB.out
    have H8 := X8.out.next HB.out
    have HPS := XPS.out.next HB.out
    have hbw := bt XBW.out HB.out
    by_cases hlt : j < n
    · obtain ⟨q, hq⟩ : ∃ q, (paths x)[j]? = some q := ⟨_, List.getElem?_eq_getElem (by rw [HPN.out]; exact hlt)⟩
      obtain ⟨b5, o5, A6, c6, hA5, hs5, hc5, hcq, hr6⟩ := HPS.at_ hq
      subst hA5
      obtain ⟨hix, hql, -⟩ := HALL.out j q hq
      have hij : (0 : Int) ≤ j ∧ (j : Int) < n := ⟨by omega, by omega⟩
      have HIX : Hid (idxI (idx q x) = (j : Int)) := Lib.hid (by rw [hix]; rfl)
      have HK : Hid (∀ W', Below wr.heap.size wr W' → W'.cell? ⟨w1.heap.size, 0, none⟩ = some (.int .i64 x.k) ∧ W'.cell? ⟨w1.heap.size, 1, none⟩ = some (.int .i64 x.n) ∧ W'.cell? ⟨w1.heap.size, 2, none⟩ = some (.int .i64 x.m) ∧ W'.cell? ⟨w1.heap.size, 3, none⟩ = some (.slice A1 x.kids.length c1) ∧ W'.cell? ⟨b5, o5 + j, none⟩ = some (.slice A6 q.length c6)) := Lib.hid (fun W' h => by
        obtain ⟨k0, k1, k2, k3⟩ := (H7.next h).cells
        exact ⟨k0, k1, k2, k3, (h.cell (p := ⟨b5, o5 + j, none⟩) hs5).trans hc5⟩)
      have HI : Hid (∀ W', Below wr.heap.size wr W' → Calls Tryd.prog 30 #[.agg #[.int .i64 x.k, .int .i64 x.n, .int .i64 x.m, .slice A1 x.kids.length c1], .slice A6 q.length c6] W' fun e w' => e = .returned (.int .i64 (j : Int)) ∧ Below W'.heap.size W' w') := Lib.hid (fun W' h => by
        have H := tindex_is 6 x _ _ A1 c1 W' q A6 c6 (H7.next h).2 (RdAt.next hr6 h) (in_lt _) (in_lt _) HSX2.out hcq hql
        rw [HIX.out] at H
        exact H)
      have hbc : Below wr.heap.size wr wr.drew := (Below.refl _ _).drew
      clear H7 H8 HPS hbw hq hs5 hc5 hcq hr6 hix hql HIX
      go_wp2_with fail
      refine wp_region_noPanic ?_
      go_region_held2 (fun W' => W'.cell? ⟨w1.heap.size, 0, none⟩ = some (.int .i64 x.k) ∧ W'.cell? ⟨w1.heap.size, 1, none⟩ = some (.int .i64 x.n) ∧ W'.cell? ⟨w1.heap.size, 2, none⟩ = some (.int .i64 x.m) ∧ W'.cell? ⟨w1.heap.size, 3, none⟩ = some (.slice A1 x.kids.length c1) ∧ W'.cell? ⟨b5, o5 + j, none⟩ = some (.slice A6 q.length c6))
        (exact HK.out _ hbc)
        (first
        | (go_at_call 30; refine (HI.out _ hbc).mono ?_; rintro e w5 ⟨rfl, hb5⟩; replace hbc := bt hbc hb5; clear hb5))
      refine NoPanic.normal ?_
      go_wp2_with fail
      go_roundw
      case rel => exact ⟨j + 1, by omega, by go_num, bt HB.out hbc⟩
      case measure => simp [intOf]; omega
    · have hjn : j = n := by omega
      subst hjn
      clear hlt hj
      obtain ⟨b5, o5, A6, c6, hA5, hs5, hc5, hcq, hr6⟩ := HPS.at_ HP.out
      subst hA5
      have HP6 : RdAt wr A6 p := hr6
      clear hr6 HB
      go_wp2_with (first
        | (refine wpList_load_mid rfl 25 (.tmp 7) rfl w1.heap.size 0 rfl [.int .i64 x.k, .int .i64 x.n, .int .i64 x.m, .slice A1 x.kids.length c1] _ H7.load Tryd.underlying25 rfl (by rw [size_node]; rfl) ?_)
        | (refine wpList_load_mid rfl 25 (.tmp 8) rfl w2.heap.size 0 rfl [.int .i64 y.k, .int .i64 y.n, .int .i64 y.m, .slice A2 y.kids.length c2] _ H8.load Tryd.underlying25 rfl (by rw [size_node]; rfl) ?_)
        | (refine wpList_load_mid rfl 25 (.tmp 12) rfl w5.heap.size 0 rfl [.int .i64 old.k, .int .i64 old.n, .int .i64 old.m, .slice A5 old.kids.length c5] _ H12.load Tryd.underlying25 rfl (by rw [size_node]; rfl) ?_)
        | (refine wpList_load_mid rfl 25 (.tmp 14) rfl w6.heap.size 0 rfl [.int .i64 z.k, .int .i64 z.n, .int .i64 z.m, .slice A7 z.kids.length c7] _ H14.load Tryd.underlying25 rfl (by rw [size_node]; rfl) ?_)
        | (go_at_call 14; refine (HAR.out _).mono ?_; rintro e w' ⟨rfl, rfl⟩)
        | (go_at_call 25; have hm := H14; refine (at_ok H14.2 HP6 HSZ.out hcq HPL.out HNOW.out).mono ?_; rintro e w7 ⟨A8, c8, D8, rfl, hr8, hb8⟩
           have hbx := below_new w7 (.cells #[.int .i64 y.k, .int .i64 y.n, .int .i64 y.m, .slice A8 y.kids.length c8] 25)
           have H16 := Held.new hr8 (in_lt _)
           replace hb8 := bt hb8 hbx
           replace H7 := H7.next hb8
           replace H8 := H8.next hb8
           replace H12 := H12.next hb8
           replace H14 := H14.next hb8
           replace HP6 := HP6.next hb8
           replace HPS := HPS.next hb8
           replace hbw := bt hbw hb8
           clear hbx hr8 hb8 hm)
        | (go_at_call 25; refine (at_ok H7.2 HP6 HSX2.out hcq HPL.out HAT.out).mono ?_; rintro e w5 ⟨A5, c5, D5, rfl, hr5, hb5⟩
           have hbx := below_new w5 (.cells #[.int .i64 old.k, .int .i64 old.n, .int .i64 old.m, .slice A5 old.kids.length c5] 25)
           have H12 := Held.new hr5 (in_lt _)
           replace hb5 := bt hb5 hbx
           replace H7 := H7.next hb5
           replace H8 := H8.next hb5
           replace HP6 := HP6.next hb5
           replace HPS := HPS.next hb5
           replace hbw := bt hbw hb5
           clear hbx hr5 hb5)
        | (go_at_call 27; have hm := H16; refine (set_ok H14.2 H12.2 HP6 HSZ.out HSO.out hcq HPL.out HBACK.out).mono ?_; rintro e w8 ⟨A9, c9, D9, rfl, hr9, hb9⟩
           have hbx := below_new w8 (.cells #[.int .i64 x.k, .int .i64 x.n, .int .i64 x.m, .slice A9 x.kids.length c9] 25)
           have H18 := Held.new hr9 (in_lt _)
           replace hb9 := bt hb9 hbx
           replace H7 := H7.next hb9
           replace H8 := H8.next hb9
           replace H14 := H14.next hb9
           replace H16 := H16.next hb9
           replace HP6 := HP6.next hb9
           replace HPS := HPS.next hb9
           replace hbw := bt hbw hb9
           obtain ⟨u0, u1, u2, u3⟩ := H16.cells
           obtain ⟨v0, v1, v2, v3⟩ := H8.cells
           clear hbx hr9 hb9 hm H12)
        | (go_at_call 27; refine (set_ok H7.2 H8.2 HP6 HSX2.out HSY.out hcq HPL.out HSET.out).mono ?_; rintro e w6 ⟨A7, c7, D7, rfl, hr7, hb7⟩
           have hbx := below_new w6 (.cells #[.int .i64 z.k, .int .i64 z.n, .int .i64 z.m, .slice A7 z.kids.length c7] 25)
           have H14 := Held.new hr7 (in_lt _)
           replace hb7 := bt hb7 hbx
           replace H7 := H7.next hb7
           replace H8 := H8.next hb7
           replace H12 := H12.next hb7
           replace HP6 := HP6.next hb7
           replace HPS := HPS.next hb7
           replace hbw := bt hbw hb7
           clear hbx hr7 hb7)
        | (go_at_call 19; have hm := mk1; refine (tcmp_is _ x x _ _ A9 A1 c9 c1 _ _ H18.2 H7.2 (in_lt _) (in_lt _) HSX2.out HSX2.out).mono ?_; rintro e w10 ⟨rfl, hb10⟩; rw [cmp_self]
           replace H7 := H7.next hb10
           replace H14 := H14.next hb10
           replace HP6 := HP6.next hb10
           replace HPS := HPS.next hb10
           replace hbw := bt hbw hb10
           clear H8 H16 H18 hb10 hm)
        | (go_at_call 19; refine (tcmp_is _ y y _ _ A8 A2 c8 c2 _ _ H16.2 H8.2 (in_lt _) (in_lt _) HSY.out HSY.out).mono ?_; rintro e w9 ⟨rfl, hb9⟩; rw [cmp_self]
           replace H7 := H7.next hb9
           replace H8 := H8.next hb9
           replace H14 := H14.next hb9
           replace H16 := H16.next hb9
           replace H18 := H18.next hb9
           replace HP6 := HP6.next hb9
           replace HPS := HPS.next hb9
           replace hbw := bt hbw hb9
           have mk1 : True := trivial
           clear u0 u1 u2 u3 v0 v1 v2 v3
           obtain ⟨u0, u1, u2, u3⟩ := H18.cells
           obtain ⟨v0, v1, v2, v3⟩ := H7.cells
           clear hb9))
      have Y7 := Lib.hid H7
      have Y14 := Lib.hid H14
      have YPS := Lib.hid HPS
      have YBW := Lib.hid hbw
      have YP6 := Lib.hid HP6
      clear H7 H14 HPS hbw HP6 hc5 mk1 u0 u1 u2 u3 v0 v1 v2 v3
      go_loopw [20] (fun i ws => ∃ m : Nat, m ≤ j ∧ i = .int .i64 m ∧ Hid (Below w10.heap.size w10 ws)) (fun i _ => j - (intOf i).toNat)
      case atStart => exact ⟨0, Nat.zero_le _, rfl, Below.refl _ _⟩
      case round =>
        obtain ⟨m, hm, rfl, HB⟩ := hrel
        have H7 := Y7.out.next HB.out
        have H14 := Y14.out.next HB.out
        have HPS := YPS.out.next HB.out
        have HP6 := YP6.out.next HB.out
        by_cases hlt : m < j
        · obtain ⟨q, hq⟩ : ∃ q, (paths x)[m]? = some q := ⟨_, List.getElem?_eq_getElem (by rw [HPN.out]; exact hlt)⟩
          obtain ⟨b6, o6, A10, c10, hA6, hs6, hc6, hcq6, hr6⟩ := HPS.at_ hq
          cases hA6
          obtain ⟨-, hql, a, hqa, hsa, hapart⟩ := HALL.out m q hq
          have hij : (0 : Int) ≤ m ∧ (m : Int) < j := ⟨by omega, by omega⟩
          have HBG1 : ∀ W', Below wr.heap.size wr W' → Calls Tryd.prog 42 #[.slice A10 q.length c10, .slice A6 p.length c6] W' fun e w' => e = .returned (.bool (beg q p)) ∧ Below W'.heap.size W' w' := fun W' h =>
            begins_is q p _ A10 A6 c10 c6 W' (RdAt.next hr6 h) (HP6.next h) (in_lt _) hcq6 hql HPL.out _ rfl
          have HBG2 : ∀ W', Below wr.heap.size wr W' → Calls Tryd.prog 42 #[.slice A6 p.length c6, .slice A10 q.length c10] W' fun e w' => e = .returned (.bool (beg p q)) ∧ Below W'.heap.size W' w' := fun W' h =>
            begins_is p q _ A6 A10 c6 c10 W' (HP6.next h) (RdAt.next hr6 h) (in_lt _) hcq HPL.out hql _ rfl
          by_cases h1 : beg q p = true
          · rw [h1] at HBG1
            have HG1 := Lib.hid HBG1
            clear HBG1 HBG2 H7 H14 HPS HP6 hr6 hapart hqa hsa hq
            go_wp2_with (first
              | (go_at_call 42; refine (HG1.out _ (Below.refl _ _)).mono ?_; rintro e w11 ⟨rfl, hb11⟩))
            go_roundw
            case rel => exact ⟨m + 1, by omega, by go_num, bt HB.out hb11⟩
            case measure => simp [intOf]; omega
          · have h1' : beg q p = false := by simpa using h1
            rw [h1'] at HBG1
            have HG1 := Lib.hid HBG1
            by_cases h2 : beg p q = true
            · rw [h2] at HBG2
              have HG2 := Lib.hid HBG2
              clear HBG1 HBG2 H7 H14 HPS HP6 hr6 hapart hqa hsa hq
              go_wp2_with (first
                | (go_at_call 42; have hmm := hb11; refine (HG2.out _ hb11).mono ?_; rintro e w12 ⟨rfl, hb12⟩)
                | (go_at_call 42; refine (HG1.out _ (Below.refl _ _)).mono ?_; rintro e w11 ⟨rfl, hb11⟩; have hc7 := (hb11.cell (p := ⟨b5, o5 + m, none⟩) hs6).trans hc6))
              go_roundw
              case rel => exact ⟨m + 1, by omega, by go_num, bt HB.out (bt hb11 hb12)⟩
              case measure => simp [intOf]; omega
            · have h2' : beg p q = false := by simpa using h2
              rw [h2'] at HBG2
              have HG2 := Lib.hid HBG2
              have hza := hapart h1' h2'
              clear HBG1 HBG2 HPS HP6 hapart hq
              go_wp2_with (first
                | (go_at_call 42; have hmm := hb11; refine (HG2.out _ hb11).mono ?_; rintro e w12 ⟨rfl, hb12⟩; replace hb12 := bt hb11 hb12)
                | (go_at_call 42; refine (HG1.out _ (Below.refl _ _)).mono ?_; rintro e w11 ⟨rfl, hb11⟩; have hc7 := (hb11.cell (p := ⟨b5, o5 + m, none⟩) hs6).trans hc6))
              obtain ⟨k0, k1, k2, k3⟩ := H7.cells
              have HK : Hid (∀ W', Below w12.heap.size w12 W' → W'.cell? ⟨w1.heap.size, 0, none⟩ = some (.int .i64 x.k) ∧ W'.cell? ⟨w1.heap.size, 1, none⟩ = some (.int .i64 x.n) ∧ W'.cell? ⟨w1.heap.size, 2, none⟩ = some (.int .i64 x.m) ∧ W'.cell? ⟨w1.heap.size, 3, none⟩ = some (.slice A1 x.kids.length c1) ∧ W'.cell? ⟨b5, o5 + m, none⟩ = some (.slice A10 q.length c10)) := Lib.hid (fun W' h => by
                have h' := bt hb12 h
                obtain ⟨k0, k1, k2, k3⟩ := (H7.next h').cells
                exact ⟨k0, k1, k2, k3, (h'.cell (p := ⟨b5, o5 + m, none⟩) hs6).trans hc6⟩)
              have HA : Hid (∀ W', Below w12.heap.size w12 W' → Calls Tryd.prog 25 #[.agg #[.int .i64 x.k, .int .i64 x.n, .int .i64 x.m, .slice A1 x.kids.length c1], .slice A10 q.length c10] W' (Out2S a (.bool true) W')) := Lib.hid (fun W' h => at_ok_s (H7.next (bt hb12 h)).2 (RdAt.next hr6 (bt hb12 h)) HSX2.out hcq6 hql hqa)
              have HKZ : Hid (∀ W', Below w12.heap.size w12 W' → W'.cell? ⟨w6.heap.size, 0, none⟩ = some (.int .i64 z.k) ∧ W'.cell? ⟨w6.heap.size, 1, none⟩ = some (.int .i64 z.n) ∧ W'.cell? ⟨w6.heap.size, 2, none⟩ = some (.int .i64 z.m) ∧ W'.cell? ⟨w6.heap.size, 3, none⟩ = some (.slice A7 z.kids.length c7) ∧ W'.cell? ⟨b5, o5 + m, none⟩ = some (.slice A10 q.length c10)) := Lib.hid (fun W' h => by
                have h' := bt hb12 h
                obtain ⟨k0, k1, k2, k3⟩ := (H14.next h').cells
                exact ⟨k0, k1, k2, k3, (h'.cell (p := ⟨b5, o5 + m, none⟩) hs6).trans hc6⟩)
              have HZ : Hid (∀ W', Below w12.heap.size w12 W' → Calls Tryd.prog 25 #[.agg #[.int .i64 z.k, .int .i64 z.n, .int .i64 z.m, .slice A7 z.kids.length c7], .slice A10 q.length c10] W' (Out2S a (.bool true) W')) := Lib.hid (fun W' h => at_ok_s (H14.next (bt hb12 h)).2 (RdAt.next hr6 (bt hb12 h)) HSZ.out hcq6 hql hza)
              have HSA := Lib.hid hsa
              have HB12 := Lib.hid (bt HB.out hb12)
              have hbc : Below w12.heap.size w12 w12.drew := (Below.refl _ _).drew
              clear H7 H14 hs6 hc6 hc7 hr6 hqa hza hb12 hb11 HG1 HG2 k0 k1 k2 k3 hsa hij
              have hij : (0 : Int) ≤ m ∧ (m : Int) < j := ⟨by omega, by omega⟩
              go_cut [21, 22] from 114 to 159 (fun s21 s22 wv => ∃ (g : Nat) (A' : Option Addr) (c' D : Nat) (V : World), V = wv ∧ s21 = .pointer (some ⟨g, 0, none⟩) ∧ s22 = .bool true ∧ Hid (Held V g a D A' c' ∧ Below w12.heap.size w12 V))
              case first =>
                refine wp_region_noPanic ?_
                go_region_held2 (fun W' => W'.cell? ⟨w1.heap.size, 0, none⟩ = some (.int .i64 x.k) ∧ W'.cell? ⟨w1.heap.size, 1, none⟩ = some (.int .i64 x.n) ∧ W'.cell? ⟨w1.heap.size, 2, none⟩ = some (.int .i64 x.m) ∧ W'.cell? ⟨w1.heap.size, 3, none⟩ = some (.slice A1 x.kids.length c1) ∧ W'.cell? ⟨b5, o5 + m, none⟩ = some (.slice A10 q.length c10))
                  (first | exact HK.out _ hbc | exact HK.out _ (ba hbc _) | exact HK.out _ (b_drew _ _) | exact HK.out _ (put4_later hbc hgr _ _ _ _))
                  (first
                  | (go_at_call 25; refine (HA.out _ hbc).mono ?_; rintro e w13 ⟨A11, c11, D11, rfl, hr11, hb13⟩; replace hbc := bt hbc hb13; clear hb13)
                  | (go_at_call 25; refine (HA.out _ (b_drew _ _)).mono ?_; rintro e w13 ⟨A11, c11, D11, rfl, hr11, hb13⟩; have hz0 := (Blk.drew (Blk.new w12 25 #[.int .i64 0, .int .i64 0, .int .i64 0, .slice none 0 0])).below hb13 (new_lt _ _); have hgr : w12.heap.size ≤ w12.heap.size := Nat.le_refl _; replace hbc := bt (b_drew _ _) hb13; clear hb13; have z0 := hz0.cell 0; have z1 := hz0.cell 1; have z2 := hz0.cell 2; have z3 := hz0.cell 3; have f0 := hz0.frozen 0; have f1 := hz0.frozen 1; have f2 := hz0.frozen 2; have f3 := hz0.frozen 3))
                all_goals
                  refine NoPanic.normal ?_
                  go_wp2_with fail
                  go_meet
                  first
                    | exact ⟨_, A11, c11, D11, _, rfl, rfl, rfl, Held.new hr11 (fun b hb => hb.2), ba hbc _⟩
                    | exact ⟨_, A11, c11, D11, _, rfl, rfl, rfl, Held.early (cs := [.int .i64 0, .int .i64 0, .int .i64 0, .slice none 0 0]) hz0 rfl (new_lt _ _) hr11, put4_below hbc _ _ _ _⟩
              case rest =>
                obtain ⟨g21, A11, c11, D11, wx, hwx, rfl, rfl, HH⟩ := hcut
                subst hwx
                have HKZ2 : Hid (∀ W', Below wx.heap.size wx W' → W'.cell? ⟨w6.heap.size, 0, none⟩ = some (.int .i64 z.k) ∧ W'.cell? ⟨w6.heap.size, 1, none⟩ = some (.int .i64 z.n) ∧ W'.cell? ⟨w6.heap.size, 2, none⟩ = some (.int .i64 z.m) ∧ W'.cell? ⟨w6.heap.size, 3, none⟩ = some (.slice A7 z.kids.length c7) ∧ W'.cell? ⟨b5, o5 + m, none⟩ = some (.slice A10 q.length c10)) := Lib.hid (fun W' h => HKZ.out W' (bt HH.out.2 h))
                have HZ2 : Hid (∀ W', Below wx.heap.size wx W' → Calls Tryd.prog 25 #[.agg #[.int .i64 z.k, .int .i64 z.n, .int .i64 z.m, .slice A7 z.kids.length c7], .slice A10 q.length c10] W' (Out2S a (.bool true) W')) := Lib.hid (fun W' h => HZ.out W' (bt HH.out.2 h))
                clear hbc HK HA HKZ HZ
                have hbc : Below wx.heap.size wx wx.drew := (Below.refl _ _).drew
                go_wp2_with fail
                go_cut [23, 24] from 114 to 159 (fun s23 s24 wv => ∃ (g : Nat) (A' : Option Addr) (c' D : Nat) (V : World), V = wv ∧ s23 = .pointer (some ⟨g, 0, none⟩) ∧ s24 = .bool true ∧ Hid (Held V g a D A' c' ∧ Below wx.heap.size wx V))
                case first =>
                  refine wp_region_noPanic ?_
                  go_region_held2 (fun W' => W'.cell? ⟨w6.heap.size, 0, none⟩ = some (.int .i64 z.k) ∧ W'.cell? ⟨w6.heap.size, 1, none⟩ = some (.int .i64 z.n) ∧ W'.cell? ⟨w6.heap.size, 2, none⟩ = some (.int .i64 z.m) ∧ W'.cell? ⟨w6.heap.size, 3, none⟩ = some (.slice A7 z.kids.length c7) ∧ W'.cell? ⟨b5, o5 + m, none⟩ = some (.slice A10 q.length c10))
                    (first | exact HKZ2.out _ hbc | exact HKZ2.out _ (ba hbc _) | exact HKZ2.out _ (b_drew _ _) | exact HKZ2.out _ (put4_later hbc hgr _ _ _ _))
                    (first
                    | (go_at_call 25; refine (HZ2.out _ hbc).mono ?_; rintro e w14 ⟨A11b, c11b, D11b, rfl, hr11b, hb13b⟩; replace hbc := bt hbc hb13b; clear hb13b)
                    | (go_at_call 25; refine (HZ2.out _ (b_drew _ _)).mono ?_; rintro e w14 ⟨A11b, c11b, D11b, rfl, hr11b, hb13b⟩; have hz0 := (Blk.drew (Blk.new wx 25 #[.int .i64 0, .int .i64 0, .int .i64 0, .slice none 0 0])).below hb13b (new_lt _ _); have hgr : wx.heap.size ≤ wx.heap.size := Nat.le_refl _; replace hbc := bt (b_drew _ _) hb13b; clear hb13b; have z0 := hz0.cell 0; have z1 := hz0.cell 1; have z2 := hz0.cell 2; have z3 := hz0.cell 3; have f0 := hz0.frozen 0; have f1 := hz0.frozen 1; have f2 := hz0.frozen 2; have f3 := hz0.frozen 3))
                  all_goals
                    refine NoPanic.normal ?_
                    go_wp2_with fail
                    go_meet
                    first
                      | exact ⟨_, A11b, c11b, D11b, _, rfl, rfl, rfl, Held.new hr11b (fun b hb => hb.2), ba hbc _⟩
                      | exact ⟨_, A11b, c11b, D11b, _, rfl, rfl, rfl, Held.early (cs := [.int .i64 0, .int .i64 0, .int .i64 0, .slice none 0 0]) hz0 rfl (new_lt _ _) hr11b, put4_below hbc _ _ _ _⟩
                case rest =>
                  obtain ⟨g23, A12, c12, D12, wy, hwy, rfl, rfl, HJ⟩ := hcut
                  subst hwy
                  have H21 := HH.out.1.next HJ.out.2
                  have H23 := HJ.out.1
                  have hbw := bt (bt HB12.out HH.out.2) HJ.out.2
                  obtain ⟨u0, u1, u2, u3⟩ := H21.cells
                  obtain ⟨v0, v1, v2, v3⟩ := H23.cells
                  clear hbc HKZ2 HZ2 HH HJ
                  go_wp2_with (go_at_call 19; refine (tcmp_is _ a a _ _ A11 A12 c11 c12 _ _ H21.2 H23.2 (in_lt _) (in_lt _) HSA.out HSA.out).mono ?_; rintro e w15 ⟨rfl, hb15⟩; rw [cmp_self])
                  go_roundw
                  case rel => exact ⟨m + 1, by omega, by go_num, bt hbw hb15⟩
                  case measure => simp [intOf]; omega
        · have hmj : m = j := by omega
          subst hmj
          have hbw := bt YBW.out HB.out
          have hT := HT.out.below hbw HG.out
          have hg := Nat.lt_of_lt_of_le HG.out hbw.size
          clear H7 H14 HPS HP6 hlt hm
          go_wp2_with (go_at_call 21; refine (lives_is _ hT hg).mono ?_; rintro e w13 ⟨rfl, hb13⟩)
          go_ret
          exact ⟨rfl, bt hbw hb13⟩
end Go.Proofs.YtebfhbdamnbojaaDoor
