/- Texts joined. -/
import Derived.Test.YtkkenbalpnmfmaaDoorH40
import Derived.Test.YtkkenbalpnmfmaaDoorH44
import Derived.Test.YtkkenbalpnmfmaaDoorH45
import Derived.Deep.RegionWith
import Derived.Deep.RegionHeld2
import Derived.Deep.RegionHeld3
import Derived.Deep.RegionLaw
set_option linter.unusedVariables false
namespace Go.Proofs.YtkkenbalpnmfmaaDoor
open Go.RowKit WM TR

def bs0 (parts:Array (Nat × Value)):Sem Value:=Instr.buildSlice 23 0 parts
theorem shutB0 (parts:Array (Nat × Value)):Instr.buildSlice 23 0 parts = bs0 parts:=rfl
theorem run_bs0 (W:World):(bs0 #[]).run Tryd.prog W = .ok (.slice (some ⟨W.heap.size,0,none⟩) 0 0) (W.alloc (.cells #[] 25)):=by kernel_rfl
attribute [local go_sem ↓ high] shutB0
attribute [local go_sem] run_bs0

def SpPost (t:T) (w:World) (e:Ending) (w':World):Prop :=
  ∃ u A' c' D,e = .returned (.agg #[.int .i64 u.k,.int .i64 u.n,.int .i64 u.m,.slice A' u.kids.length c'])∧size u≤2 * size t + 1∧Rep w' (fun b=>b < w'.heap.size) D u (nd u A' c')∧Below w.heap.size w w'

theorem Reps.one_cell {w:World} {S:Nat→Prop} {d:Nat} {ts:List T} {xs:List Value} (h:Reps w S d ts xs):∀ v ∈ xs,v.oneCell' = true:=by
  intro v hv
  obtain ⟨i,hi,rfl⟩:=List.getElem_of_mem hv
  have h1:=h.1
  obtain ⟨u,hu⟩:∃ u,ts[i / 4]? = some u:=⟨_,List.getElem?_eq_getElem (by omega)⟩
  obtain ⟨A,c,e,_⟩:=(h.2 _ u hu).form
  have hm:xs[i] ∈ nd u A c:=by
    rw [← e]
    refine List.mem_of_getElem? (i:=i % 4) ?_
    rw [List.getElem?_take,if_pos (by omega),List.getElem?_drop,show i / 4 * 4 + i % 4 = i by omega]
    exact List.getElem?_eq_getElem hi
  exact nd_one u A c _ hm

def Nr (r B b:Nat):Prop:=b≠r∧b < B
theorem nr_in (r:Nat) (w:World):In (Nr r w.heap.size) w.heap.size:=fun _ hb=>hb.2
theorem Nr.more {r B B':Nat} (h:B≤B'):∀ b,Nr r B b→Nr r B' b:=fun _ hb=>⟨hb.1,Nat.lt_of_lt_of_le hb.2 h⟩
def HeldR (r:Nat) (w:World) (g:Nat) (t:T) (D:Nat) (A:Option Addr) (c:Nat):Prop :=
  Blk w g 25 #[.int .i64 t.k,.int .i64 t.n,.int .i64 t.m,.slice A t.kids.length c]∧Rep w (Nr r w.heap.size) D t (nd t A c)
theorem HeldR.next {r g D c:Nat} {w w':World} {t:T} {A:Option Addr} (h:HeldR r w g t D A c) (hb:Below w.heap.size w w'):HeldR r w' g t D A c :=
  ⟨h.1.below hb h.1.lt,(h.2.keep (Keeps.below (nr_in r w) hb)).mono (Nr.more hb.size)⟩
theorem HeldR.load {r g D c:Nat} {w:World} {t:T} {A:Option Addr} (h:HeldR r w g t D A c):∀ i z,([.int .i64 t.k,.int .i64 t.n,.int .i64 t.m,.slice A t.kids.length c]:List Value)[i]? = some z→w.cell? ⟨g,0 + i,none⟩ = some z:=fun i z hz=>by
  rw [h.1.cell (0 + i),Nat.zero_add]; simpa using hz
def PsR (r:Nat) (w:World) (A:Option Addr) (ps:List (List Int)):Prop:=Ps w (Nr r w.heap.size) A ps
def RdR (r:Nat) (w:World) (A:Option Addr) (p:List Int):Prop:=Rd w (Nr r w.heap.size) 1 A p.length (vi p)
theorem PsR.next {r:Nat} {w w':World} {A:Option Addr} {ps:List (List Int)} (h:PsR r w A ps) (hb:Below w.heap.size w w'):PsR r w' A ps :=
  (Ps.keep h (Keeps.below (nr_in r w) hb)).mono (Nr.more hb.size)
theorem RdR.next {r:Nat} {w w':World} {A:Option Addr} {p:List Int} (h:RdR r w A p) (hb:Below w.heap.size w w'):RdR r w' A p :=
  (Rd.keep h (Keeps.below (nr_in r w) hb)).mono (Nr.more hb.size)
def Mid (a:World) (g r N:Nat) (V:World):Prop :=
  Below a.heap.size a V∧∃ x A c D,HeldR r V g x D A c∧size x≤N
theorem mid_of {a V : World} {g r d l c N : Nat} {k n m : Int} {ts : List T} {A : Option Addr} {xs : List Value} (hb : Below a.heap.size a V) (hrg : r < g) (hk : inRange k) (hn : inRange n) (hm : inRange m) (hl : l = ts.length) (hB : Blk V g 25 #[.int .i64 k, .int .i64 n, .int .i64 m, .slice A l c])
    (ho:V.ownsRow (g + 1) 25 4 (.slice A l c) l xs) (hr:Reps V (Nr r g) d ts xs) (hs:size ⟨k,n,m,ts⟩≤N):Mid a g r N V:=by
  subst hl
  obtain ⟨A',c',e,hc⟩:=own_len ho
  cases e
  exact ⟨hb,⟨k,n,m,ts⟩,A,c,d + 1,⟨hB,Rep.mk hk hn hm hc ((Rd.of_own ho).mono fun b hb=>⟨by have:=hb.1; omega,hb.2⟩) (hr.mono (Nr.more (Nat.le_of_lt hB.lt)))⟩,hs⟩
theorem sz_kids (k n m:Int) (x:T):size ⟨k,n,m,x.kids⟩ = size x:=by rw [size_eq,size_eq x]
theorem nr_set {r g:Nat} (V:World) (i:Nat) (v:Value):Keeps (Nr r g) V (V.setCell ⟨g,i,none⟩ v):=(Keeps.refl _ _).setCell (fun h=>Nat.lt_irrefl g h.2) _
theorem own_set {V:World} {g l:Nat} {v u:Value} {xs:List Value} (h:V.ownsRow (g + 1) 25 4 v l xs) (i:Nat):(V.setCell ⟨g,i,none⟩ u).ownsRow (g + 1) 25 4 v l xs :=
  h.kept (gw_setCell (g:=g) (gw_refl V g) (.inl rfl) _) (.inr fun e=>by have:=(h.lt _ e).1; omega)

def cutAt {α:Type} (l:List α) (k:Nat):List α:=l.take k ++ l.drop (k + 1)
theorem Reps.cut {w:World} {S:Nat→Prop} {d:Nat} {ts:List T} {xs:List Value} (h:Reps w S d ts xs) {k:Nat} (hk:k < ts.length):Reps w S d (cutAt ts k) (xs.take (k * 4) ++ xs.drop ((k + 1) * 4)):=by
  have h1:=h.1
  refine ⟨by simp [cutAt,h1]; omega,fun i u hu=>?_⟩
  unfold cutAt at hu
  by_cases hi:i < k
  · rw [List.getElem?_append_left (by simp; omega),List.getElem?_take,if_pos hi] at hu
    have:=h.2 i u hu
    have e:((xs.take (k * 4) ++ xs.drop ((k + 1) * 4)).drop (i * 4)).take 4 = (xs.drop (i * 4)).take 4:=by
      rw [List.drop_append_of_le_length (by simp; omega),List.take_append_of_le_length (by simp; omega),List.drop_take,List.take_take]
      congr 1; omega
    rw [e]; exact this
  · rw [List.getElem?_append_right (by simp; omega)] at hu
    simp only [List.length_take,List.getElem?_drop] at hu
    rw [show k + 1 + (i - min k ts.length) = i + 1 by omega] at hu
    have:=h.2 (i + 1) u hu
    have e:(xs.take (k * 4) ++ xs.drop ((k + 1) * 4)).drop (i * 4) = xs.drop ((i + 1) * 4):=by
      rw [List.drop_append,List.drop_eq_nil_of_le (by simp; omega),List.nil_append,List.drop_drop]
      congr 1
      simp
      omega
    rw [e]; exact this
theorem cut_length {α:Type} {l:List α} {k:Nat} (hk:k < l.length):(cutAt l k).length = k + (l.length - (k + 1)):=by simp [cutAt]; omega
theorem size_cut (k n m:Int) (x:T) (j:Nat):size ⟨k,n,m,cutAt x.kids j⟩≤size x:=by
  rw [size_eq,size_eq x]
  show 1 + ((cutAt x.kids j).map size).sum≤_
  have h:(x.kids.map size).sum = ((x.kids.take j).map size).sum + ((x.kids.drop j).map size).sum:=by
    rw [← List.sum_append,← List.map_append,List.take_append_drop]
  have h2:((x.kids.drop (j + 1)).map size).sum≤((x.kids.drop j).map size).sum:=by
    have e:x.kids.drop (j + 1) = (x.kids.drop j).drop 1:=by rw [List.drop_drop]
    rw [e]
    cases x.kids.drop j with
    | nil=>simp
    | cons a l=>simp
  unfold cutAt
  rw [List.map_append,List.sum_append]
  omega
theorem size_snoc (k n m:Int) (ts:List T) (a b c:Int):size ⟨k,n,m,ts ++ [⟨a,b,c,[]⟩]⟩ = size ⟨k,n,m,ts⟩ + 1:=by
  rw [size_eq,size_eq ⟨k,n,m,ts⟩]
  have h:size ⟨a,b,c,[]⟩ = 1:=by rw [size_eq]; rfl
  simp [List.map_append,List.sum_append,h]
  omega
theorem nodes_slice:Tryd.prog.underlying 23 = some (.slice 25):=by kernel_rfl
theorem nodes_elem:Tryd.prog.elem 23 = 25:=by kernel_rfl
theorem nodes_size (W:World):(sizeOf 25).run Tryd.prog W = .ok 4 W:=by kernel_rfl
set_option maxRecDepth 100000 in
theorem cutLo (b l c k:Nat) (hk:k≤c):∀ W:World,(Instr.sliceAt 23 (.slice (some ⟨b,0,none⟩) l c) none (some (.int .i64 (k:Int))) none).run Tryd.prog W = .ok (.slice (some ⟨b,0,none⟩) k c) W:=by
  intro W
  rw [run_sliceAt_slice W 23 _ _ _ _ nodes_slice,run_slice_h W 23 (some ⟨b,0,none⟩) l c nodes_slice .i64 k (by omega) (by omega),nodes_elem,nodes_size]
  simp [sliced,Addr.add]
set_option maxRecDepth 100000 in
theorem cutHi (b l c k:Nat) (hk:k + 1≤l):∀ W:World,(Instr.sliceAt 23 (.slice (some ⟨b,0,none⟩) l c) (some (.int .i64 ((k:Int) + 1))) none none).run Tryd.prog W = .ok (.slice (if c = k + 1 then some ⟨b,0,none⟩ else some ⟨b,(k + 1) * 4,none⟩) (l - (k + 1)) (c - (k + 1))) W:=by
  intro W
  rw [run_sliceAt_slice W 23 _ _ _ _ nodes_slice,run_slice_l W 23 (some ⟨b,0,none⟩) l c nodes_slice .i64 ((k:Int) + 1) (by omega) (by omega),nodes_elem,nodes_size]
  have e:((k:Int) + 1).toNat = k + 1:=by omega
  by_cases h:c = k + 1
  · subst h; simp [sliced,e]
  · simp [sliced,e,h,Addr.add]

set_option maxRecDepth 100000 in
set_option maxHeartbeats 6000000 in
theorem spoilt_is (d : Nat) (t : T) (A : Option Addr) (c : Nat) (at_ how by_ : Int) (w : World) (ht : Rep w (fun b => b < w.heap.size) d t (nd t A c)) (hs : size t ≤ 400000) (ha : inRange at_) (hh : inRange how) (hy : inRange by_) :
    Calls Tryd.prog 11 #[.agg #[.int .i64 t.k,.int .i64 t.n,.int .i64 t.m,.slice A t.kids.length c],.int .i64 at_,.int .i64 how,.int .i64 by_] w (SpPost t w):=by
  cases d with
  | zero=>exact ht.elim
  | succ d =>
  obtain ⟨n,hn⟩:∃ n,n = size t:=⟨_,rfl⟩
  have hn0:0 < n:=by rw [hn]; exact size_pos t
  have hn1:n≤400000:=by omega
  have har:=arnd_le (x:=at_) (n:=(n:Int)) (by omega)
  obtain ⟨k,hk⟩:∃ k:Nat,arnd at_ (n:Int) = (k:Int):=⟨(arnd at_ n).toNat,by omega⟩
  have hkb:(0:Int)≤k∧(k:Int) < n:=⟨by omega,by omega⟩
  have hpn:(paths t).length = n:=by rw [paths_length,hn]
  obtain ⟨p,hp⟩:∃ p,(paths t)[k]? = some p:=⟨_,List.getElem?_eq_getElem (by omega)⟩
  have HPLB:Hid (∀ q ∈ paths t,q.length≤9223372036854775807):=Lib.hid (fun q hq=>by have:=path_le t q hq; omega)
  have hpl:=HPLB.out p (List.mem_of_getElem? hp)
  obtain ⟨x,hx⟩:=at_of_idx p t k (idx_paths t k p hp)
  have hsx:=at_size p t x hx
  obtain ⟨l,hl⟩:∃ l,l = x.kids.length:=⟨_,rfl⟩
  have hl1:l≤400000:=by have:=kids_lt x; omega
  have HL:=Lib.hid hl
  have HAR:Hid (∀ W,Calls Tryd.prog 21 #[.int .i64 at_,.int .i64 (n:Int)] W fun e w'=>e = .returned (.int .i64 (k:Int))∧W = w'):=Lib.hid (fun W=>by rw [← hk]; exact around_is at_ n ha (by omega) W)
  have har6:=arnd_le (x:=how) (n:=6) (by omega)
  obtain ⟨kk,hkk⟩:∃ kk:Nat,arnd how 6 = (kk:Int):=⟨(arnd how 6).toNat,by omega⟩
  have hkk6:kk < 6:=by omega
  have HAH:Hid (∀ W,Calls Tryd.prog 21 #[.int .i64 how,.int .i64 6] W fun e w'=>e = .returned (.int .i64 (kk:Int))∧W = w'):=Lib.hid (fun W=>by rw [← hkk]; exact around_is how 6 hh (by omega) W)
  have HPL:=Lib.hid hpl
  have HX:=Lib.hid hx
  have HS1:Hid (size t = n):=Lib.hid hn.symm
  have HST:Hid (size t≤1000000):=Lib.hid (by omega)
  have HSX:Hid (size x≤n):=Lib.hid (by omega)
  have HP:=Lib.hid hp
  have HPN:=Lib.hid hpn
  have HBY:=Lib.hid hy
  have hbr32:=arnd_le (x:=by_) (n:=32) (by omega)
  obtain ⟨k32,hk32⟩:∃ k32:Nat,arnd by_ 32 = (k32:Int):=⟨(arnd by_ 32).toNat,by omega⟩
  have hb32:(0:Int)≤k32∧(k32:Int) < 32:=⟨by omega,by omega⟩
  have HA32:Hid (∀ W,Calls Tryd.prog 21 #[.int .i64 by_,.int .i64 32] W fun e w'=>e = .returned (.int .i64 (k32:Int))∧W = w'):=Lib.hid (fun W=>by rw [← hk32]; exact around_is by_ 32 hy (by omega) W)
  have hbr15:=arnd_le (x:=by_) (n:=15) (by omega)
  obtain ⟨k15,hk15⟩:∃ k15:Nat,arnd by_ 15 = (k15:Int):=⟨(arnd by_ 15).toNat,by omega⟩
  have hb15:(0:Int)≤k15∧(k15:Int) < 15:=⟨by omega,by omega⟩
  have HA15:Hid (∀ W,Calls Tryd.prog 21 #[.int .i64 by_,.int .i64 15] W fun e w'=>e = .returned (.int .i64 (k15:Int))∧W = w'):=Lib.hid (fun W=>by rw [← hk15]; exact around_is by_ 15 hy (by omega) W)
  have hbr6:=arnd_le (x:=by_) (n:=6) (by omega)
  obtain ⟨k6,hk6⟩:∃ k6:Nat,arnd by_ 6 = (k6:Int):=⟨(arnd by_ 6).toNat,by omega⟩
  have hb6:(0:Int)≤k6∧(k6:Int) < 6:=⟨by omega,by omega⟩
  have HA6:Hid (∀ W,Calls Tryd.prog 21 #[.int .i64 by_,.int .i64 6] W fun e w'=>e = .returned (.int .i64 (k6:Int))∧W = w'):=Lib.hid (fun W=>by rw [← hk6]; exact around_is by_ 6 hy (by omega) W)
  have hbr30:=arnd_le (x:=by_) (n:=30) (by omega)
  obtain ⟨k30,hk30⟩:∃ k30:Nat,arnd by_ 30 = (k30:Int):=⟨(arnd by_ 30).toNat,by omega⟩
  have hb30:(0:Int)≤k30∧(k30:Int) < 30:=⟨by omega,by omega⟩
  have HA30:Hid (∀ W,Calls Tryd.prog 21 #[.int .i64 by_,.int .i64 30] W fun e w'=>e = .returned (.int .i64 (k30:Int))∧W = w'):=Lib.hid (fun W=>by rw [← hk30]; exact around_is by_ 30 hy (by omega) W)
  obtain ⟨i0,hi,hz0,hz1,hz2⟩:=info_parts node_info
  have hmo:Tryd.prog.follows .mixedOrders = true:=by kernel_rfl
  have HTT:=Lib.hid ht
  clear hbr32 hk32 hbr15 hk15 hbr6 hk6 hbr30 hk30 hl hn hs har hk hpn hp hpl hx hsx har6 hkk ht ha hh hy
  go_enter Tryd.func11,Tryd.ntmps11
  go_upto_region 1 with fail
  obtain ⟨W0,hW0⟩:∃ W0,W0 = ((w.alloc (.cells #[.int .i64 t.k,.int .i64 t.n,.int .i64 t.m,.slice A t.kids.length c] 25)).alloc (.cells #[.int .i64 0,.int .i64 0,.int .i64 0,.slice none 0 0] 25)):=⟨_,rfl⟩
  have hbw:Below w.heap.size w W0:=by rw [hW0]; exact ba (below_new _ _) _
  obtain ⟨r,hr⟩:∃ r,r = w.heap.size + 1:=⟨_,rfl⟩
  have hz0:W0.heap.size = w.heap.size + 2:=by rw [hW0,size_alloc,size_alloc]
  have H4:HeldR r W0 w.heap.size t (d + 1) A c:=⟨by rw [hW0]; exact (Blk.new _ _ _).alloc _,(HTT.out.keep (Keeps.below (in_lt w) hbw)).mono fun b (hb:b < w.heap.size)=>⟨by omega,by omega⟩⟩
  have HO:Blk W0 r 25 #[.int .i64 0,.int .i64 0,.int .i64 0,.slice none 0 0]:=by rw [hW0,hr]; exact blk_new2 _ _ _ _
  rw [← hW0,← hr]
  have HRW:=Lib.hid hr
  have HZ0:=Lib.hid hz0
  clear hW0 hr hz0
  go_upto_region 4 with (first
    | (refine wpList_load_mid rfl 25 (.tmp 4) rfl w.heap.size 0 rfl [.int .i64 t.k,.int .i64 t.n,.int .i64 t.m,.slice A t.kids.length c] _ H4.load Tryd.underlying25 rfl (by rw [size_node]; rfl) ?_)
    | (go_at_call 39; refine (paths_is _ t _ A c _ H4.2 (nr_in _ _) HST.out).mono ?_; rintro e w1 ⟨A3, c3, rfl, hcap3, hps3, hb1⟩; rw [HS1.out]; have HPS : PsR r w1 A3 (paths t) := hps3.mono fun b hb => ⟨by have := HZ0.out; have := HRW.out; omega, hb.2⟩; clear hps3 hcap3; replace H4 := H4.next hb1; replace HO := HO.below hb1 HO.lt; replace hbw := bt hbw hb1
       obtain ⟨b5,o5,A6,c6,hA5,hs5,hc5,hcq,hr6⟩:=HPS.at_ HP.out
       subst hA5
       have HP6:RdR r w1 A6 p:=hr6
       clear hb1 hr6)
    | (go_at_call 21; refine (HAR.out _).mono ?_; rintro e w' ⟨rfl,rfl⟩)
    | (go_at_call 40; refine (rat_is p d t (Nr r w1.heap.size) A A6 c c6 w1 H4.2 HP6 (nr_in _ _) hcq HST.out HPL.out).mono ?_; rintro e w2 ⟨x', A2, c2, hx', rfl, hr2, hb2⟩
       rw [HX.out] at hx' ⊢
       have hxx:x = x':=hx'
       subst hxx
       replace HPS:=HPS.next hb2
       replace HP6:=HP6.next hb2
       replace H4:=H4.next hb2
       replace HO:=HO.below hb2 HO.lt
       replace hbw:=bt hbw hb2
       replace hr2:Rep w2 (Nr r w2.heap.size) (d + 1) x (nd x A2 c2):=(hr2.keep (Keeps.below (nr_in r w1) hb2)).mono (Nr.more hb2.size)
       have hrr:=hr2.range
       obtain ⟨xs,hrd2,hrs2⟩:=hr2.kids
       have hb3:=below_new w2 (.cells #[.int .i64 x.k,.int .i64 x.n,.int .i64 x.m,.slice A2 x.kids.length c2] 25)
       rw [← HL.out] at hrd2 hb3 ⊢
       clear hc5 hs5 hx' hb2 hr2))
  obtain ⟨g,hgd⟩:∃ g,g = w2.heap.size:=⟨_,rfl⟩
  obtain ⟨W3,hW3⟩:∃ W3,W3 = w2.alloc (.cells #[.int .i64 x.k,.int .i64 x.n,.int .i64 x.m,.slice A2 l c2] 25):=⟨_,rfl⟩
  have hz3:W3.heap.size = g + 1:=by rw [hW3,hgd]; exact size_alloc _ _
  have HXB:Blk W3 g 25 #[.int .i64 x.k,.int .i64 x.n,.int .i64 x.m,.slice A2 l c2]:=by rw [hW3,hgd]; exact Blk.new _ _ _
  rw [← hW3] at hb3 ⊢
  have HRD3:Hid (Rd W3 (Nr r g) 4 A2 l xs):=Lib.hid (by rw [hgd]; exact hrd2.keep (Keeps.below (nr_in r w2) hb3))
  have HRS3:Hid (Reps W3 (Nr r g) d x.kids xs):=Lib.hid (by rw [hgd]; exact hrs2.keep (Keeps.below (nr_in r w2) hb3))
  have HIN3:Hid (In (Nr r g) W3.heap.size):=Lib.hid (fun b hb=>by have:=hb.2; omega)
  have HRS2:=Lib.hid hrs2
  have HZ3:=Lib.hid hz3
  have HGD:=Lib.hid hgd
  have HB3:=Lib.hid hb3
  have HXB3:=Lib.hid HXB
  have x3:=(HXB.alloc (.cells #[] 25)).cell 3
  simp only [List.getElem?_toArray,List.getElem?_cons_zero,List.getElem?_cons_succ] at x3
  have X4:=Lib.hid H4
  have XO:=Lib.hid HO
  have XP6:=Lib.hid HP6
  have XPS:=Lib.hid HPS
  have XBW:=Lib.hid hbw
  have HRG:Hid (r < g):=Lib.hid (by rw [hgd]; exact HO.lt)
  rw [← hgd]
  clear hW3 hgd hrd2 hrs2 hb3 hz3 HXB H4 HO HP6 HPS hbw
  go_cut [12] from 31 to 35 (fun s12 wv=>∃ (V:World) (A4:Option Addr) (c4:Nat),V = wv∧Hid (Blk V g 25 #[.int .i64 x.k,.int .i64 x.n,.int .i64 x.m,.slice A4 l c4]∧Below w2.heap.size w2 V∧V.ownsRow (g + 1) 25 4 (.slice A4 l c4) l xs))
  case first =>
    go_wp2_with (first
     | (at_builtin
        refine wpList_append_any _ rfl (.tmp 31) (.tmp 33) 23 rfl (g + 1) 25 i0 _ 4 48 Tryd.underlying23 hi hz0 hz1 hz2 rfl (by omega) _ 0 [] rfl (own_lit (xs:=[]) (n:=0) (Nat.le_of_eq HZ3.out.symm) rfl (len_le (by omega))) _ A2 l c2 xs rfl ((HRD3.out.keep (Keeps.below HIN3.out (below_new W3 _))).reads (HIN3.out.more (below_new W3 (.cells #[] 25)).size)) HRS3.out.one_cell (len_le (by omega)) (by omega) (by rw [size_alloc,HZ3.out]; omega) ?_
        intro v4 w4 hown4 hgrow4 hq4
        replace hown4:=own_nil hown4
        obtain ⟨A4,c4,hv4,hcap4⟩:=own_len hown4
        subst hv4
        have hb4:Below W3.heap.size W3 w4:=below_grown hgrow4 (fun b hb=>Nat.le_of_eq (Option.some.inj hb))
        have HXB:=HXB3.out.below hb4 HXB3.out.lt
        have x3:=HXB.cell 3
        have e3:=HXB.frozen 3
        simp only [List.getElem?_toArray,List.getElem?_cons_zero,List.getElem?_cons_succ] at x3
        clear hgrow4 hq4))
    go_meet
    exact ⟨_,A4,c4,rfl,HXB.set_ 3 _,(bt HB3.out hb4).setCell (Nat.le_of_eq HGD.out.symm) _,hown4.kept (gw_setCell (g:=g) (gw_refl w4 g) (.inl rfl) _) (.inr fun e=>by have:=(hown4.lt _ e).1; omega)⟩
  case rest =>
  obtain ⟨W5,A4,c4,hW5,HH5⟩:=hcut
  subst hW5
  obtain ⟨HXB5,hb5,hown5⟩:=HH5.out
  have hrs5:Reps W5 (Nr r g) d x.kids xs:=by rw [HGD.out]; exact HRS2.out.keep (Keeps.below (nr_in r w2) hb5)
  clear x3
  have x0:=HXB5.cell 0
  have e0:=HXB5.frozen 0
  have x1:=HXB5.cell 1
  have e1:=HXB5.frozen 1
  have x2:=HXB5.cell 2
  have e2:=HXB5.frozen 2
  have x3:=HXB5.cell 3
  have e3:=HXB5.frozen 3
  simp only [List.getElem?_toArray,List.getElem?_cons_zero,List.getElem?_cons_succ] at x0 x1 x2 x3
  have HOW5:=Lib.hid hown5
  have HRS5:=Lib.hid hrs5
  have XB5:=Lib.hid HXB5
  have HB5:=Lib.hid hb5
  clear HXB5 hb5 hown5 hrs5 HH5
  have hcases:kk = 0∨kk = 1∨kk = 2∨kk = 3∨kk = 4∨kk = 5:=by omega
  clear hkk6
  rename_i hK
  refine hK _ _ ?_
  go_step
  go_cut [13] from 36 to 107 (fun s13 wv=>∃ V:World,V = wv∧Hid (Mid w2 g r (n + 1) V))
  case first =>
    rcases hcases with rfl | rfl | rfl | rfl | rfl | rfl
    · go_wp2_with (first
        | (go_at_call 21; have hm:=mk1; refine (HA32.out _).mono ?_; rintro e w' ⟨rfl,rfl⟩; clear hm)
        | (go_at_call 21; refine (HAH.out _).mono ?_; rintro e w' ⟨rfl,rfl⟩; clear HAH; have mk1:True:=trivial))
      go_meet
      exact ⟨_,rfl,mid_of (d:=d) (HB5.out.setCell (Nat.le_of_eq HGD.out.symm) _) HRG.out (show inRange ((k32:Int) - 1) by unfold inRange; omega) hrr.2.1 hrr.2.2 HL.out (by have h:=XB5.out.set_ 0 (.int .i64 ((k32:Int) - 1)); simpa using h) (own_set HOW5.out _) (HRS5.out.keep (nr_set _ _ _)) (by rw [sz_kids]; have:=HSX.out; omega)⟩
    · obtain ⟨z,hz⟩:∃ z,([-9,-8,-1,0,1,2,3,4,5,6,7,8,13,14,by_]:List Int)[k15]? = some z:=⟨_,List.getElem?_eq_getElem (by simp; omega)⟩
      have hzr:inRange z:=by
        have h:=List.mem_of_getElem? hz
        simp only [List.mem_cons,List.not_mem_nil,or_false] at h
        rcases h with rfl | rfl | rfl | rfl | rfl | rfl | rfl | rfl | rfl | rfl | rfl | rfl | rfl | rfl | rfl <;> first | exact HBY.out | (unfold inRange; omega)
      have hB6:=XB5.out.alloc (.cells #[.int .i64 (-9),.int .i64 (-8),.int .i64 (-1),.int .i64 0,.int .i64 1,.int .i64 2,.int .i64 3,.int .i64 4,.int .i64 5,.int .i64 6,.int .i64 7,.int .i64 8,.int .i64 13,.int .i64 14,.int .i64 by_] 3)
      have hcz:(W5.alloc (.cells #[.int .i64 (-9),.int .i64 (-8),.int .i64 (-1),.int .i64 0,.int .i64 1,.int .i64 2,.int .i64 3,.int .i64 4,.int .i64 5,.int .i64 6,.int .i64 7,.int .i64 8,.int .i64 13,.int .i64 14,.int .i64 by_] 3)).cell? ⟨W5.heap.size,k15,none⟩ = some (.int .i64 z):=by
        rw [(Blk.new W5 3 #[.int .i64 (-9),.int .i64 (-8),.int .i64 (-1),.int .i64 0,.int .i64 1,.int .i64 2,.int .i64 3,.int .i64 4,.int .i64 5,.int .i64 6,.int .i64 7,.int .i64 8,.int .i64 13,.int .i64 14,.int .i64 by_]).cell]
        have h:=vi_get hz
        simpa [vi] using h
      have y1:=hB6.cell 1
      have f1:=hB6.frozen 1
      simp only [List.getElem?_toArray,List.getElem?_cons_zero,List.getElem?_cons_succ] at y1
      have HB6:=Lib.hid hB6
      have HZR:=Lib.hid hzr
      clear hz hB6 hzr
      go_wp2_with (first
        | (go_at_call 21; have hm:=mk1; refine (HA15.out _).mono ?_; rintro e w' ⟨rfl,rfl⟩; clear hm)
        | (go_at_call 21; refine (HAH.out _).mono ?_; rintro e w' ⟨rfl,rfl⟩; clear HAH; have mk1:True:=trivial))
      go_meet
      exact ⟨_,rfl,mid_of (d:=d) ((ba HB5.out _).setCell (Nat.le_of_eq HGD.out.symm) _) HRG.out hrr.1 HZR.out hrr.2.2 HL.out (by have h:=HB6.out.set_ 1 (.int .i64 z); simpa using h) (own_set (ownsRow_below HOW5.out (below_new _ _)) _) ((HRS5.out.keep (Keeps.below (fun b hb=>Nat.lt_trans hb.2 XB5.out.lt) (below_new _ _))).keep (nr_set _ _ _)) (by rw [sz_kids]; have:=HSX.out; omega)⟩
    · obtain ⟨z,hz⟩:∃ z,([-1,0,1,2,3,by_]:List Int)[k6]? = some z:=⟨_,List.getElem?_eq_getElem (by simp; omega)⟩
      have hzr:inRange z:=by
        have h:=List.mem_of_getElem? hz
        simp only [List.mem_cons,List.not_mem_nil,or_false] at h
        rcases h with rfl | rfl | rfl | rfl | rfl | rfl <;> first | exact HBY.out | (unfold inRange; omega)
      have hB6:=XB5.out.alloc (.cells #[.int .i64 (-1),.int .i64 0,.int .i64 1,.int .i64 2,.int .i64 3,.int .i64 by_] 3)
      have hcz:(W5.alloc (.cells #[.int .i64 (-1),.int .i64 0,.int .i64 1,.int .i64 2,.int .i64 3,.int .i64 by_] 3)).cell? ⟨W5.heap.size,k6,none⟩ = some (.int .i64 z):=by
        rw [(Blk.new W5 3 #[.int .i64 (-1),.int .i64 0,.int .i64 1,.int .i64 2,.int .i64 3,.int .i64 by_]).cell]
        have h:=vi_get hz
        simpa [vi] using h
      have y1:=hB6.cell 2
      have f1:=hB6.frozen 2
      simp only [List.getElem?_toArray,List.getElem?_cons_zero,List.getElem?_cons_succ] at y1
      have HB6:=Lib.hid hB6
      have HZR:=Lib.hid hzr
      clear hz hB6 hzr
      go_wp2_with (first
        | (go_at_call 21; have hm:=mk1; refine (HA6.out _).mono ?_; rintro e w' ⟨rfl,rfl⟩; clear hm)
        | (go_at_call 21; refine (HAH.out _).mono ?_; rintro e w' ⟨rfl,rfl⟩; clear HAH; have mk1:True:=trivial))
      go_meet
      exact ⟨_,rfl,mid_of (d:=d) ((ba HB5.out _).setCell (Nat.le_of_eq HGD.out.symm) _) HRG.out hrr.1 hrr.2.1 HZR.out HL.out (by have h:=HB6.out.set_ 2 (.int .i64 z); simpa using h) (own_set (ownsRow_below HOW5.out (below_new _ _)) _) ((HRS5.out.keep (Keeps.below (fun b hb=>Nat.lt_trans hb.2 XB5.out.lt) (below_new _ _))).keep (nr_set _ _ _)) (by rw [sz_kids]; have:=HSX.out; omega)⟩
    · by_cases hl0:l = 0
      · have hd0:decide ((0:Int) < (l:Int)) = false:=by simp; omega
        have hd1:decide (0 < l) = false:=by simp; omega
        have HL0:=Lib.hid hl0
        clear hl0
        go_wp2_with (first
          | (go_at_call 21; refine (HAH.out _).mono ?_; rintro e w' ⟨rfl,rfl⟩; clear HAH; have mk1:True:=trivial))
        go_meet
        exact ⟨_,rfl,mid_of (d:=d) HB5.out HRG.out hrr.1 hrr.2.1 hrr.2.2 HL.out XB5.out HOW5.out HRS5.out (by rw [sz_kids]; have:=HSX.out; omega)⟩
      · have hlp:0 < l:=by omega
        have hlp2:(0:Int) < (l:Int):=by omega
        have harl:=arnd_le (x:=by_) (n:=(l:Int)) (by omega)
        obtain ⟨kl,hkl⟩:∃ kl:Nat,arnd by_ (l:Int) = (kl:Int):=⟨(arnd by_ l).toNat,by omega⟩
        have hkb2:(0:Int)≤kl∧(kl:Int) < l:=⟨by omega,by omega⟩
        have HAL:Hid (∀ W,Calls Tryd.prog 21 #[.int .i64 by_,.int .i64 (l:Int)] W fun e w'=>e = .returned (.int .i64 (kl:Int))∧W = w'):=Lib.hid (fun W=>by rw [← hkl]; exact around_is by_ l HBY.out (by omega) W)
        have how:=HOW5.out
        obtain ⟨hxl,hform⟩:=how
        rcases hform with ⟨_,h0⟩ | ⟨b4,cap,cur,hv,hb4,hcur,hle,hmx,hsz,htk⟩
        · exact absurd h0 hl0
        · injection hv with hA4 _ hc4
          subst hA4
          subst hc4
          have hcA:=cutLo b4 l c4 kl (by omega)
          have hcB:=cutHi b4 l c4 kl (by omega)
          obtain ⟨P2,hP2⟩:∃ P2,(if c4 = kl + 1 then some (⟨b4,0,none⟩:Addr) else some ⟨b4,(kl + 1) * 4,none⟩) = P2:=⟨_,rfl⟩
          rw [hP2] at hcB
          have HLT:Hid (b4 < W5.heap.size):=Lib.hid ((HOW5.out.lt _ rfl).2)
          have HOK:Hid (W5.drew.ownsRow (g + 1) 25 4 (.slice (some ⟨b4,0,none⟩) kl c4) kl (xs.take (kl * 4))):=Lib.hid (World.ownsRow.drew ⟨by simp [hxl]; omega,.inr ⟨b4,c4,cur,rfl,hb4,hcur,by omega,hmx,hsz,by rw [← htk,List.take_take]; congr 1; omega⟩⟩)
          have HRDK:Hid (Reads W5.drew W5.heap.size 4 P2 (l - (kl + 1)) (xs.drop ((kl + 1) * 4))):=Lib.hid (by
            refine ⟨by simp [hxl]; omega,fun hpos=>?_⟩
            rw [if_neg (by omega)] at hP2
            subst hP2
            refine ⟨_,rfl,HLT.out,fun j u hu=>?_⟩
            obtain ⟨b',o',e,hS,hcell⟩:=(Rd.of_own HOW5.out).lit (by omega)
            injection e with e1
            injection e1 with e2 e3
            subst e2
            subst e3
            rw [List.getElem?_drop] at hu
            have:=hcell ((kl + 1) * 4 + j) u hu
            rw [Addr.add_lit]
            show W5.cell? _ = _
            rw [← this]
            congr 2
            omega)
          have HOC:Hid (∀ v ∈ xs.drop ((kl + 1) * 4),v.oneCell' = true):=Lib.hid (fun v hv=>HRS5.out.one_cell v (List.mem_of_mem_drop hv))
          have hwk:IntKind.i64.wrap ((kl:Int) + 1) = (kl:Int) + 1:=by rw [IntKind.wrap_i64]; omega
          have hkk3:(0:Int)≤(kl:Int) + 1:=by omega
          have hkk4:(kl:Int) + 1≤(l:Int):=by omega
          have d3:W5.drew.cell? ⟨g,3,none⟩ = some (.slice (some ⟨b4,0,none⟩) l c4):=x3
          have hkn:kl < l:=by omega
          have HBG:Hid (b4≠g):=Lib.hid (by omega)
          clear hxl hcur hle hmx hsz htk hP2 harl hkl hb4
          go_wp2_with (first
            | (go_at_call 21; have hm:=mk1; refine (HAL.out _).mono ?_; rintro e w' ⟨rfl,rfl⟩; clear hm)
            | (go_at_call 21; refine (HAH.out _).mono ?_; rintro e w' ⟨rfl,rfl⟩; clear HAH; have mk1:True:=trivial))
          go_region_law (first
            | (refine step_append_any _ rfl (.tmp 76) (.tmp 81) 23 rfl (g + 1) 25 i0 _ 4 48 Tryd.underlying23 hi hz0 hz1 hz2 rfl (by omega) _ kl (xs.take (kl * 4)) rfl HOK.out _ P2 (l - (kl + 1)) (c4 - (kl + 1)) (xs.drop ((kl + 1) * 4)) rfl HRDK.out HOC.out (len_le (by omega)) (by omega) (by have := XB5.out.lt; show g + 1 ≤ W5.heap.size; omega) ?_
               intro v7 w7 hown7 hgrow7 hq7
               obtain ⟨A7,c7,hv7,hcap7⟩:=own_len hown7
               subst hv7
               have hb7:Below w2.heap.size w2 w7:=⟨hgrow7.os.trans HB5.out.drew.os,hgrow7.tape.trans HB5.out.drew.tape,hgrow7.output.trans HB5.out.drew.output,Nat.le_trans HB5.out.size hgrow7.size,fun i hi=>(hgrow7.block i (Nat.lt_of_lt_of_le hi HB5.out.size) (fun e=>by have:=Option.some.inj e; have:=HGD.out; have:=(HOW5.out.lt _ rfl).1; omega)).trans (HB5.out.block i hi)⟩
               have hXB7:=(XB5.out.drew).grown hgrow7 (fun e=>HBG.out (Option.some.inj e).symm)
               have hrs7:Reps w7 (Nr r g) d x.kids xs:=HRS5.out.keep fun i hi=>(hgrow7.block i (Nat.lt_trans hi.2 XB5.out.lt) (fun e=>by have:=Option.some.inj e; have:=(HOW5.out.lt _ rfl).1; have:=hi.2; omega))
               have y3:=hXB7.cell 3
               have z3:=hXB7.frozen 3
               simp only [List.getElem?_toArray,List.getElem?_cons_zero,List.getElem?_cons_succ] at y3
               have HX7:=Lib.hid hXB7
               have HO7:=Lib.hid hown7
               have HB7:=Lib.hid hb7
               have HR7:=Lib.hid hrs7
               clear hgrow7 hq7 hXB7 hown7 hb7 hrs7 d3))
          all_goals
            go_wp2_with fail
            go_meet
            exact ⟨_,rfl,mid_of (d:=d) (ts:=cutAt x.kids kl) (HB7.out.setCell (Nat.le_of_eq HGD.out.symm) _) HRG.out hrr.1 hrr.2.1 hrr.2.2 (by rw [cut_length (by rw [← HL.out]; exact hkn),← HL.out]) (by have h:=HX7.out.set_ 3 (.slice A7 (kl + (l - (kl + 1))) c7); simpa using h) (own_set HO7.out _) ((HR7.out.cut (by rw [← HL.out]; exact hkn)).keep (nr_set _ _ _)) (by have:=size_cut x.k x.n x.m x kl; have:=HSX.out; omega)⟩
    · have d3:W5.drew.cell? ⟨g,3,none⟩ = some (.slice A4 l c4):=x3
      have hXBA:=(XB5.out.alloc (.cells #[.int .i64 (k30:Int),.int .i64 0,.int .i64 0,.slice none 0 0] 25)).drew
      have d3a:=hXBA.cell 3
      simp only [List.getElem?_toArray,List.getElem?_cons_zero,List.getElem?_cons_succ] at d3a
      have HXBA:=Lib.hid hXBA
      have HOW:Hid ((W5.alloc (.cells #[.int .i64 (k30:Int),.int .i64 0,.int .i64 0,.slice none 0 0] 25)).drew.ownsRow (g + 1) 25 4 (.slice A4 l c4) l xs):=Lib.hid (HOW5.out.alloc _).drew
      have HRD:Hid (Reads (W5.alloc (.cells #[.int .i64 (k30:Int),.int .i64 0,.int .i64 0,.slice none 0 0] 25)).drew (W5.heap.size + 1) 4 (some ⟨W5.heap.size,0,none⟩) 1 (nd ⟨k30,0,0,[]⟩ none 0)):=Lib.hid (reads_nd W5 ⟨k30,0,0,[]⟩ none 0)
      have hBA:Below w2.heap.size w2 (W5.alloc (.cells #[.int .i64 (k30:Int),.int .i64 0,.int .i64 0,.slice none 0 0] 25)).drew:=(ba HB5.out _).drew
      have HBA:=Lib.hid hBA
      have HNS:Hid (g + 1≤(W5.alloc (.cells #[.int .i64 (k30:Int),.int .i64 0,.int .i64 0,.slice none 0 0] 25)).drew.heap.size):=Lib.hid (by have:=hXBA.lt; omega)
      have hi30:inRange (k30:Int):=by unfold inRange; omega
      clear hXBA hBA
      go_wp2_with (first
        | (go_at_call 21; refine (HAH.out _).mono ?_; rintro e w' ⟨rfl,rfl⟩; clear HAH; have mk1:True:=trivial))
      go_region_law (first
        | (refine step_append_any _ rfl (.tmp 87) (.tmp 91) 23 rfl (g + 1) 25 i0 _ 4 48 Tryd.underlying23 hi hz0 hz1 hz2 rfl (by omega) _ l xs rfl HOW.out _ (some ⟨W5.heap.size, 0, none⟩) 1 1 (nd ⟨k30, 0, 0, []⟩ none 0) rfl HRD.out (nd_one ⟨k30, 0, 0, []⟩ none 0) (len_le (by omega)) (by omega) HNS.out ?_
           intro v7 w7 hown7 hgrow7 hq7
           obtain ⟨A7,c7,hv7,hcap7⟩:=own_len hown7
           subst hv7
           have hb7:Below w2.heap.size w2 w7:=⟨hgrow7.os.trans HBA.out.os,hgrow7.tape.trans HBA.out.tape,hgrow7.output.trans HBA.out.output,Nat.le_trans HBA.out.size hgrow7.size,fun i hi=>(hgrow7.block i (Nat.lt_of_lt_of_le hi HBA.out.size) (fun e=>by have:=(HOW5.out.lt _ e.symm).1; have:=HGD.out; omega)).trans (HBA.out.block i hi)⟩
           have hXB7:=HXBA.out.grown hgrow7 (fun e=>by have:=(HOW5.out.lt _ e.symm).1; omega)
           have hrs7:Reps w7 (Nr r g) d x.kids xs:=by rw [HGD.out]; exact HRS2.out.keep (Keeps.below (nr_in r w2) hb7)
           have y3:=hXB7.cell 3
           have z3:=hXB7.frozen 3
           simp only [List.getElem?_toArray,List.getElem?_cons_zero,List.getElem?_cons_succ] at y3
           have HX7:=Lib.hid hXB7
           have HO7:=Lib.hid hown7
           have HB7:=Lib.hid hb7
           have HR7:=Lib.hid hrs7
           clear hgrow7 hq7 hXB7 hown7 hb7 hrs7 d3 d3a)
        | (go_simp; go_at_call 21; refine (HA30.out _).mono ?_; rintro e w' ⟨rfl,rfl⟩))
      all_goals
        go_wp2_with fail
        go_meet
        exact ⟨_,rfl,mid_of (d:=d + 1) (ts:=x.kids ++ [⟨k30,0,0,[]⟩]) (HB7.out.setCell (Nat.le_of_eq HGD.out.symm) _) HRG.out hrr.1 hrr.2.1 hrr.2.2 (by rw [List.length_append,← HL.out]; rfl) (by have h:=HX7.out.set_ 3 (.slice A7 (l + 1) c7); simpa using h) (own_set HO7.out _) (((HR7.out.deeper (Nat.le_succ d)).snoc (Rep.leaf hi30 in0 in0 _ _)).keep (nr_set _ _ _)) (by rw [size_snoc,sz_kids]; have:=HSX.out; omega)⟩
    · have harn:=arnd_le (x:=by_) (n:=(n:Int)) (by omega)
      obtain ⟨kn,hkn⟩:∃ kn:Nat,arnd by_ (n:Int) = (kn:Int):=⟨(arnd by_ n).toNat,by omega⟩
      have hkb2:(0:Int)≤kn∧(kn:Int) < n:=⟨by omega,by omega⟩
      have HAN:Hid (∀ W,Calls Tryd.prog 21 #[.int .i64 by_,.int .i64 (n:Int)] W fun e w'=>e = .returned (.int .i64 (kn:Int))∧W = w'):=Lib.hid (fun W=>by rw [← hkn]; exact around_is by_ n HBY.out (by omega) W)
      obtain ⟨q,hq⟩:∃ q,(paths t)[kn]? = some q:=⟨_,List.getElem?_eq_getElem (by rw [HPN.out]; omega)⟩
      obtain ⟨v,hv⟩:=at_of_idx q t kn (idx_paths t kn q hq)
      have hsv:=at_size q t v hv
      have hql:=HPLB.out q (List.mem_of_getElem? hq)
      obtain ⟨b7,o7,A12,c12,hA7,hs7,hc7,hcq7,hr7⟩:=Ps.at_ XPS.out hq
      injection hA7 with hA7
      injection hA7 with e7 e8
      subst e7
      subst e8
      have HK:Hid (∀ W',Below w2.heap.size w2 W'→W'.cell? ⟨w.heap.size,0,none⟩ = some (.int .i64 t.k)∧W'.cell? ⟨w.heap.size,1,none⟩ = some (.int .i64 t.n)∧W'.cell? ⟨w.heap.size,2,none⟩ = some (.int .i64 t.m)∧W'.cell? ⟨w.heap.size,3,none⟩ = some (.slice A t.kids.length c)∧W'.cell? ⟨b5,o5 + kn,none⟩ = some (.slice A12 q.length c12)):=Lib.hid (fun W' h=>by
        have h2:=h
        have hb:=X4.out.1.below h2 X4.out.1.lt
        exact ⟨hb.cell 0,hb.cell 1,hb.cell 2,hb.cell 3,(h2.cell (p:=⟨b5,o5 + kn,none⟩) hs7.2).trans hc7⟩)
      have HV:Hid (at? q t = some v):=Lib.hid hv
      have HSV:Hid (size v≤n):=Lib.hid (by have:=HS1.out; omega)
      have HATQ:Hid (∀ W',Below W5.heap.size W5 W'→Calls Tryd.prog 40 #[.agg #[.int .i64 t.k,.int .i64 t.n,.int .i64 t.m,.slice A t.kids.length c],.slice A12 q.length c12] W' fun e w'=>∃ A' c',e = .returned (.tuple #[.agg #[.int .i64 v.k,.int .i64 v.n,.int .i64 v.m,.slice A' v.kids.length c'],.bool true])∧Rep w' (Nr r w2.heap.size) (d + 1) v (nd v A' c')∧Below W'.heap.size W' w'):=Lib.hid (fun W' h=>by
        have h2:=bt HB5.out h
        refine (rat_is q d t (Nr r w2.heap.size) A A12 c c12 W' (X4.out.2.keep (Keeps.below (nr_in r w2) h2)) (Rd.keep hr7 (Keeps.below (nr_in r w2) h2)) ((nr_in r w2).more h2.size) hcq7 HST.out hql).mono ?_
        rintro e w' ⟨u,A',c',hu,he,hr,hb'⟩
        rw [hv] at hu he
        have hvu:v = u:=hu
        subst hvu
        exact ⟨A',c',he,hr.keep (Keeps.below ((nr_in r w2).more h2.size) hb'),hb'⟩)
      have hbc:Below W5.heap.size W5 W5.drew:=(Below.refl _ _).drew
      clear harn hkn hq hv hsv hql hs7 hc7 hcq7 hr7 x0 x1 x2 x3 e0 e1 e2 e3
      go_wp2_with (first
        | (go_at_call 21; refine (HAH.out _).mono ?_; rintro e w' ⟨rfl,rfl⟩; clear HAH; have mk1:True:=trivial))
      refine wp_region_noPanic ?_
      go_region_held2 (fun W'=>W'.cell? ⟨w.heap.size,0,none⟩ = some (.int .i64 t.k)∧W'.cell? ⟨w.heap.size,1,none⟩ = some (.int .i64 t.n)∧W'.cell? ⟨w.heap.size,2,none⟩ = some (.int .i64 t.m)∧W'.cell? ⟨w.heap.size,3,none⟩ = some (.slice A t.kids.length c)∧W'.cell? ⟨b5,o5 + kn,none⟩ = some (.slice A12 q.length c12))
        (first | exact HK.out _ (bt HB5.out hbc) | exact HK.out _ (put4_below (bt HB5.out hbc) _ _ _ _ (Nat.le_of_eq HGD.out.symm)))
        (first
        | (go_at_call 21; refine (HAN.out _).mono ?_; rintro e w' ⟨rfl,rfl⟩)
        | (go_at_call 40; refine (HATQ.out _ hbc).mono ?_; rintro e w9 ⟨A9, c9, rfl, hr9, hb9⟩; replace hbc := bt hbc hb9; clear hb9
           have hz0:=XB5.out.below hbc XB5.out.lt
           have z0:=hz0.cell 0; have z1:=hz0.cell 1; have z2:=hz0.cell 2; have z3:=hz0.cell 3; have f0:=hz0.frozen 0; have f1:=hz0.frozen 1; have f2:=hz0.frozen 2; have f3:=hz0.frozen 3))
      all_goals
        refine NoPanic.normal ?_
        go_wp2_with fail
        go_meet
        exact ⟨_,rfl,put4_below (bt HB5.out hbc) _ _ _ _ (Nat.le_of_eq HGD.out.symm),v,A9,c9,d + 1,⟨put4_blk (cs:=[.int .i64 x.k,.int .i64 x.n,.int .i64 x.m,.slice A4 l c4]) hz0 rfl _ _ _ _,(put4_rep hr9 (fun h=>by have:=h.2; have:=HGD.out; omega) _ _ _ _).mono fun b hb=>⟨hb.1,by have h1:=(bt HB5.out hbc).size; have h2:=hb.2; simp only [World.size_setCell]; omega⟩⟩,by have:=HSV.out; omega⟩
  case rest =>
    obtain ⟨V,hV,HM⟩:=hcut
    subst hV
    obtain ⟨hbV,x',A',c',D',HX',hsx'⟩:=HM.out
    have H4:=X4.out.next hbV
    have HO:=XO.out.below hbV XO.out.lt
    have HP6:=XP6.out.next hbV
    have hbw:=bt XBW.out hbV
    obtain ⟨z,hz⟩:=set_of_at x' p t x HX.out
    have hsz:=set_size x' p t z hz
    have HZ:=Lib.hid hz
    have HSZ:Hid (size z≤2 * size t + 1):=Lib.hid (by have:=HS1.out; omega)
    have HBW:=Lib.hid hbw
    have HRV:Hid (r < V.heap.size):=Lib.hid HO.lt
    clear hz hsz hbw hbV hsx'
    go_wp2_with (first
      | (refine wpList_load_mid rfl 25 (.tmp 4) rfl w.heap.size 0 rfl [.int .i64 t.k,.int .i64 t.n,.int .i64 t.m,.slice A t.kids.length c] _ H4.load Tryd.underlying25 rfl (by rw [size_node]; rfl) ?_)
      | (refine wpList_load_mid rfl 25 (.tmp 11) rfl g 0 rfl [.int .i64 x'.k,.int .i64 x'.n,.int .i64 x'.m,.slice A' x'.kids.length c'] _ HX'.load Tryd.underlying25 rfl (by rw [size_node]; rfl) ?_)
      | (go_at_call 41; go_loud (
         refine (set_is p (d + 1) D' t x' (Nr r V.heap.size) A A6 A' c c6 c' p.length V rfl H4.2 HX'.2 HP6 (nr_in _ _) hcq HST.out HPL.out).mono ?_
         rintro e w8 ⟨u9,A9,c9,D9,hu9,rfl,hr9,hb9⟩
         rw [HZ.out] at hu9 ⊢
         have hzu:z = u9:=hu9
         subst hzu
         have hO8:=(HO.below hb9 HO.lt).alloc (.cells #[.int .i64 z.k,.int .i64 z.n,.int .i64 z.m,.slice A9 z.kids.length c9] 25)
         have r0:=hO8.cell 0
         have r1:=hO8.cell 1
         have r2:=hO8.cell 2
         have r3:=hO8.cell 3
         have f0:=hO8.frozen 0
         have f1:=hO8.frozen 1
         have f2:=hO8.frozen 2
         have f3:=hO8.frozen 3
         simp only [List.getElem?_toArray,List.getElem?_cons_zero,List.getElem?_cons_succ] at r0 r1 r2 r3
         have HR9:=Lib.hid hr9
         have HB9:=Lib.hid hb9
         clear hu9 hO8 hr9 hb9 H4 HX' HP6 HO x0 x1 x2 x3 e0 e1 e2 e3)))
    refine bodyPost_ret (v:=.agg #[.int .i64 z.k,.int .i64 z.n,.int .i64 z.m,.slice A9 z.kids.length c9]) (by simp [results,Tryd.results11,go_sem,r0,r1,r2,r3]) rfl ⟨z,A9,c9,D9,rfl,HSZ.out,?_,?_⟩
    · refine (put4_rep (HR9.out.keep (Keeps.below ((nr_in r V).plus HB9.out.size) (below_new w8 _))) (fun h=>?_) _ _ _ _).mono fun b hb=>?_
      · rcases h with h | h
        · exact h.1 rfl
        · have:=HRV.out; omega
      · have h1:=(nr_in r V).plus HB9.out.size b hb
        simp only [World.size_setCell,size_alloc]
        omega
    · exact put4_below (ba (bt HBW.out HB9.out) _) _ _ _ _ (by have:=HRW.out; omega)
end Go.Proofs.YtkkenbalpnmfmaaDoor
