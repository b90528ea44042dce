/- Texts joined. -/
import Derived.Test.YtkkenbalpnmfmaaDoorG07
import Derived.Test.YtkkenbalpnmfmaaDoorG13
set_option linter.unusedVariables false
namespace Go.Proofs.YtkkenbalpnmfmaaDoor
open Go.RowKit WM TR

def bsN (n:Nat) (parts:Array (Nat × Value)):Sem Value:=Instr.buildSlice 23 n parts
theorem shutB2 (parts:Array (Nat × Value)):Instr.buildSlice 23 2 parts = bsN 2 parts:=rfl
theorem shutB3 (parts:Array (Nat × Value)):Instr.buildSlice 23 3 parts = bsN 3 parts:=rfl
set_option maxRecDepth 100000 in
theorem run_bs2 (W:World) (a1 a2 a3 a4 b1 b2 b3 b4:Value):(bsN 2 #[(0,.agg #[a1,a2,a3,a4]),(1,.agg #[b1,b2,b3,b4])]).run Tryd.prog W = .ok (.slice (some ⟨W.heap.size,0,none⟩) 2 2) (W.alloc (.cells #[a1,a2,a3,a4,b1,b2,b3,b4] 25)):=by kernel_rfl
set_option maxRecDepth 100000 in
theorem run_bs3 (W:World) (a1 a2 a3 a4 b1 b2 b3 b4 c1 c2 c3 c4:Value):(bsN 3 #[(0,.agg #[a1,a2,a3,a4]),(1,.agg #[b1,b2,b3,b4]),(2,.agg #[c1,c2,c3,c4])]).run Tryd.prog W = .ok (.slice (some ⟨W.heap.size,0,none⟩) 3 3) (W.alloc (.cells #[a1,a2,a3,a4,b1,b2,b3,b4,c1,c2,c3,c4] 25)):=by kernel_rfl
def Kid (r:Nat) (V:World) (D:Nat) (t:T) (A:Option Addr) (c:Nat):Prop:=Rep V (fun b=>r < b∧b < V.heap.size) D t (nd t A c)
theorem Kid.gw {r g D c:Nat} {V W:World} {t:T} {A:Option Addr} (h:Kid r V D t A c) (hg:V.grownBy W (some g)) (hgr:g < r):Kid r W D t A c :=
 (Rep.keep (Keeps.gw hg (fun b hb=>hb.2) (fun b hb=>by have:=hb.1; omega)) h).mono fun b hb=>⟨hb.1,Nat.lt_of_lt_of_le hb.2 hg.size⟩
theorem kids_row {r D : Nat} {V : World} {ts : List T} {xs : List Value} (hr : r < V.heap.size) (h : Reps V (fun b => r < b ∧ b < V.heap.size) D ts xs) :
  Rd (V.alloc (.cells xs.toArray 25)) (fun b=>r < b∧b < (V.alloc (.cells xs.toArray 25)).heap.size) 4 (some ⟨V.heap.size,0,none⟩) ts.length xs∧Reps (V.alloc (.cells xs.toArray 25)) (fun b=>r < b∧b < (V.alloc (.cells xs.toArray 25)).heap.size) D ts xs:=by
 have hB:=Blk.new V 25 xs.toArray
 have hb:=below_new V (.cells xs.toArray 25)
 refine ⟨⟨h.1,fun _=>⟨_,rfl,⟨hr,hB.lt⟩,fun j u hu=>by rw [Addr.add_lit,Nat.zero_add,hB.cell]; simpa using hu⟩⟩,(h.keep (Keeps.below (fun b hb=>hb.2) hb)).mono fun b hb'=>⟨hb'.1,Nat.lt_of_lt_of_le hb'.2 hb.size⟩⟩

theorem Kid.row {r D : Nat} {V : World} {ts : List T} {xs : List Value} {k n : Int} (hr : r < V.heap.size) (h : Reps V (fun b => r < b ∧ b < V.heap.size) D ts xs) (hk : inRange k) (hn : inRange n) :
  Kid r (V.alloc (.cells xs.toArray 25)) (D + 1) ⟨k,n,0,ts⟩ (some ⟨V.heap.size,0,none⟩) ts.length:=by
 obtain ⟨h1,h2⟩:=kids_row hr h
 exact Rep.mk hk hn (by unfold inRange; omega) (Nat.le_refl _) h1 h2
theorem Kid.one {r D c : Nat} {V : World} {t : T} {A : Option Addr} {k n : Int} (hr : r < V.heap.size) (h : Kid r V D t A c) (hk : inRange k) (hn : inRange n) :
  Kid r (V.alloc (.cells #[.int .i64 t.k,.int .i64 t.n,.int .i64 t.m,.slice A t.kids.length c] 25)) (D + 1) ⟨k,n,0,[t]⟩ (some ⟨V.heap.size,0,none⟩) 1 :=
 Kid.row (ts:=[t]) (xs:=nd t A c) hr (Reps.one h) hk hn
theorem Kid.two {r D c c2 : Nat} {V : World} {t u : T} {A A2 : Option Addr} {k n : Int} (hr : r < V.heap.size) (h : Kid r V D t A c) (h2 : Kid r V D u A2 c2) (hk : inRange k) (hn : inRange n) :
  Kid r (V.alloc (.cells #[.int .i64 t.k,.int .i64 t.n,.int .i64 t.m,.slice A t.kids.length c,.int .i64 u.k,.int .i64 u.n,.int .i64 u.m,.slice A2 u.kids.length c2] 25)) (D + 1) ⟨k,n,0,[t,u]⟩ (some ⟨V.heap.size,0,none⟩) 2 :=
 Kid.row (ts:=[t,u]) (xs:=nd t A c ++ nd u A2 c2) hr ((Reps.one h).snoc h2) hk hn
theorem Kid.three {r D c c2 c3 : Nat} {V : World} {t u x : T} {A A2 A3 : Option Addr} {k n : Int} (hr : r < V.heap.size) (h : Kid r V D t A c) (h2 : Kid r V D u A2 c2) (h3 : Kid r V D x A3 c3) (hk : inRange k) (hn : inRange n) :
  Kid r (V.alloc (.cells #[.int .i64 t.k,.int .i64 t.n,.int .i64 t.m,.slice A t.kids.length c,.int .i64 u.k,.int .i64 u.n,.int .i64 u.m,.slice A2 u.kids.length c2,.int .i64 x.k,.int .i64 x.n,.int .i64 x.m,.slice A3 x.kids.length c3] 25)) (D + 1) ⟨k,n,0,[t,u,x]⟩ (some ⟨V.heap.size,0,none⟩) 3 :=
 Kid.row (ts:=[t,u,x]) (xs:=(nd t A c ++ nd u A2 c2) ++ nd x A3 c3) hr (((Reps.one h).snoc h2).snoc h3) hk hn
def apN (ts:Array TypeId) (t:TypeId) (vs:Array Value):Sem Value:=Builtin.append_ ts t vs
theorem shutApN (ts:Array TypeId) (t:TypeId) (vs:Array Value):Builtin.append_ ts t vs = apN ts t vs:=rfl
theorem apT_run {W : World} {base n c : Nat} {A : Option Addr} {xs : List Value} (t : T) (At : Option Addr) (ct : Nat) (ho : W.ownsRow base 25 4 (.slice A n c) n xs) (hb : base ≤ W.heap.size) (hn : n ≤ 1000) :
  ∃ (A':Option Addr) (c':Nat) (w':World),(apN #[23,23] 23 #[.slice A n c,.slice (some ⟨W.heap.size,0,none⟩) 1 1]).run Tryd.prog (W.alloc (.cells #[.int .i64 t.k,.int .i64 t.n,.int .i64 t.m,.slice At t.kids.length ct] 25)) = .ok (.slice A' (n + 1) c') w'∧w'.ownsRow base 25 4 (.slice A' (n + 1) c') (n + 1) (xs ++ nd t At ct)∧(W.alloc (.cells #[.int .i64 t.k,.int .i64 t.n,.int .i64 t.m,.slice At t.kids.length ct] 25)).grownBy w' (Value.slice A n c).ownBlock∧n + 1≤c':=by
 obtain ⟨i0,hi,hz0,hz1,hz2⟩:=info_parts node_info
 obtain ⟨v1,w1,happ,hown,hgrow,_⟩:=run_append_any (P:=Tryd.prog) (W.alloc (.cells #[.int .i64 t.k,.int .i64 t.n,.int .i64 t.m,.slice At t.kids.length ct] 25)) base 23 23 25 i0 _ 4 48 Tryd.underlying23 hi hz0 hz1 hz2 rfl (by omega) (.slice A n c) n xs (ho.alloc _) _ (some ⟨W.heap.size,0,none⟩) 1 1 (nd t At ct) (reads_nd W t At ct) (nd_one t At ct) (len_le (by omega)) (by omega) (by rw [size_alloc]; omega)
 obtain ⟨A',c',rfl,hc⟩:=own_len hown
 exact ⟨A',c',w1,happ,hown,hgrow,hc⟩
theorem row_snoc {r B d c : Nat} {W w4 : World} {v : Value} {ts : List T} {xs : List Value} {t : T} {A : Option Addr} {o : Obj} (hrB : r < B) (hBW : B ≤ W.heap.size) (hreps : Reps W (fun b => B ≤ b ∧ b < W.heap.size ∧ v.ownBlock ≠ some b) d ts xs) (hk : Rep W (fun b => r < b ∧ b < B) d t (nd t A c)) (hv : ∀ b, v.ownBlock = some b → B ≤ b) (hg : (W.alloc o).grownBy w4 v.ownBlock) :
  Reps w4 (fun b=>r < b∧b < w4.heap.size) d (ts ++ [t]) (xs ++ nd t A c):=by
 have hs4:=hg.size
 have hsa:(W.alloc o).heap.size = W.heap.size + 1:=size_alloc _ _
 have keep:∀ b,b < W.heap.size→v.ownBlock≠some b→w4.heap[b]? = W.heap[b]?:=fun b hb hne =>
  (hg.block b (by omega) (fun e=>hne e.symm)).trans (Below.heap_alloc W o b hb)
 refine Reps.snoc ((hreps.keep (w':=w4) fun b hb=>keep b hb.2.1 hb.2.2).mono fun b hb=>⟨by omega,by omega⟩) ((hk.keep (w':=w4) fun b hb=>keep b (by omega) fun e=>by have:=hv b e; omega).mono fun b hb=>⟨hb.1,by omega⟩)
theorem kid_keep4 {r B D c:Nat} {W w4:World} {v:Value} {t:T} {A:Option Addr} {o:Obj} (hBW:B≤W.heap.size) (hk:Rep W (fun b=>r < b∧b < B) D t (nd t A c)) (hv:∀ b,v.ownBlock = some b→B≤b) (hg:(W.alloc o).grownBy w4 v.ownBlock):Kid r w4 D t A c:=by
 have hs4:=hg.size
 have hsa:(W.alloc o).heap.size = W.heap.size + 1:=size_alloc _ _
 exact (hk.keep (w':=w4) fun b hb=>(hg.block b (by omega) (fun e=>by have:=hv b e.symm; omega)).trans (Below.heap_alloc W o b (by omega))).mono fun b hb=>⟨hb.1,by omega⟩
end Go.Proofs.YtkkenbalpnmfmaaDoor

namespace Go.Proofs.YtkkenbalpnmfmaaDoor
open Go.RowKit WM TR TY

theorem Mk.alloc {m:Par} {a:Nat} {l:Int} {w:World} (h:Mk m a l w) (o:Obj):Mk m a l (w.alloc o):=Blk.alloc h o
theorem kid_of {r d B:Nat} {V:World} {t:T} {A:Option Addr} {c:Nat} (h:Rep V (fun b=>B≤b∧b < V.heap.size) d t (nd t A c)) (hB:r < B):Kid r V d t A c:=h.mono fun b hb=>⟨by omega,hb.2⟩
theorem Kid.deep {r D D' c:Nat} {V:World} {t:T} {A:Option Addr} (h:Kid r V D t A c) (hD:D≤D'):Kid r V D' t A c:=Rep.deeper hD h
theorem EPost.fin {x : Nat} {m : Par} {s : Sc} {k : Int} {d a a' R c' : Nat} {l : Int} {w V : World} {r : Nat} {t : T} {A' : Option Addr} (hr : w.heap.size ≤ r) (hgr : m.g < w.heap.size) (hge : GE s t k) (hk : Kid r V R t A' c') (hR : R ≤ d + 1) (hm : Mk m a' (l - size t) V) (hg : w.grownBy V (some m.g)) (h1 : a ≤ a') (h2 : a' + x ≤ a + 6 * size t) (hc : size t ≤ capE d) (v0 v1 v2 v3 : Value) :
  EPost x m s k d a l w (.returned (.agg #[.int .i64 t.k,.int .i64 t.n,.int .i64 t.m,.slice A' t.kids.length c'])) ((((V.setCell ⟨r,0,none⟩ v0).setCell ⟨r,1,none⟩ v1).setCell ⟨r,2,none⟩ v2).setCell ⟨r,3,none⟩ v3):=by
 have hp:=put4_mk hm hg hr hgr v0 v1 v2 v3
 have h4:=gw4 V r v0 v1 v2 v3
 refine ⟨t,A',c',a',rfl,hge,((put4_rep hk (fun h=>by have:=h.1; omega) v0 v1 v2 v3).mono fun b hb=>?_).deeper hR,hp.1,hp.2,h1,h2,hc⟩
 rw [h4.2]; exact ⟨by omega,hb.2⟩
theorem EPost.alloc {x:Nat} {m:Par} {s:Sc} {k:Int} {d a:Nat} {l:Int} {w W:World} {e:Ending} (h:EPost x m s k d a l w e W) (o:Obj):EPost x m s k d a l w e (W.alloc o):=by
 obtain ⟨t,A',c',a',h1,h2,h3,h4,h5,h6⟩:=h
 have hs:(W.alloc o).heap.size = W.heap.size + 1:=size_alloc _ _
 exact ⟨t,A',c',a',h1,h2,(h3.keep (Keeps.below (fun b hb=>hb.2) (below_new _ _))).mono fun b hb=>⟨hb.1,by have:=hb.2; omega⟩,Blk.alloc h4 o,gw_alloc h5 o,h6⟩
theorem capE_succ {d e:Nat} (h:e + 1≤d):2 * capE e + 1≤capE d:=by
 have h1:capE (e + 1) = 2 * capE e + 1:=rfl
 have h2:=capE_mono h
 omega
theorem size_one (k n m:Int) (t:T):size ⟨k,n,m,[t]⟩ = 1 + size t:=by rw [size_eq]; simp
theorem size_two (k n m:Int) (t u:T):size ⟨k,n,m,[t,u]⟩ = 1 + (size t + size u):=by rw [size_eq]; simp
theorem size_three (k n m:Int) (t u x:T):size ⟨k,n,m,[t,u,x]⟩ = 1 + (size t + (size u + size x)):=by rw [size_eq]; simp
end Go.Proofs.YtkkenbalpnmfmaaDoor
