/- Texts joined. -/
import Derived.Test.YtkkenbalpnmfmaaDoorJ34
import Derived.Test.YtkkenbalpnmfmaaDoorJ42
import Derived.Shelf.RegionOpen
set_option linter.unusedVariables false
namespace Go.Proofs.YtkkenbalpnmfmaaDoor.TR
theorem walk_fst (p:List Int) (t:T):(walk p t).map Prod.fst = (paths t).map (p ++ ·):=by
  induction h:SizeOf.sizeOf t using Nat.strongRecOn generalizing p t with
  | ind n ih =>
    subst h
    have hj:∀ j,j≤t.kids.length→(walks p t.kids j).map Prod.fst = (rows t.kids j).map (p ++ ·):=by
      intro j
      induction j with
      | zero=>intro _; rfl
      | succ j ihj =>
        intro hj
        obtain ⟨u,hu⟩:∃ u,t.kids[j]? = some u:=⟨_,List.getElem?_eq_getElem (by omega)⟩
        rw [walks_next hu,rows_next hu,List.map_append,List.map_append,ihj (by omega),ih _ (kid_lt (List.mem_of_getElem? hu)) _ u rfl,List.map_map]
        congr 1
        apply List.map_congr_left
        intro q _
        simp
    rw [walk_walks,paths_rows,List.map_cons,List.map_cons,hj _ (Nat.le_refl _)]
    simp
theorem walk_paths (t:T):(walk [] t).map Prod.fst = paths t:=by rw [walk_fst]; simp
end Go.Proofs.YtkkenbalpnmfmaaDoor.TR
namespace Go.Proofs.YtkkenbalpnmfmaaDoor
open Go.RowKit Go.Shelf WM TR
attribute [local go_sem] Oper.semAt_some

def apTP (ats:Array TypeId) (ty:TypeId) (args:Array Value):Sem Value:=Builtin.append_ ats ty args
theorem shutA (ats:Array TypeId) (ty:TypeId) (cs:Array Bool) (args:Array Value):builtin .append ats ty cs args = (do pure (.value (← apTP ats ty args))):=rfl
attribute [local go_sem ↓ high] shutA
theorem run_apN {P : Program} (w : World) (base : Nat) (t ty e : TypeId) (i : TypeInfo) (z : Value) (size bytes : Nat) (ht : P.underlying t = some (.slice e)) (hi : P.info? e = some i) (hz : i.zero = some z)
    (hsize:i.size = size) (hby:i.bytes = bytes) (hzs:z.cells.size = size) (hsz:0 < size)
    (v:Value) (n:Nat) (xs:List Value) (hown:w.ownsRow base e size v n xs)
    (B:Nat) (A:Option Addr) (m c:Nat) (news:List Value) (hr:Reads w B size A m news) (h1:∀ u ∈ news,u.oneCell' = true)
    (h63:n + m≤maxLen) (hbytes:(n + m) * bytes≤140737488355328) (hbase:base≤w.heap.size) :
    ∃ v' w',(apTP #[t,t] ty #[v,.slice A m c]).run P w = .ok v' w'∧w'.ownsRow base e size v' (n + m) (xs ++ news)∧w.grownBy w' v.ownBlock∧(v'.ownBlock = v.ownBlock∨v'.ownBlock = some w.heap.size) :=
  run_append_any w base t ty e i z size bytes ht hi hz hsize hby hzs hsz v n xs hown B A m c news hr h1 h63 hbytes hbase

structure PI (B bs:Nat) (ps:List (List Int)) (S:Nat→Prop) (W:World) (v:Value) (xs:List Value):Prop where
  box:S B
  blk:Blk W B 41 #[v]
  own:W.ownsRow bs 22 1 v ps.length xs
  row:∀ g,v.ownBlock = some g→S g
  cells:PsC W (fun b=>S b∧bs≤b∧b < W.heap.size∧v.ownBlock≠some b) ps xs
section
variable {B bs:Nat} {ps:List (List Int)} {S S':Nat→Prop} {W W':World} {v:Value} {xs:List Value}
theorem PI.stay (h:PI B bs ps S W v xs) (hs:Stay S W W'):PI B bs ps S W' v xs :=
  ⟨h.box,hs.blk h.blk h.box,ownsRow_same h.own fun g hg=>hs.same g (h.row g hg),h.row,
   (h.cells.keep fun b hb=>hs.same b hb.1).mono fun _ hb=>⟨hb.1,hb.2.1,Nat.lt_of_lt_of_le hb.2.2.1 hs.size,hb.2.2.2⟩⟩
theorem PI.off {l:Nat} (h:PI B bs ps S W v xs) (hs:Off l W W') (hl:¬ S l):PI B bs ps S W' v xs:=h.stay (hs.stay hl)
theorem PI.next (h : PI B bs ps S W v xs) (hBs : B < bs) (hbs : bs ≤ W.heap.size) {w1 w2 : World} {v1 v2 : Value} {p : List Int} {o : Obj} (hown1 : w1.ownsRow W.heap.size 3 1 v1 p.length (vi p)) (hg1 : Below W.heap.size W w1)
    (hown2:w2.ownsRow bs 22 1 v2 (ps.length + 1) (xs ++ [v1])) (hg2:(w1.alloc o).grownBy w2 v.ownBlock) (hnew:v2.ownBlock = v.ownBlock∨v2.ownBlock = some (w1.alloc o).heap.size) :
    Mov S W (fun b=>S b∨(W.heap.size≤b∧b < w2.heap.size)) (w2.setCell ⟨B,0,none⟩ v2)∧PI B bs (ps ++ [p]) (fun b=>S b∨(W.heap.size≤b∧b < w2.heap.size)) (w2.setCell ⟨B,0,none⟩ v2) v2 (xs ++ [v1]):=by
  have hs1:=hg1.size
  have hs2:=hg2.size
  have hsa:(w1.alloc o).heap.size = w1.heap.size + 1:=size_alloc _ _
  have hsc:(w2.setCell ⟨B,0,none⟩ v2).heap.size = w2.heap.size:=by show (w2.heap.modify _ _).size = _; rw [Array.size_modify]
  have hv:=h.own.lt
  have hBv:v.ownBlock≠some B:=fun e=>by have:=(hv B e).1; omega
  have keep:∀ b,b < w1.heap.size→v.ownBlock≠some b→b≠B→(w2.setCell ⟨B,0,none⟩ v2).heap[b]? = w1.heap[b]?:=fun b hb hne hB =>
    (Below.heap_setCell w2 ⟨B,0,none⟩ v2 b hB).trans ((hg2.block b (by omega) (fun e=>hne e.symm)).trans (Below.heap_alloc w1 o b hb))
  have sort:∀ b,b < w1.heap.size→v.ownBlock≠some b→v2.ownBlock≠some b:=fun b hb hne e=>by
    rcases hnew with hn | hn
    · exact hne (hn ▸ e)
    · rw [hn] at e; have:=Option.some.inj e; omega
  have hB1:Blk w2 B 41 #[v]:=(hg2.block B (by have:=h.blk.lt; omega) (fun e=>hBv e.symm)).trans ((h.blk.below hg1 h.blk.lt).alloc o)
  have hb1:Below W.heap.size W (w1.alloc o):=ba hg1 o
  obtain ⟨A1,c1,rfl,hc1⟩:=own_len hown1
  refine ⟨⟨hg2.os.trans hb1.os,hg2.tape.trans hb1.tape,hg2.output.trans hb1.output,by omega,?_,fun b hb=>.inl hb,fun _ hb=>by rw [hsc]; exact hb⟩,⟨.inl h.box,by simpa using hB1.set_ 0 v2,?_,?_,?_⟩⟩
  · intro b hb hn
    exact (keep b (by omega) (fun e=>hn (h.row b e)) (fun e=>hn (e ▸ h.box))).trans (hg1.block b hb)
  · rw [List.length_append,List.length_singleton]
    exact ownsRow_setCell_below hown2 (by show B < bs; exact hBs) v2
  · intro g hg
    rcases hnew with hn | hn
    · exact .inl (h.row g (hn ▸ hg))
    · have hlt:=(hown2.lt g hg).2
      rw [hn] at hg
      have:=Option.some.inj hg
      exact .inr ⟨by omega,hlt⟩
  · refine PsC.snoc ?_ hc1 ?_
    · refine (h.cells.keep (w':=w2.setCell ⟨B,0,none⟩ v2) ?_).mono ?_
      · intro b hb
        exact (keep b (by omega) hb.2.2.2 (fun e=>by omega)).trans (hg1.block b hb.2.2.1)
      · intro b hb
        exact ⟨.inl hb.1,hb.2.1,by omega,sort b (by omega) hb.2.2.2⟩
    · have hne:∀ b,W.heap.size≤b→v.ownBlock≠some b:=fun b hb e=>by have:=(hv b e).2; omega
      refine Rd.mono ((Rd.of_own hown1).keep (w':=w2.setCell ⟨B,0,none⟩ v2) ?_) ?_
      · intro b hb
        exact keep b hb.2 (hne b hb.1) (fun e=>by have:=h.blk.lt; omega)
      · intro b hb
        exact ⟨.inr ⟨hb.1,by omega⟩,by omega,by omega,sort b hb.2 (hne b hb.1)⟩
theorem PI.boxed (h:PI B bs ps S W v xs) (hBs:B < bs) {w1 w2:World} {o:Obj} (hg1:Below W.heap.size W w1) (hg2:(w1.alloc o).grownBy w2 v.ownBlock):w2.cell? ⟨B,0,none⟩ = some v∧w2.frozen? ⟨B,0,none⟩ = false:=by
  have hv:=h.own.lt
  have hBv:v.ownBlock≠some B:=fun e=>by have:=(hv B e).1; omega
  have hsa:(w1.alloc o).heap.size = w1.heap.size + 1:=size_alloc _ _
  have hs1:=hg1.size
  have hB1:Blk w2 B 41 #[v]:=(hg2.block B (by have:=h.blk.lt; omega) (fun e=>hBv e.symm)).trans ((h.blk.below hg1 h.blk.lt).alloc o)
  exact ⟨hB1.cell 0,hB1.frozen 0⟩
end

set_option maxRecDepth 100000 in
set_option maxHeartbeats 4000000 in
theorem tpaths_is (d : Nat) (t : T) (S : Nat → Prop) (A : Option Addr) (c : Nat) (w : World) (h : Rep w S d t (nd t A c)) (hin : In S w.heap.size) (hs : size t ≤ 1000000) :
    Calls Tryd.prog 26 #[.agg #[.int .i64 t.k,.int .i64 t.n,.int .i64 t.m,.slice A t.kids.length c]] w (PathsPost t w):=by
  obtain ⟨i1,gi,gz0,gz1,gz2⟩:=info_parts ps_ints_info
  have hmo:Tryd.prog.follows .mixedOrders = true:=by kernel_rfl
  refine (callsIn_wide (n:=9)).1 ?_
  refine callsIn_of_wp_marks Tryd.func26 rfl trivial ?_ rfl
  simp only [Tryd.ntmps26,List.size_toArray,List.length_cons,List.length_nil,Nat.reduceAdd,Nat.reduceSub,Array.replicate_succ,Array.replicate_zero,List.push_toArray,List.append_toArray,List.nil_append,List.cons_append]
  refine wpIn_wide.2 ?_
  go_wp2_with (go_at_call 49; refine (places_is _ _ _ _ _ _ _).mono ?_; rintro e w3 ⟨rfl,hw3⟩)
  obtain ⟨W2,hW2⟩:∃ W2,W2 = (w.alloc (.cells #[.int .i64 t.k,.int .i64 t.n,.int .i64 t.m,.slice A t.kids.length c] 25)).alloc (.cells #[.slice none 0 0] 41):=⟨_,rfl⟩
  rw [← hW2]
  rw [← hW2] at hw3
  have hz2:W2.heap.size = w.heap.size + 2:=by rw [hW2,size_alloc,size_alloc]
  have hb2:Below w.heap.size w W2:=by rw [hW2]; exact ba (below_new _ _) _
  have hbk:Blk W2 (w.heap.size + 1) 41 #[.slice none 0 0]:=by rw [hW2]; exact Blk.new_at _ _ (by rw [size_alloc]) rfl
  have hz3:w3.heap.size = w.heap.size + 3:=by rw [hw3,size_alloc,hz2]
  have hb3:Below w.heap.size w w3:=by rw [hw3]; exact ba hb2 _
  have hseq:=iter_is (9 - 1) d (w.heap.size + 2) t A c S w3 (h.later hin hb3) (by rw [hw3]; exact Blk.new_at _ _ hz2.symm rfl) (hin.more hb3.size) hs
  have hbk3:Blk w3 (w.heap.size + 1) 41 #[.slice none 0 0]:=by rw [hw3]; exact hbk.alloc _
  rw [← hw3]
  clear hbk
  have hdt:=depth_le_size t
  refine (wpIn_wide (n:=9)).1 ?_
  refine wpIn_range_T (w:=w3) rfl (by omega) (gf:=71) (lb:=#[.pointer (some ⟨w.heap.size + 2,0,none⟩)]) rfl trivial (enters_of Tryd.func71 (by kernel_rfl) rfl) hseq (Below.refl _ _) (fun x vs S W hx=>hx.size2)
    (fun b hb=>hb.elim (fun h=>hin.more hb3.size b h) (fun h=>by omega))
    (fun pre S W=>∃ v xs,PI (w.heap.size + 1) (w.heap.size + 2) (pre.map Prod.fst) S W v xs) (fun _ _ _ _=>False)
    (fun pre S W W' hI hst=>by obtain ⟨v,xs,h⟩:=hI; exact ⟨v,xs,h.stay hst⟩) (fun _ _ _ _ _ h _=>h)
    (fun b=>b = w.heap.size + 1) (fun b hb=>⟨by omega,fun h=>h.elim (fun h=>by have:=hin b h; omega) (fun h=>by omega)⟩)
    ⟨.slice none 0 0,[],rfl,hbk3,World.ownsRow_nil _ _ _ _,fun g hg=>(by cases hg),⟨rfl,fun i p hp=>(by simp at hp)⟩⟩ ?round ?done ?stop
  case round =>
    rintro pre ⟨p,u⟩ vs S W ⟨v,xs,hP⟩ hpre ⟨A1,c1,B1,d1,k1,rfl,hc1,hr1,_⟩ hm hlt hn1 hn2
    have hpl:p.length≤1000000:=by
      have hmem:(p,u) ∈ walk [] t:=hpre.subset (by simp)
      have hp2:p ∈ paths t:=by rw [← walk_paths]; exact List.mem_map.2 ⟨_,hmem,rfl⟩
      have:=path_le t p hp2
      omega
    have hlen:pre.length + 1≤1000000:=by
      have:=hpre.length_le
      rw [walk_length,List.length_append,List.length_singleton] at this
      omega
    have HZ3:=Lib.hid hz3
    clear hseq hz3 hz2 hW2 hw3
    rw [zip2]
    gi_wp2
    refine ⟨S,Mov.refl _ _,fun W4 hoff=>?_⟩
    have hz3:=HZ3.out
    have hP4:=hP.off hoff hn2
    have hz4:=hoff.size
    have hr4:Rd W4 (fun b=>b < W.heap.size∧¬ With S w3.heap.size b) 1 A1 p.length (vi p):=hr1.keep fun b hb=>hoff.same b (fun e=>hb.2 (e ▸ .inr (.inr rfl)))
    have hin4:In (fun b=>b < W.heap.size∧¬ With S w3.heap.size b) W4.heap.size:=fun b hb=>by have:=hb.1; omega
    obtain ⟨ps,hps⟩:∃ ps,ps = pre.map Prod.fst:=⟨_,rfl⟩
    rw [← hps] at hP4
    have HPS:Hid ((pre ++ [(p,u)]).map Prod.fst = ps ++ [p]):=Lib.hid (by rw [List.map_append,hps]; rfl)
    have hc4:=hP4.blk.cell 0
    have HP4:=Lib.hid hP4
    have hr4d:Rd W4.drew (fun b=>b < W.heap.size∧¬ With S w3.heap.size b) 1 A1 p.length (vi p):=hr4
    have HR4:=Lib.hid hr4d
    clear hr4d
    have HI4:=Lib.hid hin4
    have HW4:Hid (w.heap.size + 2≤W4.heap.size):=Lib.hid (by omega)
    have HPL:Hid (ps.length + 1≤1000000):=Lib.hid (by rw [hps,List.length_map]; exact hlen)
    have HMM:=Lib.hid hm
    have HOF:=Lib.hid hoff
    clear hP hr1 hr4 hin4 hP4 hm hoff h hz3 hps
    gi_wp2
    gi_region_with_o (refine ⟨trivial,?_⟩; gi_at_call 59; refine (CallsIn.inRound _ (callsIn_wide.2 (cloneInts_is p _ A1 c1 W4.drew HR4.out HI4.out hpl))).mono ?_; rintro e w5 ⟨A5,c5,rfl,hcap5,hown5,hb5'⟩; have hb5:Below W4.heap.size W4 w5:=⟨hb5'.os,hb5'.tape,hb5'.output,hb5'.size,hb5'.block⟩; have hsa5:=size_alloc w5 (.cells #[.slice A5 p.length c5] 22); obtain ⟨v6,w6,hrun6,hown6,hg6,hn6⟩:=run_apN (P:=Tryd.prog) (w5.alloc (.cells #[.slice A5 p.length c5] 22)) (w.heap.size + 2) 41 41 22 i1 _ 1 24 Tryd.underlying41 gi gz0 gz1 gz2 rfl (by omega) v _ xs (ownsRow_below (ownsRow_below HP4.out.own hb5) (below_new _ _)) _ (some ⟨w5.heap.size,0,none⟩) 1 1 [.slice A5 p.length c5] (ps_reads w5 _) (by simp [Value.oneCell']) (len_le (by have:=HPL.out; omega)) (by have:=HPL.out; omega) (by have:=HW4.out; have:W4.heap.size≤w5.heap.size:=hb5.size; omega); obtain ⟨hc6,hf6⟩:=HP4.out.boxed (by omega) hb5 hg6; obtain ⟨A6,c6,rfl,hcap6⟩:=own_len hown6; have hc5:=(hb5.cell (p:=⟨w.heap.size + 1,0,none⟩) (by have:=HW4.out; show w.heap.size + 1 < W4.heap.size; omega)).trans hc4; have hc5a:=((below_new w5 (.cells #[.slice A5 p.length c5] 22)).cell (p:=⟨w.heap.size + 1,0,none⟩) (by have:=HW4.out; have:W4.heap.size≤w5.heap.size:=hb5.size; show w.heap.size + 1 < w5.heap.size; omega)).trans hc5)
    all_goals
      have hnx:=HP4.out.next (by omega) HW4.out hown5 hb5 hown6 hg6 hn6
      gi_wp2
      exact ⟨_,hnx.1,_,_,by rw [HPS.out]; exact hnx.2⟩
  case done =>
    rintro S1 W hm hnD ⟨v,xs,hP⟩ hD
    rw [walk_paths] at hP
    have hc:=hP.blk.cell 0
    obtain ⟨A9,c9,hv,hcap⟩:=own_len hP.own
    rw [paths_length] at hv hcap
    subst hv
    have HE:=Lib.hid (hm.ends hb3 (fun b hb=>by omega) (.deferred none))
    have hS1:∀ b,S1 b→w.heap.size≤b∧b < W.heap.size:=fun b hb=>(hm.new b hb).elim (fun h=>by subst h; have:=hm.size; omega) (fun h=>⟨by omega,h.2⟩)
    have HS1:=Lib.hid hS1
    have HP:=Lib.hid hP
    clear hseq hm hP hS1
    go_wp2
    refine ⟨by simp,.inl ⟨_,_,rfl,run_takeDeferred hD,?_⟩⟩
    have hps:=HP.out.stay (W':=W.putObj w3.heap.size (.deferred none)) ((Off.putObj W w3.heap.size _).stay hnD)
    refine ⟨_,results_tmp rfl _ _ _,A9,c9,rfl,hcap,⟨xs,?_,?_⟩,HE.out⟩
    · have h:=hps.own
      rw [paths_length] at h ⊢
      exact (Rd.of_own h).mono fun b hb=>⟨by omega,hb.2⟩
    · refine (hps.cells.mono fun b hb=>⟨?_,?_⟩).2
      · exact (HS1.out b hb.1).1
      · exact hb.2.2.1
  case stop =>
    rintro c pre S W hm _ hp h
    exact h.elim
end Go.Proofs.YtkkenbalpnmfmaaDoor
