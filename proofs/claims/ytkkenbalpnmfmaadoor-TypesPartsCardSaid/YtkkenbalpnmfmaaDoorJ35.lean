/- Texts joined. -/
import Derived.Test.YtkkenbalpnmfmaaDoorJ30
import Derived.Test.YtkkenbalpnmfmaaDoorJ34
set_option linter.unusedVariables false
namespace Go.Proofs.YtkkenbalpnmfmaaDoor.TR
theorem walk_fit (p:List Int) (t:T):(∀ x ∈ walk p t,Fits x.2)↔Fit t:=by
 induction h:SizeOf.sizeOf t using Nat.strongRecOn generalizing p t with
 | ind n ih =>
  subst h
  rw [fit_iff,walk_eq]
  constructor
  ·intro h
   refine ⟨h (p,t) (List.mem_cons_self ..),fun u hu=>?_⟩
   obtain ⟨i,hi⟩:=List.mem_iff_getElem?.1 hu
   refine (ih _ (kid_lt hu) (p ++ [(i:Int)]) u rfl).1 fun x hx=>h x (List.mem_cons_of_mem _ (List.mem_flatten.2 ⟨_,?_,hx⟩))
   refine List.mem_iff_getElem?.2 ⟨i,?_⟩
   rw [List.getElem?_mapIdx,hi]; rfl
  ·rintro ⟨h1,h2⟩ x hx
   rcases List.mem_cons.1 hx with rfl | hx
   ·exact h1
   ·obtain ⟨l,hl,hxl⟩:=List.mem_flatten.1 hx
    obtain ⟨i,hi⟩:=List.mem_iff_getElem?.1 hl
    rw [List.getElem?_mapIdx] at hi
    cases hu:t.kids[i]? with
    | none=>rw [hu] at hi; cases hi
    | some u =>
     rw [hu] at hi
     obtain rfl:=Option.some.inj hi
     exact (ih _ (kid_lt (List.mem_of_getElem? hu)) (p ++ [(i:Int)]) u rfl).2 (h2 u (List.mem_of_getElem? hu)) x hxl
end Go.Proofs.YtkkenbalpnmfmaaDoor.TR
namespace Go.Proofs.YtkkenbalpnmfmaaDoor
open Go.RowKit Go.Shelf WM TR
attribute [local go_sem] Oper.semAt_some

def OkAt (x:List Int × T):Prop:=x.1.length < 16∧Fits x.2
theorem deepest_iff (m:Nat):∀ (l:List (List Int × T)) (a:Nat),deepest a l≤m↔a≤m∧∀ x ∈ l,x.1.length < m
 | [],a=>by simp [deepest]
 | x :: l,a=>by
  have h:deepest a (x :: l) = deepest (max a (1 + x.1.length)) l:=rfl
  rw [h,deepest_iff m l]
  simp only [List.mem_cons,forall_eq_or_imp]
  constructor
  ·rintro ⟨h1,h2⟩; exact ⟨by omega,by omega,h2⟩
  ·rintro ⟨h1,h2,h3⟩; exact ⟨by omega,h3⟩
theorem good_iff (t:T):(size t≤256∧depth t≤16∧Fit t)↔(walk [] t).length≤256∧∀ x ∈ walk [] t,OkAt x:=by
 rw [walk_length,← walk_fit []]
 have h:depth t≤16↔∀ x ∈ walk [] t,x.1.length < 16:=by
  have h1:=deepest_iff 16 (walk [] t) 0
  rw [deepest_walk] at h1
  simp only [List.length_nil] at h1
  constructor
  ·intro h; exact (h1.1 (by omega)).2
  ·intro h; have:=h1.2 ⟨by omega,h⟩; omega
 rw [h]
 refine and_congr_right fun _=>⟨fun h x hx=>⟨h.1 x hx,h.2 x hx⟩,fun h=>⟨fun x hx=>(h x hx).1,fun x hx=>(h x hx).2⟩⟩
theorem ST.of_block {w w':World} (h:ST w) (hb:w'.heap[0]? = w.heap[0]?):ST w':=fun t r hr i x hx=>(World.cell?_of_block hb).trans (h t r hr i x hx)

structure VI (rb sb:Nat) (S:Nat→Prop) (W:World) (n:Nat):Prop where
 r:S rb
 s:S sb
 rb:Blk W rb 4 #[.bool false]
 sb:Blk W sb 3 #[.int .i64 (n:Int)]
theorem VI.stay {rb sb:Nat} {S:Nat→Prop} {W W':World} {n:Nat} (h:VI rb sb S W n) (hs:Stay S W W'):VI rb sb S W' n:=⟨h.r,h.s,hs.blk h.rb h.r,hs.blk h.sb h.s⟩

set_option maxRecDepth 100000 in
set_option maxHeartbeats 4000000 in
theorem tvalid_no (t : T) (A : Option Addr) (c : Nat) (w : World) (hT : ST w) (hg : 0 < w.heap.size) (hk : sf t.k 0 ≠ 64) :
  Calls Tryd.prog 18 #[.agg #[.int .i64 t.k,.int .i64 t.n,.int .i64 t.m,.slice A t.kids.length c]] w fun e w'=>e = .returned (.bool false)∧Below w.heap.size w w':=by
 obtain ⟨W2,hW2⟩:∃ W2,W2 = (w.alloc (.cells #[.int .i64 t.k,.int .i64 t.n,.int .i64 t.m,.slice A t.kids.length c] 25)).alloc (.cells #[.bool false] 4):=⟨_,rfl⟩
 have HO:Hid (Blk W2 (w.heap.size + 1) 4 #[.bool false]):=Lib.hid (by rw [hW2]; exact blk_new2 _ _ _ _)
 have HB:Hid (Below w.heap.size w W2):=Lib.hid (by rw [hW2]; exact ba (below_new _ _) _)
 have HC:=Lib.hid (shapeOf_is t.k W2 (hT.below HB.out hg) (Nat.lt_of_lt_of_le hg HB.out.size))
 have HW2:=Lib.hid hW2
 obtain ⟨q0,hq0⟩:∃ x,x = sf t.k 0:=⟨_,rfl⟩
 obtain ⟨z1,z2,z3,z4,z5,z6,z7,hz⟩:∃ z1 z2 z3 z4 z5 z6 z7,(rowV (shRow t.k)).toArray = #[.int .u8 q0,z1,z2,z3,z4,z5,z6,z7]:=by rw [row_vals,← hq0]; exact ⟨_,_,_,_,_,_,_,rfl⟩
 have HZ:=Lib.hid hz
 have hfl:∀ W:World,(Instr.field 68 (.agg #[.int .u8 q0,z1,z2,z3,z4,z5,z6,z7]) 0).run Tryd.prog W = .ok (.int .u8 q0) W:=fun W=>by kernel_rfl
 have hne:(q0 != 64) = true:=by rw [hq0]; simpa using hk
 clear hW2 hT hz hq0 hk
 go_enter Tryd.func18,Tryd.ntmps18
 go_wp2_with (go_at_call 48; rw [← HW2.out]; refine HC.out.mono ?_; rintro e w3 ⟨rfl,hb3⟩; rw [HZ.out]; have hO3:=HO.out.below hb3 HO.out.lt; have hc3:=hO3.cell 0; have hf3:=hO3.frozen 0)
 have hR:=hO3.set_ 0 (.bool false)
 simp only [List.setIfInBounds_toArray,List.set_cons_zero] at hR
 have r0:=hR.cell 0
 simp only [List.getElem?_toArray,List.getElem?_cons_zero] at r0
 refine bodyPost_ret (v:=.bool false) (by simp [results,Tryd.results18,go_sem,r0]) rfl ⟨rfl,(bt HB.out hb3).setCell (Nat.le_succ _) _⟩

set_option maxRecDepth 100000 in
set_option maxHeartbeats 8000000 in
theorem tvalid_is (d : Nat) (t : T) (S : Nat → Prop) (A : Option Addr) (c : Nat) (w : World) (h : Rep w S d t (nd t A c)) (hin : In S w.heap.size) (hs : size t ≤ 1000000) (hT : ST w) (hg : 0 < w.heap.size) :
  Calls Tryd.prog 18 #[.agg #[.int .i64 t.k,.int .i64 t.n,.int .i64 t.m,.slice A t.kids.length c]] w fun e w'=>e = .returned (.bool (isProg t))∧Below w.heap.size w w':=by
 by_cases hk:sf t.k 0≠64
 ·rw [isProg_false (fun h=>hk ((prog_iff t).1 h).1)]
  exact tvalid_no t A c w hT hg hk
 have hk64:sf t.k 0 = 64:=by omega
 have HPI:Hid (IsProg t↔(walk [] t).length≤256∧∀ x ∈ walk [] t,OkAt x):=Lib.hid (by
  rw [prog_iff,← good_iff]
  exact ⟨fun h=>h.2,fun h=>⟨hk64,h⟩⟩)
 obtain ⟨W2,hW2⟩:∃ W2,W2 = (w.alloc (.cells #[.int .i64 t.k,.int .i64 t.n,.int .i64 t.m,.slice A t.kids.length c] 25)).alloc (.cells #[.bool false] 4):=⟨_,rfl⟩
 have HO:Hid (Blk W2 (w.heap.size + 1) 4 #[.bool false]):=Lib.hid (by rw [hW2]; exact blk_new2 _ _ _ _)
 have HX:Hid (Blk W2 w.heap.size 25 #[.int .i64 t.k,.int .i64 t.n,.int .i64 t.m,.slice A t.kids.length c]):=Lib.hid (by rw [hW2]; exact blk_new3 _ _ _ _)
 have HB:Hid (Below w.heap.size w W2):=Lib.hid (by rw [hW2]; exact ba (below_new _ _) _)
 have HC:=Lib.hid (shapeOf_is t.k W2 (hT.below HB.out hg) (Nat.lt_of_lt_of_le hg HB.out.size))
 have HZ2:Hid (W2.heap.size = w.heap.size + 2):=Lib.hid (by rw [hW2,size_alloc,size_alloc])
 have HW2:=Lib.hid hW2
 obtain ⟨z1,z2,z3,z4,z5,z6,z7,hz⟩:∃ z1 z2 z3 z4 z5 z6 z7,(rowV (shRow t.k)).toArray = #[.int .u8 64,z1,z2,z3,z4,z5,z6,z7]:=by rw [row_vals,hk64]; exact ⟨_,_,_,_,_,_,_,rfl⟩
 have HZ:=Lib.hid hz
 have hfl:∀ W:World,(Instr.field 68 (.agg #[.int .u8 64,z1,z2,z3,z4,z5,z6,z7]) 0).run Tryd.prog W = .ok (.int .u8 64) W:=fun W=>by kernel_rfl
 have HT:=Lib.hid hT
 have HG:=Lib.hid hg
 have HR:=Lib.hid h
 have HI:=Lib.hid hin
 clear hW2 hz hk hk64 hT h hin hg
 refine (callsIn_wide (n:=9)).1 ?_
 refine callsIn_of_wp_marks Tryd.func18 rfl trivial ?_ rfl
 simp only [Tryd.ntmps18,List.size_toArray,List.length_cons,List.length_nil,Nat.reduceAdd,Nat.reduceSub,Array.replicate_succ,Array.replicate_zero,List.push_toArray,List.append_toArray,List.nil_append,List.cons_append]
 refine wpIn_wide.2 ?_
 go_wp2_with (first
  | (go_at_call 48; rw [← HW2.out]; refine HC.out.mono ?_; rintro e v2 ⟨rfl,hb3⟩; rw [HZ.out]; have HBV:=Lib.hid hb3; have hx2:=HX.out.below hb3 HX.out.lt; have HX2:=Lib.hid hx2; have HO2:=Lib.hid (HO.out.below hb3 HO.out.lt); have HL2:=Lib.hid hx2.lt; have k0:=hx2.cell 0; have k1:=hx2.cell 1; have k2:=hx2.cell 2; have k3:=hx2.cell 3; simp only [List.getElem?_toArray,List.getElem?_cons_zero,List.getElem?_cons_succ] at k0 k1 k2 k3; have hltx:=hx2.lt; clear hb3 hx2)
  | (go_at_call 49; refine (places_is _ _ _ _ _ _ _).mono ?_; rintro e w3 ⟨rfl,hw3⟩))
 obtain ⟨sb,hsb⟩:∃ b,b = v2.heap.size:=⟨_,rfl⟩
 obtain ⟨rb,hrb⟩:∃ b,b = w.heap.size + 1:=⟨_,rfl⟩
 obtain ⟨V3,hV3⟩:∃ V3,V3 = v2.alloc (.cells #[.int .i64 0] 3):=⟨_,rfl⟩
 rw [← hV3] at hw3
 have hzV:V3.heap.size = sb + 1:=by rw [hV3,size_alloc,hsb]
 have hz3:w3.heap.size = sb + 2:=by rw [hw3,size_alloc,hzV]
 have hrs:rb < sb:=by have:=HO2.out.lt; omega
 have hbw:Below w.heap.size w w3:=by rw [hw3,hV3]; exact ba (ba (bt HB.out HBV.out) _) _
 have hbk3:Blk w3 sb 3 #[.int .i64 ((0:Nat):Int)]:=by rw [hw3,hV3,hsb]; exact (Blk.new _ _ _).alloc _
 have hrb3:Blk w3 rb 4 #[.bool false]:=by rw [hw3,hV3,hrb]; exact (HO2.out.alloc _).alloc _
 have hin:=HI.out
 have hseq:=iter_is (9 - 1) d (sb + 1) t A c S w3 (HR.out.later hin hbw) (by rw [hw3]; exact Blk.new_at _ _ hzV.symm rfl) (hin.more hbw.size) hs
 have HT3:Hid (ST w3):=Lib.hid (HT.out.below hbw HG.out)
 rw [← hV3,← hw3,← hsb,← hrb]
 have HBW:=Lib.hid hbw
 have HRB:=Lib.hid hrb
 have HRS:=Lib.hid hrs
 have hrw:w.heap.size < rb:=by omega
 have hZ3:=Lib.hid hz3
 have hsb3:sb < w3.heap.size:=by omega
 clear k0 k1 k2 k3 hrb hsb hV3 hw3 hzV HW2
 refine (wpIn_wide (n:=9)).1 ?_
 refine wpIn_range_T (w:=w3) rfl (by omega) (gf:=71) (lb:=#[.pointer (some ⟨sb + 1,0,none⟩)]) rfl trivial (enters_of Tryd.func71 (by kernel_rfl) rfl) hseq (Below.refl _ _) (fun x vs S W hx=>hx.size2)
  (fun b hb=>hb.elim (fun h=>hin.more hbw.size b h) (fun h=>by omega))
  (fun pre S W=>VI rb sb S W pre.length∧pre.length≤256∧∀ x ∈ pre,OkAt x) (fun cd pre S W=>cd = .ret∧S rb∧Blk W rb 4 #[.bool false]∧¬ IsProg t)
  (fun pre S W W' hI hst=>⟨hI.1.stay hst,hI.2⟩) (fun cd pre S W W' hI hst=>⟨hI.1,hI.2.1,hst.blk hI.2.2.1 hI.2.1,hI.2.2.2⟩)
  (fun b=>b = rb∨b = sb) (fun b hb=>⟨by rcases hb with h | h <;> omega,fun h=>h.elim (fun h=>by have:=hin b h; rcases hb with h | h <;> omega) (fun h=>by rcases hb with h | h <;> omega)⟩) ⟨⟨.inl rfl,.inr rfl,hrb3,hbk3⟩,by simp,fun x hx=>(by cases hx)⟩ ?round ?done ?stop
 all_goals clear hseq hz3 hbk3 hrb3
 case round =>
  rintro pre ⟨p,u⟩ vs S1 W ⟨hV,hpl,hok⟩ hpre ⟨A1,c1,B1,d1,k1,rfl,hc1,hr1,hru⟩ hm hlt hn1 hn2
  have hlen:=hpre.length_le
  have hmem:(p,u) ∈ walk [] t:=hpre.subset (by simp)
  rw [List.length_append,List.length_singleton] at hlen
  have hsu:size u≤1000000:=by
   have h1:=walk_size [] t (p,u) hmem
   simp only at h1
   omega
  obtain ⟨N,hN⟩:∃ N,pre.length = N:=⟨_,rfl⟩
  obtain ⟨y,hy⟩:∃ y,p.length = y:=⟨_,rfl⟩
  obtain ⟨f,hf⟩:∃ f,fitsB u = f:=⟨_,rfl⟩
  have HBAD:Hid (256 < N + 1∨16≤y∨f = false→¬ IsProg t):=Lib.hid (fun hb hp=>by
   have h:=HPI.out.1 hp
   have h2:=h.2 _ hmem
   rcases hb with hb | hb | hb
   ·have:=h.1; omega
   ·have:=h2.1; simp only at this; omega
   ·have h3:=fitsB_true h2.2
    simp only at h3
    rw [hf,hb] at h3; cases h3)
  have HGOOD:Hid (N + 1≤256→y < 16→f = true→(pre ++ [(p,u)]).length≤256∧∀ x ∈ pre ++ [(p,u)],OkAt x):=Lib.hid (fun h1 h2 h3=>⟨by rw [List.length_append,List.length_singleton]; omega,fun x hx=>by
   rcases List.mem_append.1 hx with hx | hx
   ·exact hok x hx
   ·rw [List.mem_singleton.1 hx]
    exact ⟨by simp only; omega,fitsB_iff.1 (by rw [hf]; exact h3)⟩⟩)
  have HPL:Hid ((pre ++ [(p,u)]).length = N + 1):=Lib.hid (by rw [List.length_append,List.length_singleton,hN])
  have hN2:N≤1000000:=by rw [walk_length] at hlen; omega
  have hy2:y≤1000000:=by
   have h1:∀ x ∈ walk [] t,x.1.length < depth t + 0:=by
    have h2:=(deepest_iff (depth t) (walk [] t) 0).1 (by rw [deepest_walk]; simp)
    simpa using h2.2
   have h3:=h1 _ hmem
   have h4:=depth_le_size t
   simp only at h3
   omega
  rw [zip2]
  simp only [hy]
  gi_wp2
  refine ⟨S1,Mov.of_below (below_new _ _),fun W2 hoff=>?_⟩
  have hSlt:∀ b,S1 b→b < W.heap.size:=hm.in_ (fun b hb=>by rcases hb with h | h <;> omega)
  have hz2:=hoff.size
  rw [size_alloc] at hz2
  obtain ⟨nb,hnb⟩:∃ nb,nb = W.heap.size:=⟨_,rfl⟩
  have hV1:VI rb sb S1 (W.alloc (.cells #[.int .i64 u.k,.int .i64 u.n,.int .i64 u.m,.slice B1 u.kids.length d1] 25)) N:=by
   rw [← hN]
   exact hV.stay ⟨rfl,rfl,rfl,(below_new W _).size,fun b hb=>(below_new W _).block b (hSlt b hb)⟩
  have hV2:=hV1.stay (hoff.stay hn2)
  have hX2:Blk W2 nb 25 #[.int .i64 u.k,.int .i64 u.n,.int .i64 u.m,.slice B1 u.kids.length d1]:=hoff.blk (by rw [hnb]; exact Blk.new _ _ _) (by omega)
  have hgw:0 < w.heap.size:=HG.out
  have hws:=HBW.out.size
  have hmz:=hm.size
  have hT2:ST W2:=HT3.out.of_block ((hoff.same _ (by omega)).trans (((below_new W _).block _ (by omega)).trans (hm.same _ (by omega) (fun h=>by rcases h with h | h <;> omega))))
  have hru2:Rep W2 (fun b=>b < W.heap.size∧¬ With S1 w3.heap.size b) k1 u (nd u B1 d1):=hru.keep fun b hb=>(hoff.same b (fun e=>hb.2 (e ▸ .inr (.inr rfl)))).trans ((below_new W _).block b hb.1)
  have hsS:S1 sb:=hV.s
  have hrS:S1 rb:=hV.r
  have hsl:=hSlt sb hsS
  have hrl:=hSlt rb hrS
  obtain ⟨W4,hW4⟩:∃ W4,W4 = W2.setCell ⟨sb,0,none⟩ (.int .i64 ((N:Int) + 1)):=⟨_,rfl⟩
  have hm4:Mov S1 W2 S1 W4:=by rw [hW4]; exact Mov.setCell _ _ _ hsS
  have hz4:W4.heap.size = W2.heap.size:=by rw [hW4]; exact World.size_setCell _ _ _
  have hSB4:Blk W4 sb 3 #[.int .i64 (((N + 1:Nat)):Int)]:=by
   have:=hV2.sb.set_ 0 (.int .i64 ((N:Int) + 1))
   rw [hW4]
   simpa using this
  have hRB4:Blk W4 rb 4 #[.bool false]:=by rw [hW4]; exact hV2.rb.far (by show rb≠sb; omega) _
  have hX4:Blk W4 nb 25 #[.int .i64 u.k,.int .i64 u.n,.int .i64 u.m,.slice B1 u.kids.length d1]:=by rw [hW4]; exact hX2.far (by show nb≠sb; omega) _
  have hT4:ST W4:=hT2.of_block (by rw [hW4]; exact Below.heap_setCell W2 ⟨sb,0,none⟩ _ _ (by show _≠sb; omega))
  have hru4:Rep W4 (fun b=>b < W.heap.size∧¬ With S1 w3.heap.size b) k1 u (nd u B1 d1):=hru2.keep fun b hb=>by rw [hW4]; exact Below.heap_setCell W2 ⟨sb,0,none⟩ _ _ (fun e=>hb.2 (.inl (by rw [e]; exact hsS)))
  have HFC:Hid (Calls Tryd.prog 50 #[.agg #[.int .i64 u.k,.int .i64 u.n,.int .i64 u.m,.slice B1 u.kids.length d1]] W4 fun e w'=>e = .returned (.bool f)∧Below W4.heap.size W4 w'):=Lib.hid (by
   rw [← hf]
   exact fits_is k1 u _ B1 d1 W4 hru4 (fun b hb=>by have:=hb.1; omega) hsu hT4 (by omega))
  have HM4:=Lib.hid hm4
  have HSB4:=Lib.hid hSB4
  have HRB4:=Lib.hid hRB4
  have HRS1:=Lib.hid hrS
  have HSS1:=Lib.hid hsS
  have HSL:Hid (∀ b,S1 b→b < W4.heap.size):=Lib.hid (fun b hb=>by have:=hSlt b hb; omega)
  have HW4:=Lib.hid hW4
  have sc:=hV2.sb.cell 0; have sf0:=hV2.sb.frozen 0
  have s4:=hSB4.cell 0
  have r4:=hRB4.cell 0; have rf4:=hRB4.frozen 0
  have x0:=hX4.cell 0; have x1:=hX4.cell 1; have x2:=hX4.cell 2; have x3:=hX4.cell 3
  simp only [List.getElem?_toArray,List.getElem?_cons_zero,List.getElem?_cons_succ] at sc s4 r4 x0 x1 x2 x3
  rw [hW4] at s4 r4 rf4 x0 x1 x2 x3
  rw [← hnb]
  clear hlen hmem hok hpre hN hV hV1 hV2 hX2 hT2 hru hru2 hm4 hz4 hSB4 hRB4 hX4 hT4 hru4 hW4 hoff hm hz2 hgw hws hmz hpl hSlt hnb hr1 hc1 hf
  by_cases c1:256 < N + 1
  ·have d1':decide ((256:Int) < (N:Int) + 1) = true:=by simp; omega
   have HNO:Hid (¬ IsProg t):=Lib.hid (HBAD.out (.inl c1))
   gi_wp2_with (refine ⟨trivial,?_⟩)
   rw [← HW4.out]
   exact ⟨S1,HM4.out.trans (Mov.setCell _ _ _ HRS1.out),rfl,HRS1.out,by simpa using HRB4.out.set_ 0 (.bool false),HNO.out⟩
  ·have d1':decide ((256:Int) < (N:Int) + 1) = false:=by simp; omega
   by_cases c2:16≤y
   ·have d2':decide ((16:Int)≤(y:Int)) = true:=by simp; omega
    have HNO:Hid (¬ IsProg t):=Lib.hid (HBAD.out (.inr (.inl c2)))
    gi_wp2_with (refine ⟨trivial,?_⟩)
    rw [← HW4.out]
    exact ⟨S1,HM4.out.trans (Mov.setCell _ _ _ HRS1.out),rfl,HRS1.out,by simpa using HRB4.out.set_ 0 (.bool false),HNO.out⟩
   ·have d2':decide ((16:Int)≤(y:Int)) = false:=by simp; omega
    cases f with
    | false =>
     have HNO:Hid (¬ IsProg t):=Lib.hid (HBAD.out (.inr (.inr rfl)))
     gi_wp2_with (refine ⟨trivial,?_⟩; gi_at_call 50; rw [← HW4.out]; refine (CallsIn.inRound _ (callsIn_wide.2 HFC.out)).mono ?_; rintro e w6 ⟨rfl,hb6⟩; have HB6:=Lib.hid hb6; have hR6:=HRB4.out.below hb6 HRB4.out.lt; have HR6:=Lib.hid hR6; have r6:=hR6.cell 0; have rf6:=hR6.frozen 0; simp only [List.getElem?_toArray,List.getElem?_cons_zero] at r6; clear hb6 hR6)
     exact ⟨S1,(HM4.out.trans (Mov.of_below HB6.out)).trans (Mov.setCell _ _ _ HRS1.out),rfl,HRS1.out,by simpa using HR6.out.set_ 0 (.bool false),HNO.out⟩
    | true =>
     gi_wp2_with (refine ⟨trivial,?_⟩; gi_at_call 50; rw [← HW4.out]; refine (CallsIn.inRound _ (callsIn_wide.2 HFC.out)).mono ?_; rintro e w6 ⟨rfl,hb6⟩; have HB6:=Lib.hid hb6; clear hb6)
     have hgd:=HGOOD.out (by omega) (by omega) (by first | trivial | rfl)
     refine ⟨S1,HM4.out.trans (Mov.of_below HB6.out),?_,hgd.1,fun a b hab=>hgd.2 (a,b) hab⟩
     rw [HPL.out]
     exact ⟨HRS1.out,HSS1.out,HRB4.out.below HB6.out HRB4.out.lt,HSB4.out.below HB6.out HSB4.out.lt⟩
 case done =>
  rintro S1 W hm hnD ⟨hV,hpl,hok⟩ hD
  have HP:Hid (isProg t = true):=Lib.hid (isProg_true (HPI.out.2 ⟨hpl,hok⟩))
  have hc:=hV.rb.cell 0
  have hfz:=hV.rb.frozen 0
  have HD2:Hid ((W.setCell ⟨rb,0,none⟩ (.bool true)).heap[w3.heap.size]? = some (.deferred (some []))):=Lib.hid ((Below.heap_setCell W ⟨rb,0,none⟩ _ _ (by show w3.heap.size≠rb; omega)).trans hD)
  have hR:=hV.rb.set_ 0 (.bool true)
  simp only [List.setIfInBounds_toArray,List.set_cons_zero] at hR
  have HRR:=Lib.hid hR
  have HMM:Hid (Mov (fun b=>b = rb∨b = sb) w3 S1 (W.setCell ⟨rb,0,none⟩ (.bool true))):=Lib.hid (hm.trans (Mov.setCell _ _ _ hV.r))
  simp only [List.getElem?_toArray,List.getElem?_cons_zero] at hc
  clear hR hV hm hok
  go_wp2
  refine ⟨by simp,.inl ⟨_,_,rfl,run_takeDeferred HD2.out,?_⟩⟩
  have r0:=(Off.blk (Off.putObj (W.setCell ⟨rb,0,none⟩ (.bool true)) w3.heap.size (.deferred none)) HRR.out (by omega)).cell 0
  simp only [List.getElem?_toArray,List.getElem?_cons_zero] at r0
  exact ⟨.bool true,by simp [results,Tryd.results18,go_sem,r0],by rw [HP.out],HMM.out.ends HBW.out (fun b hb=>by rcases hb with h | h <;> omega) _⟩
 case stop =>
  rintro cd pre S1 W hm hnD hp ⟨rfl,hrS,hrB,hno⟩ hD
  have HP:Hid (isProg t = false):=Lib.hid (isProg_false hno)
  have HD2:=Lib.hid hD
  have HRR:=Lib.hid hrB
  have HMM:=Lib.hid hm
  clear hrB hm hD hrS
  gi_wp2
  refine ⟨by simp,.inl ⟨_,_,rfl,run_takeDeferred HD2.out,?_⟩⟩
  have r0:=(Off.blk (Off.putObj W w3.heap.size (.deferred none)) HRR.out (by omega)).cell 0
  simp only [List.getElem?_toArray,List.getElem?_cons_zero] at r0
  exact ⟨.bool false,by simp [results,Tryd.results18,go_sem,r0],by rw [HP.out],HMM.out.ends HBW.out (fun b hb=>by rcases hb with h | h <;> omega) _⟩
end Go.Proofs.YtkkenbalpnmfmaaDoor
