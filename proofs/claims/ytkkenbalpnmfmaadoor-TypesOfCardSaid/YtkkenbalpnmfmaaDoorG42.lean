/- Texts joined. -/
import Derived.Test.YtkkenbalpnmfmaaDoorG39
import Derived.Test.YtkkenbalpnmfmaaDoorG41
import Derived.Test.YtkkenbalpnmfmaaDoorG14
import Derived.Test.YtkkenbalpnmfmaaDoorG07
import Derived.Test.YtkkenbalpnmfmaaDoorG11
import Derived.Test.YtkkenbalpnmfmaaDoorG05
set_option linter.unusedVariables false
namespace Go.Proofs.YtkkenbalpnmfmaaDoor
open Go.RowKit WM TR TY

def es (t:T):List T:=(if isEx t.k = true then [t] else []) ++ (t.kids.attach.map fun u=>es u.1).flatten
 termination_by t
 decreasing_by exact kid_lt u.2
theorem es_eq (t:T):es t = (if isEx t.k = true then [t] else []) ++ (t.kids.map es).flatten:=by
 rw [es]
 congr 2
 exact List.attach_map_val (f:=es)
theorem es_mem {t e:T} (h:e ∈ es t):(e = t∧isEx t.k = true)∨∃ u ∈ t.kids,e ∈ es u:=by
 rw [es_eq] at h
 rcases List.mem_append.1 h with h | h
 ·by_cases hx:isEx t.k = true
  ·rw [if_pos hx] at h; simp at h; exact .inl ⟨h,hx⟩
  ·rw [if_neg hx] at h; simp at h
 ·obtain ⟨l,hl,he⟩:=List.mem_flatten.1 h
  obtain ⟨u,hu,rfl⟩:=List.mem_map.1 hl
  exact .inr ⟨u,hu,he⟩
theorem es_len (t:T):(es t).length≤size t:=by
 rw [es_eq,size_eq,List.length_append]
 have h:∀ l:List T,(∀ u ∈ l,u ∈ t.kids)→((l.map es).flatten).length≤(l.map size).sum:=by
  intro l
  induction l with
  | nil=>intro _; simp
  | cons u l ih =>
   intro hl
   have h1:=es_len u
   have h2:=ih fun v hv=>hl v (List.mem_cons_of_mem _ hv)
   simp only [List.map_cons,List.flatten_cons,List.length_append,List.sum_cons]
   omega
 have h1:=h t.kids fun u hu=>hu
 have h2:(if isEx t.k = true then [t] else ([]:List T)).length≤1:=by split <;> simp
 omega
 termination_by t
 decreasing_by exact kid_lt (hl u (List.mem_cons_self ..))
theorem depth_mem {t u:T} (h:u ∈ t.kids):depth u < depth t:=by
 obtain ⟨i,hi⟩:=List.mem_iff_getElem?.1 h
 exact depth_kid hi
theorem size_mem {t u:T} (h:u ∈ t.kids):size u < size t:=by
 obtain ⟨i,hi⟩:=List.mem_iff_getElem?.1 h
 exact size_kid hi
theorem es_sub (t e:T) (h:e ∈ es t):size e≤size t∧depth e≤depth t∧isEx e.k = true∧(Fit t→Fit e)∧(∀ s,okW s t→okW s e):=by
 rcases es_mem h with ⟨rfl,hx⟩ | ⟨u,hu,he⟩
 ·exact ⟨Nat.le_refl _,Nat.le_refl _,hx,id,fun _ h=>h⟩
 ·obtain ⟨h1,h2,h3,h4,h5⟩:=es_sub u e he
  have:=size_mem hu
  have:=depth_mem hu
  exact ⟨by omega,by omega,h3,fun hf=>h4 (hf.kids u hu),fun s hs=>h5 s (((ok_iff s t).1 hs).2 u hu)⟩
 termination_by t
 decreasing_by exact kid_lt hu
theorem isEx_iff {k:Int}:isEx k = true↔4≤k∧k≤12:=by unfold isEx; simp
theorem wrap_ok {e:T} (hk:isEx e.k = true) (hf:Fit e) (hs:size e + 4≤256) (hd:depth e + 4≤16):isProg (wrapN 4 e) = true:=by
 have he:isExpr e = true:=(agree e).ex.2 ⟨isEx_iff.1 hk,hf⟩
 have h1:isStmt (wrapN 1 e) = true:=by
  rw [isStmt_eq]; simp [wrapN,wk,stmtOf,he,btw]
 have h2:isBlock (wrapN 2 e) = true:=by
  rw [isBlock_eq]
  have hk:(wrapN 2 e).kids = [wrapN 1 e]:=rfl
  rw [hk]
  have h1':isStmt ⟨19,0,0,[e]⟩ = true:=h1
  simp [btw,wrapN,wk,h1']
 have h3:isFun (wrapN 3 e) = true:=by
  refine isFun_true ⟨rfl,by simp [btw,wrapN,wk],by simp [wrapN,wk],fun i u hi hu=>?_,fun u hu=>?_⟩
  ·have hi2:i + 1 < 1:=hi
   omega
  ·have hu2:([wrapN 2 e]:List T)[1 - 1]? = some u:=hu
   simp at hu2
   rw [← hu2]; exact h2
 refine isProg_true ⟨rfl,by simp [btw,wrapN,wk],by rw [wrap_size]; exact hs,?_,fun i u hu=>?_⟩
 ·have hd1 : ∀ j, depth (wrapN j e) = depth e + j := by
   intro j
   induction j with
   | zero=>rfl
   | succ j ih=>rw [depth_eq]; simp [wrapN,ih]; omega
  rw [hd1]; exact hd
 ·have hu2:([wrapN 3 e]:List T)[i]? = some u:=hu
  have hi:i = 0:=by have:=(List.getElem?_eq_some_iff.1 hu2).1; simp at this; exact this
  subst hi
  simp at hu2
  rw [← hu2]; exact h3
theorem es_body {p u x e:T} (hp:isProg p = true) (hu:u ∈ p.kids) (hx:u.kids[u.kids.length - 1]? = some x) (he:e ∈ es x):isProg (wrapN 4 e) = true∧Fit e:=by
 have hpp:IsProg p:=by unfold isProg at hp; simpa using hp
 have hfit:=((prog_iff p).1 hpp).2.2.2
 obtain ⟨i,hi⟩:=List.mem_iff_getElem?.1 hu
 have hfu:IsFun u:=by have h:=hpp.2.2.2.2 i u hi; unfold isFun at h; simpa using h
 have hb:isBlock x = true:=hfu.2.2.2.2 x hx
 have hxm:=List.mem_of_getElem? hx
 rw [isBlock_eq] at hb
 simp only [Bool.and_eq_true,beq_iff_eq] at hb
 have hfx:Fit x:=(hfit.kids u hu).kids x hxm
 have hfe:=(es_sub x e he).2.2.2.1 hfx
 have hke:=(es_sub x e he).2.2.1
 rcases es_mem he with ⟨rfl,h⟩ | ⟨v,hv,hev⟩
 ·have:=isEx_iff.1 h; omega
 ·have hsv:isStmt v = true:=List.all_eq_true.1 hb.2 v hv
  have hkv:=((agree v).st.1 hsv).1
  rcases es_mem hev with ⟨rfl,h⟩ | ⟨v',hv',hev'⟩
  ·have:=isEx_iff.1 h; omega
  ·have h:=es_sub v' e hev'
   have s1:=size_mem hv'; have s2:=size_mem hv; have s3:=size_mem hxm; have s4:=size_mem hu
   have d1:=depth_mem hv'; have d2:=depth_mem hv; have d3:=depth_mem hxm; have d4:=depth_mem hu
   have hsz:=hpp.2.2.1
   have hdp:=hpp.2.2.2.1
   exact ⟨wrap_ok hke hfe (by omega) (by omega),hfe⟩
theorem named_range {p u:T} (hfu:IsFun u) {e:T} (hf:Fit e) (hok:okW (scO p u) e) (hk:e.k = 6∨e.k = 8):named (scO p u) e = 0∨named (scO p u) e = 1:=by
 obtain ⟨h1,h2,_⟩:=errOf_zero ((ok_iff _ e).1 hok).1
 have hno:=nok_of hf
 have h0:=hno.n (by omega)
 rcases hk with hk | hk
 ·simp [misused,hk,scal] at h2
  unfold named
  rw [if_neg (by omega)]
  omega
 ·simp [misused,hk] at h2
  simp [missing,hk,h2] at h1
  unfold named
  rw [if_pos h2]
  obtain ⟨hl,hm⟩:=h1
  have hm0:=hno.m
  have hlt:e.n.toNat < (scO p u).vars.length:=by omega
  have e0:=List.getElem?_eq_getElem hlt
  rw [tAt_some e0] at hm h2 ⊢
  obtain ⟨t,ht⟩:∃ t,t = (scO p u).vars[e.n.toNat]:=⟨_,rfl⟩
  rw [← ht] at hm h2 e0 ⊢
  have hty:isType t = true:=by
   have e1:(u.kids.take (u.kids.length - 1))[e.n.toNat]? = some t:=e0
   rw [List.getElem?_take] at e1
   split at e1
   ·rename_i hlt2
    exact (hfu.2.2.2.1 e.n.toNat t (by omega) e1).1
   ·cases e1
  unfold isType at hty
  rw [if_neg (by simp [h2]),if_pos (by simpa using h2)] at hty
  simp only [Bool.and_eq_true] at hty
  have hlt3:e.m.toNat < t.kids.length:=by omega
  have e3:=List.getElem?_eq_getElem hlt3
  rw [tAt_some e3]
  have hpl:=List.all_eq_true.1 hty.2 _ (List.mem_of_getElem? e3)
  unfold isPlain at hpl
  simp at hpl
  omega
theorem type_range01 {p u:T} (hfu:IsFun u) {e:T} (hf:Fit e) (hok:okW (scO p u) e):typeOf (scO p u) e = 0∨typeOf (scO p u) e = 1:=by
 obtain ⟨h1,h2,_⟩:=errOf_zero ((ok_iff _ e).1 hok).1
 unfold typeOf
 by_cases h5:e.k = 5∨e.k = 10
 ·rw [if_pos h5]; exact .inr rfl
 ·rw [if_neg h5]
  by_cases h9:e.k = 9
  ·rw [if_pos h9]; split
   ·exact .inr rfl
   ·exact .inl rfl
  ·rw [if_neg h9]
   by_cases h6:e.k = 6∨e.k = 8
   ·rw [if_pos h6,h1,h2]
    exact named_range hfu hf hok h6
   ·rw [if_neg h6]; exact .inl rfl

end Go.Proofs.YtkkenbalpnmfmaaDoor

namespace Go.Proofs.YtkkenbalpnmfmaaDoor
open Go.RowKit WM TR TY

theorem expr_kids {y:T} (hf:Fit y) (hk:isEx y.k = true):∀ v ∈ y.kids,Fit v∧isEx v.k = true:=fun v hv=>by
 have he:isExpr y = true:=(agree y).ex.2 ⟨isEx_iff.1 hk,hf⟩
 rw [isExpr_eq] at he
 simp only [Bool.and_eq_true] at he
 have h:=List.all_eq_true.1 he.2 v hv
 exact ⟨hf.kids v hv,isEx_iff.2 ((agree v).ex.1 h).1⟩
theorem eok_of {y:T} (hf:Fit y) (hk:isEx y.k = true):EOk y:=by
 have hn:=nok_of hf
 refine ⟨hk,hn.n,hn.m,fun h9=>?_⟩
 have he:isExpr y = true:=(agree y).ex.2 ⟨isEx_iff.1 hk,hf⟩
 rw [isExpr_eq] at he
 simp only [Bool.and_eq_true] at he
 have h:=he.1
 unfold exprHead at h
 simp [h9,btw] at h
 omega
theorem var_kind {p u t:T} (hfu:IsFun u) (ht:t ∈ (scO p u).vars):0≤t.k∧t.k≤3:=by
 obtain ⟨i,hi⟩:=List.mem_iff_getElem?.1 ht
 have e1:(u.kids.take (u.kids.length - 1))[i]? = some t:=hi
 rw [List.getElem?_take] at e1
 split at e1
 ·rename_i hlt
  exact type_range (hfu.2.2.2.1 i t (by omega) e1).1
 ·cases e1
theorem named_range2 {p u:T} (hfu:IsFun u) {e:T} (hf:Fit e) (h1:missing (scO p u) e = false) (h2:misused (scO p u) e = false) (hk:e.k = 6∨e.k = 8):named (scO p u) e = 0∨named (scO p u) e = 1:=by
 have hno:=nok_of hf
 have h0:=hno.n (by omega)
 rcases hk with hk | hk
 ·simp [misused,hk,scal] at h2
  unfold named
  rw [if_neg (by omega)]
  omega
 ·simp [misused,hk] at h2
  simp [missing,hk,h2] at h1
  unfold named
  rw [if_pos h2]
  obtain ⟨hl,hm⟩:=h1
  have hm0:=hno.m
  have hlt:e.n.toNat < (scO p u).vars.length:=by omega
  have e0:=List.getElem?_eq_getElem hlt
  rw [tAt_some e0] at hm h2 ⊢
  obtain ⟨t,ht⟩:∃ t,t = (scO p u).vars[e.n.toNat]:=⟨_,rfl⟩
  rw [← ht] at hm h2 e0 ⊢
  have hty:isType t = true:=by
   have e1:(u.kids.take (u.kids.length - 1))[e.n.toNat]? = some t:=e0
   rw [List.getElem?_take] at e1
   split at e1
   ·rename_i hlt2
    exact (hfu.2.2.2.1 e.n.toNat t (by omega) e1).1
   ·cases e1
  unfold isType at hty
  rw [if_neg (by simp [h2]),if_pos (by simpa using h2)] at hty
  simp only [Bool.and_eq_true] at hty
  have hlt3:e.m.toNat < t.kids.length:=by omega
  have e3:=List.getElem?_eq_getElem hlt3
  rw [tAt_some e3]
  have hpl:=List.all_eq_true.1 hty.2 _ (List.mem_of_getElem? e3)
  unfold isPlain at hpl
  simp at hpl
  omega
theorem type_ge {p u y:T} (hfu:IsFun u) (hf:Fit y) (hk:isEx y.k = true):-1≤typeOf (scO p u) y:=by
 unfold typeOf
 by_cases h5:y.k = 5∨y.k = 10
 ·rw [if_pos h5]; omega
 ·rw [if_neg h5]
  by_cases h9:y.k = 9
  ·rw [if_pos h9]; split <;> omega
  ·rw [if_neg h9]
   by_cases h6:y.k = 6∨y.k = 8
   ·rw [if_pos h6]
    cases h1:missing (scO p u) y
    ·cases h2:misused (scO p u) y
     ·simp only [Bool.or_false,Bool.false_eq_true,if_false]
      have h:=named_range2 hfu hf h1 h2 h6
      omega
     ·simp
    ·simp
   ·rw [if_neg h6]; omega
theorem nd_len {s:Sc} {y:T} (hf:Fit y) (hk:isEx y.k = true) (hfo:FOk s.funs):(ndR s y).2.length≤y.kids.length:=by
 have hn:=nok_of hf
 unfold ndR
 cases h1:missing s y
 ·cases h2:misused s y
  ·simp only [Bool.false_eq_true,if_false]
   have hk2:=isEx_iff.1 hk
   have hc:y.k = 9∨y.k = 10∨y.k = 7∨y.k = 11∨(y.k = 4∨y.k = 5∨y.k = 6∨y.k = 8∨y.k = 12):=by omega
   rcases hc with h | h | h | h | h
   ·rw [hn.two (.inl h)]; simp [wants,h]; split <;> simp
   ·rw [hn.one (.inl h)]; simp [wants,h]
   ·rw [hn.one (.inr (.inl h))]; simp [wants,h]
   ·have h3:=params_le s y.n
    simp [misused,h] at h2
    have e:wants s y = TY.params s y.n:=by simp [wants,h]
    rw [e]
    omega
   ·rcases h with h | h | h | h | h <;> simp [wants,h]
  ·simp
 ·simp
end Go.Proofs.YtkkenbalpnmfmaaDoor

namespace Go.Proofs.YtkkenbalpnmfmaaDoor
open Go.RowKit WM TR TY

def ofR (p:T) (f:Int) (x:T):Int × Int :=
 if f < 0∨(p.kids.length:Int)≤f then (0,5)
 else if (firstW (scO p (tAt p.kids f)) x).2≠0 then (0,(firstW (scO p (tAt p.kids f)) x).2) else (typeOf (scO p (tAt p.kids f)) x,0)
theorem nds_rep {w:World} {D:Nat} {y:T} {Ay:Option Addr} {cy:Nat} (h:Rep w (Lt w.heap.size) (D + 1) y (nd y Ay cy)) (hl:y.kids.length≤1000):Nds w (Lt w.heap.size) D y.kids Ay cy:=by
 obtain ⟨xs,h1,h2⟩:=h.kids
 exact ⟨⟨xs,h1,h2⟩,Rep.cap h,hl⟩
theorem rwrong_ex (p u y : T) (j d D : Nat) (A Ay : Option Addr) (c cy : Nat) (w : World) (hp : isProg p = true) (hnd : Nds w (Lt w.heap.size) (d + 2) p.kids A c) (hu : p.kids[j]? = some u) (hf : Fit y) (hk : isEx y.k = true) (hry : Rep w (Lt w.heap.size) D y (nd y Ay cy)) :
  Calls Tryd.prog 70 #[.agg #[.int .i64 p.k,.int .i64 p.n,.int .i64 p.m,.slice A p.kids.length c],.int .i64 (j:Int),.agg #[.int .i64 y.k,.int .i64 y.n,.int .i64 y.m,.slice Ay y.kids.length cy]] w fun e w'=>e = .returned (.int .i64 (errOf (scO p u) y))∧Below w.heap.size w w':=by
 cases D with
 | zero=>exact hry.elim
 | succ D =>
 have hpp:IsProg p:=by unfold isProg at hp; simpa using hp
 have hfu:IsFun u:=by have h:=hpp.2.2.2.2 j u hu; unfold isFun at h; simpa using h
 have hpk:=prog_kid hp (List.mem_of_getElem? hu)
 have hu1:1≤u.kids.length∧u.kids.length≤1000:=by have h1:=hpk.n0; have h2:=hpk.n1; have h3:=hpk.len; omega
 have hfo:=prog_fok hp
 have heo:=eok_of hf hk
 have hkr:=isEx_iff.1 hk
 have hyl:y.kids.length≤10:=(nok_of hf).len
 refine rwrong_is p u y j d D A Ay c cy w hnd hu hu1 (nds_rep hry (by omega)) (fun W hb=>?_) (fun i v hv _=>?_) (nd_len hf hk hfo)
 ·by_cases h11:y.k = 11
  ·exact rneeds_b p u y j d A Ay c y.kids.length cy W (hnd.next hb) hu hu1 (.inl h11) (heo.n (by omega)) rfl (by omega) hfo
  ·exact rneeds_a p u y j d A Ay c y.kids.length cy W (hnd.next hb) hu hu1 ⟨hkr.1,by omega,h11,by omega⟩ heo.n heo.m heo.op (fun t ht=>var_kind hfu ht)
 ·have h:=expr_kids hf hk v (List.mem_of_getElem? hv)
  exact ⟨eok_of h.1 h.2,type_ge hfu h.1 h.2⟩
set_option maxRecDepth 100000 in
set_option maxHeartbeats 8000000 in
theorem rof_is (d D : Nat) (p y : T) (f : Int) (A Ay : Option Addr) (c cy : Nat) (w : World) (hr : Rep w (Lt w.heap.size) (d + 3) p (nd p A c)) (hp : isProg p = true) (hry : Rep w (Lt w.heap.size) D y (nd y Ay cy)) (hf : Fit y) (hk : isEx y.k = true) (hsz : size y ≤ 1000) :
  Calls Tryd.prog 54 #[.agg #[.int .i64 p.k,.int .i64 p.n,.int .i64 p.m,.slice A p.kids.length c],.int .i64 f,.agg #[.int .i64 y.k,.int .i64 y.n,.int .i64 y.m,.slice Ay y.kids.length cy]] w fun e w'=>e = .returned (.tuple #[.agg #[.int .i64 (ofR p f y).1,.int .i64 0,.int .i64 0,.slice none 0 0],.int .i64 (ofR p f y).2])∧Below w.heap.size w w':=by
 have hpp:IsProg p:=by unfold isProg at hp; simpa using hp
 have hpl9:p.kids.length≤1000:=by have h1:=kids_lt p; have h2:=hpp.2.2.1; omega
 have hnd:=nds_rep hr hpl9
 have hyl:y.kids.length≤10:=(nok_of hf).len
 obtain ⟨k,hkk⟩:∃ z,z = y.k:=⟨_,rfl⟩
 obtain ⟨n,hn⟩:∃ z,z = y.n:=⟨_,rfl⟩
 obtain ⟨m,hm⟩:∃ z,z = y.m:=⟨_,rfl⟩
 obtain ⟨ly,hly⟩:∃ z,z = y.kids.length:=⟨_,rfl⟩
 obtain ⟨pk,hpk⟩:∃ z,z = p.k:=⟨_,rfl⟩
 obtain ⟨pn,hpn⟩:∃ z,z = p.n:=⟨_,rfl⟩
 obtain ⟨pm,hpm⟩:∃ z,z = p.m:=⟨_,rfl⟩
 obtain ⟨pl,hpl⟩:∃ z,z = p.kids.length:=⟨_,rfl⟩
 obtain ⟨r1,hr1⟩:∃ z,z = (ofR p f y).1:=⟨_,rfl⟩
 obtain ⟨r2,hr2⟩:∃ z,z = (ofR p f y).2:=⟨_,rfl⟩
 have HFI:Hid (∀ (j:Nat) (u:T) (W:World),f = (j:Int)→p.kids[j]? = some u→Below w.heap.size w W→Calls Tryd.prog 76 #[.agg #[.int .i64 pk,.int .i64 pn,.int .i64 pm,.slice A pl c],.int .i64 f,.agg #[.int .i64 k,.int .i64 n,.int .i64 m,.slice Ay ly cy]] W fun e w'=>e = .returned (.int .i64 (firstW (scO p u) y).2)∧Below W.heap.size W w'):=Lib.hid fun j u W hj hu hb=>by
  rw [hpk,hpn,hpm,hpl,hkk,hn,hm,hly,hj]
  exact rfirst_is p (scO p u) j A c w (fun x=>Fit x∧isEx x.k = true) (fun x hx v hv=>expr_kids hx.1 hx.2 v hv) (fun W2 x Ax cx D2 hb2 hx hrx=>rwrong_ex p u x j d D2 A Ax c cx W2 hp (hnd.next hb2) hu hx.1 hx.2 hrx) D y Ay cy W hb ⟨hf,hk⟩ (by omega) (fun v hv=>by have h:=(nok_of (expr_kids hf hk v hv).1).len; omega) hsz (rep_next hry hb)
 have HTY:Hid (∀ (j:Nat) (u:T) (W:World),f = (j:Int)→p.kids[j]? = some u→Below w.heap.size w W→Calls Tryd.prog 77 #[.agg #[.int .i64 pk,.int .i64 pn,.int .i64 pm,.slice A pl c],.int .i64 f,.agg #[.int .i64 k,.int .i64 n,.int .i64 m,.slice Ay ly cy]] W fun e w'=>e = .returned (.int .i64 (typeOf (scO p u) y))∧Below W.heap.size W w'):=Lib.hid fun j u W hj hu hb=>by
  rw [hpk,hpn,hpm,hpl,hkk,hn,hm,hly,hj]
  have hpk2:=prog_kid hp (List.mem_of_getElem? hu)
  exact rtype_is p u y j d A Ay c y.kids.length cy W (hnd.next hb) hu (by have h1:=hpk2.n0; have h2:=hpk2.n1; have h3:=hpk2.len; omega) (eok_of hf hk)
 rw [← hkk,← hn,← hm,← hly,← hpk,← hpn,← hpm,← hpl,← hr1,← hr2]
 obtain ⟨z,hz⟩:∃ z,z = w.heap.size:=⟨_,rfl⟩
 obtain ⟨z2,hz2⟩:∃ z,z = w.heap.size + 1:=⟨_,rfl⟩
 obtain ⟨z3,hz3⟩:∃ z,z = w.heap.size + 1 + 1:=⟨_,rfl⟩
 obtain ⟨W1,hW1⟩:∃ W,W = ((w.alloc (.cells #[.int .i64 pk,.int .i64 pn,.int .i64 pm,.slice A pl c] 25)).alloc (.cells #[.int .i64 k,.int .i64 n,.int .i64 m,.slice Ay ly cy] 25)).alloc (.cells #[.int .i64 0,.int .i64 0,.int .i64 0,.slice none 0 0] 25):=⟨_,rfl⟩
 have hb1:Below w.heap.size w W1:=by rw [hW1]; exact ba (ba (below_new _ _) _) _
 have kp:Blk W1 z 25 #[.int .i64 pk,.int .i64 pn,.int .i64 pm,.slice A pl c]:=by rw [hW1,hz]; exact ((Blk.new _ _ _).alloc _).alloc _
 have kx:Blk W1 z2 25 #[.int .i64 k,.int .i64 n,.int .i64 m,.slice Ay ly cy]:=by rw [hW1]; exact (Blk.new_at _ _ (by rw [size_alloc,hz2]) rfl).alloc _
 have ko:Blk W1 z3 25 #[.int .i64 0,.int .i64 0,.int .i64 0,.slice none 0 0]:=by rw [hW1]; exact Blk.new_at _ _ (by rw [size_alloc,size_alloc,hz3]) rfl
 have HCL:Hid (∀ W,Below W1.heap.size W1 W→(W.cell? ⟨z,0,none⟩ = some (.int .i64 pk)∧W.cell? ⟨z,1,none⟩ = some (.int .i64 pn)∧W.cell? ⟨z,2,none⟩ = some (.int .i64 pm)∧W.cell? ⟨z,3,none⟩ = some (.slice A pl c))∧(W.cell? ⟨z2,0,none⟩ = some (.int .i64 k)∧W.cell? ⟨z2,1,none⟩ = some (.int .i64 n)∧W.cell? ⟨z2,2,none⟩ = some (.int .i64 m)∧W.cell? ⟨z2,3,none⟩ = some (.slice Ay ly cy))∧Blk W z3 25 #[.int .i64 0,.int .i64 0,.int .i64 0,.slice none 0 0]):=Lib.hid fun W hb=>by
  have e1:=kp.below hb kp.lt
  have e2:=kx.below hb kx.lt
  exact ⟨⟨e1.cell 0,e1.cell 1,e1.cell 2,e1.cell 3⟩,⟨e2.cell 0,e2.cell 1,e2.cell 2,e2.cell 3⟩,ko.below hb ko.lt⟩
 obtain ⟨⟨p0,p1,p2,p3⟩,⟨x0,x1,x2,x3⟩,_⟩:=HCL.out W1 (Below.refl _ _)
 have HB1:=Lib.hid hb1
 have HW1:=Lib.hid hW1
 have HZ:=Lib.hid (And.intro hz (And.intro hz2 hz3))
 have hzw:w.heap.size≤z3:=by omega
 have HRR:=Lib.hid (And.intro hr1 hr2)
 have HPL:=Lib.hid hpl
 clear hr hp hry hf hk hsz hpp hpl9 hnd hyl hkk hn hm hly hpk hpn hpm hr1 hr2 hz hz2 hz3 hW1 hb1 kp kx hpl
 have HKO:=Lib.hid ko
 clear ko
 by_cases hneg:f < 0
 ·have HO : Hid (r1 = 0 ∧ r2 = 5) := Lib.hid (by
   have h:ofR p f y = (0,5):=by unfold ofR; rw [if_pos (.inl hneg)]
   rw [HRR.out.1,HRR.out.2,h]; exact ⟨rfl,rfl⟩)
  have hd:decide (f < 0) = true:=by simpa using hneg
  clear hneg
  have c0:=HKO.out.cell 0; have c1:=HKO.out.cell 1; have c2:=HKO.out.cell 2; have c3:=HKO.out.cell 3; have f0:=HKO.out.frozen 0; have f1:=HKO.out.frozen 1; have f2:=HKO.out.frozen 2; have f3:=HKO.out.frozen 3
  simp only [List.getElem?_toArray,List.getElem?_cons_zero,List.getElem?_cons_succ] at c0 c1 c2 c3
  go_enter Tryd.func54,Tryd.ntmps54
  go_upto_region 1 with fail
  rw [← HW1.out]
  rw [← HZ.out.2.2,← HZ.out.2.1,← HZ.out.1]
  go_wp2_with fail
  obtain ⟨X,hX⟩:∃ X,X = (((W1.setCell ⟨z3,0,none⟩ (.int .i64 0)).setCell ⟨z3,1,none⟩ (.int .i64 0)).setCell ⟨z3,2,none⟩ (.int .i64 0)).setCell ⟨z3,3,none⟩ (.slice none 0 0):=⟨_,rfl⟩
  rw [← hX]
  obtain ⟨⟨g0,g1,g2,g3⟩,hbX⟩:=put4_of HKO.out HB1.out hzw hX
  refine bodyPost_ret (v:=.tuple #[.agg #[.int .i64 0,.int .i64 0,.int .i64 0,.slice none 0 0],.int .i64 5]) (by simp [results,Tryd.results54,go_sem,g0,g1,g2,g3]) rfl ⟨?_,hbX⟩
  rw [HO.out.1,HO.out.2]
 ·have hd:decide (f < 0) = false:=by simpa using hneg
  by_cases hge:(pl:Int)≤f
  ·have HO : Hid (r1 = 0 ∧ r2 = 5) := Lib.hid (by
    have h:ofR p f y = (0,5):=by unfold ofR; rw [if_pos (.inr (by rw [← HPL.out]; exact hge))]
    rw [HRR.out.1,HRR.out.2,h]; exact ⟨rfl,rfl⟩)
   have hd2:decide ((pl:Int)≤f) = true:=by simpa using hge
   clear hneg hge
   have c0:=HKO.out.cell 0; have c1:=HKO.out.cell 1; have c2:=HKO.out.cell 2; have c3:=HKO.out.cell 3; have f0:=HKO.out.frozen 0; have f1:=HKO.out.frozen 1; have f2:=HKO.out.frozen 2; have f3:=HKO.out.frozen 3
   simp only [List.getElem?_toArray,List.getElem?_cons_zero,List.getElem?_cons_succ] at c0 c1 c2 c3
   go_enter Tryd.func54,Tryd.ntmps54
   go_upto_region 1 with fail
   rw [← HW1.out]
   rw [← HZ.out.2.2,← HZ.out.2.1,← HZ.out.1]
   go_wp2_with fail
   obtain ⟨X,hX⟩:∃ X,X = (((W1.setCell ⟨z3,0,none⟩ (.int .i64 0)).setCell ⟨z3,1,none⟩ (.int .i64 0)).setCell ⟨z3,2,none⟩ (.int .i64 0)).setCell ⟨z3,3,none⟩ (.slice none 0 0):=⟨_,rfl⟩
   rw [← hX]
   obtain ⟨⟨g0,g1,g2,g3⟩,hbX⟩:=put4_of HKO.out HB1.out hzw hX
   refine bodyPost_ret (v:=.tuple #[.agg #[.int .i64 0,.int .i64 0,.int .i64 0,.slice none 0 0],.int .i64 5]) (by simp [results,Tryd.results54,go_sem,g0,g1,g2,g3]) rfl ⟨?_,hbX⟩
   rw [HO.out.1,HO.out.2]
  ·have hd2:decide ((pl:Int)≤f) = false:=by simpa using hge
   obtain ⟨j,hj⟩:∃ j:Nat,f = (j:Int):=⟨f.toNat,by omega⟩
   obtain ⟨u,hu⟩:∃ u,p.kids[j]? = some u:=⟨_,List.getElem?_eq_getElem (by rw [← HPL.out]; omega)⟩
   obtain ⟨ev,hev⟩:∃ z,z = (firstW (scO p u) y).2:=⟨_,rfl⟩
   obtain ⟨ty,hty⟩:∃ z,z = typeOf (scO p u) y:=⟨_,rfl⟩
   have HF1:=Lib.hid (fun W=>HFI.out j u W hj hu)
   have HT1:=Lib.hid (fun W=>HTY.out j u W hj hu)
   rw [← hev] at HF1
   rw [← hty] at HT1
   have HOF:Hid (ofR p f y = if ev≠0 then (0,ev) else (ty,0)):=Lib.hid (by
    unfold ofR
    rw [if_neg (by rw [← HPL.out]; omega),hj,tAt_j hu,← hev,← hty])
   clear HFI HTY hu hev hty hneg hge hj
   by_cases he:ev = 0
   ·have HO:Hid (r1 = ty∧r2 = 0):=Lib.hid (by rw [HRR.out.1,HRR.out.2,HOF.out,if_neg (by simp [he])]; exact ⟨rfl,rfl⟩)
    subst he
    go_enter Tryd.func54,Tryd.ntmps54
    go_upto_region 1 with fail
    rw [← HW1.out]
    rw [← HZ.out.2.2,← HZ.out.2.1,← HZ.out.1]
    go_upto_region 6 with (go_at_call 76; refine (HF1.out _ HB1.out).mono ?_; rintro e w2 ⟨rfl,hb2⟩; have HB2:=Lib.hid hb2; clear hb2)
    clear p0 p1 p2 p3 x0 x1 x2 x3
    obtain ⟨⟨p0,p1,p2,p3⟩,⟨x0,x1,x2,x3⟩,_⟩:=HCL.out w2 HB2.out
    go_wp2_with (go_at_call 77; refine (HT1.out _ (bt HB1.out HB2.out)).mono ?_; rintro e w3 ⟨rfl,hb3⟩; have HB3:=Lib.hid (bt HB2.out hb3); have HK3:=Lib.hid (HCL.out _ HB3.out).2.2; have c0:=HK3.out.cell 0; have c1:=HK3.out.cell 1; have c2:=HK3.out.cell 2; have c3:=HK3.out.cell 3; have f0:=HK3.out.frozen 0; have f1:=HK3.out.frozen 1; have f2:=HK3.out.frozen 2; have f3:=HK3.out.frozen 3; simp only [List.getElem?_toArray,List.getElem?_cons_zero,List.getElem?_cons_succ] at c0 c1 c2 c3; clear hb3)
    obtain ⟨X,hX⟩:∃ X,X = (((w3.setCell ⟨z3,0,none⟩ (.int .i64 ty)).setCell ⟨z3,1,none⟩ (.int .i64 0)).setCell ⟨z3,2,none⟩ (.int .i64 0)).setCell ⟨z3,3,none⟩ (.slice none 0 0):=⟨_,rfl⟩
    rw [← hX]
    obtain ⟨⟨g0,g1,g2,g3⟩,hbX⟩:=put4_of HK3.out (bt HB1.out HB3.out) hzw hX
    refine bodyPost_ret (v:=.tuple #[.agg #[.int .i64 ty,.int .i64 0,.int .i64 0,.slice none 0 0],.int .i64 0]) (by simp [results,Tryd.results54,go_sem,g0,g1,g2,g3]) rfl ⟨?_,hbX⟩
    rw [HO.out.1,HO.out.2]
   ·have HO:Hid (r1 = 0∧r2 = ev):=Lib.hid (by rw [HRR.out.1,HRR.out.2,HOF.out,if_pos he]; exact ⟨rfl,rfl⟩)
    have hne:(ev != 0) = true:=by simpa using he
    clear he
    go_enter Tryd.func54,Tryd.ntmps54
    go_upto_region 1 with fail
    rw [← HW1.out]
    rw [← HZ.out.2.2,← HZ.out.2.1,← HZ.out.1]
    go_upto_region 4 with (go_at_call 76; refine (HF1.out _ HB1.out).mono ?_; rintro e w2 ⟨rfl,hb2⟩; have HB2:=Lib.hid hb2; clear hb2)
    clear p0 p1 p2 p3 x0 x1 x2 x3
    have HK2:=Lib.hid (HCL.out w2 HB2.out).2.2
    have c0:=HK2.out.cell 0; have c1:=HK2.out.cell 1; have c2:=HK2.out.cell 2; have c3:=HK2.out.cell 3; have f0:=HK2.out.frozen 0; have f1:=HK2.out.frozen 1; have f2:=HK2.out.frozen 2; have f3:=HK2.out.frozen 3
    simp only [List.getElem?_toArray,List.getElem?_cons_zero,List.getElem?_cons_succ] at c0 c1 c2 c3
    go_wp2_with fail
    obtain ⟨X,hX⟩:∃ X,X = (((w2.setCell ⟨z3,0,none⟩ (.int .i64 0)).setCell ⟨z3,1,none⟩ (.int .i64 0)).setCell ⟨z3,2,none⟩ (.int .i64 0)).setCell ⟨z3,3,none⟩ (.slice none 0 0):=⟨_,rfl⟩
    rw [← hX]
    obtain ⟨⟨g0,g1,g2,g3⟩,hbX⟩:=put4_of HK2.out (bt HB1.out HB2.out) hzw hX
    refine bodyPost_ret (v:=.tuple #[.agg #[.int .i64 0,.int .i64 0,.int .i64 0,.slice none 0 0],.int .i64 ev]) (by simp [results,Tryd.results54,go_sem,g0,g1,g2,g3]) rfl ⟨?_,hbX⟩
    rw [HO.out.1,HO.out.2]
end Go.Proofs.YtkkenbalpnmfmaaDoor

namespace Go.Proofs.YtkkenbalpnmfmaaDoor
open Go.RowKit WM TR TY

attribute [local go_sem ↓ high] shutApN
theorem apM_run {W : World} {base n c : Nat} {A : Option Addr} {xs : List Value} {B m c2 : Nat} {A2 : Option Addr} {ys : List Value} (ho : W.ownsRow base 25 4 (.slice A n c) n xs) (hr : Reads W B 4 A2 m ys) (h1 : ∀ u ∈ ys, u.oneCell' = true) (hb : base ≤ W.heap.size) (hn : n + m ≤ 1000000) :
  ∃ (A':Option Addr) (c':Nat) (w':World),(apN #[23,23] 23 #[.slice A n c,.slice A2 m c2]).run Tryd.prog W = .ok (.slice A' (n + m) c') w'∧w'.ownsRow base 25 4 (.slice A' (n + m) c') (n + m) (xs ++ ys)∧W.grownBy w' (Value.slice A n c).ownBlock:=by
 obtain ⟨i0,hi,hz0,hz1,hz2⟩:=info_parts node_info
 obtain ⟨v1,w1,happ,hown,hgrow,_⟩:=run_append_any (P:=Tryd.prog) W base 23 23 25 i0 _ 4 48 Tryd.underlying23 hi hz0 hz1 hz2 rfl (by omega) (.slice A n c) n xs ho B A2 m c2 ys hr h1 (len_le (by omega)) (by omega) hb
 obtain ⟨A',c',rfl,_⟩:=own_len hown
 exact ⟨A',c',w1,happ,hown,hgrow⟩
theorem reps_rdB {w:World} {B n c:Nat} {A:Option Addr} {xs:List Value} (h:w.ownsRow B 25 4 (.slice A n c) n xs):Reads w w.heap.size 4 A n xs :=
 ((Rd.of_own h).mono fun b hb=>hb.2).reads (In.lt _)
theorem flat_next {l:List T} {j:Nat} {u:T} (h:l[j]? = some u):((l.take (j + 1)).map es).flatten = ((l.take j).map es).flatten ++ es u:=by
 rw [List.take_add_one,h]; simp
theorem flat_len (l:List T) (j:Nat):(((l.take j).map es).flatten).length≤(l.map size).sum:=by
 induction l generalizing j with
 | nil=>simp
 | cons u l ih =>
  cases j with
  | zero=>simp
  | succ j =>
   have h1:=es_len u
   have h2:=ih j
   simp only [List.take_succ_cons,List.map_cons,List.flatten_cons,List.length_append,List.sum_cons]
   omega
theorem ap0_run {W : World} (t : T) (A : Option Addr) (c base : Nat) (hb : base ≤ W.heap.size) :
  ∃ (A':Option Addr) (c':Nat) (w':World),(apN #[23,23] 23 #[.slice none 0 0,.slice (some ⟨W.heap.size,0,none⟩) 1 1]).run Tryd.prog (W.alloc (.cells #[.int .i64 t.k,.int .i64 t.n,.int .i64 t.m,.slice A t.kids.length c] 25)) = .ok (.slice A' 1 c') w'∧w'.ownsRow base 25 4 (.slice A' 1 c') 1 (nd t A c)∧(W.alloc (.cells #[.int .i64 t.k,.int .i64 t.n,.int .i64 t.m,.slice A t.kids.length c] 25)).grownBy w' none:=by
 obtain ⟨A',c',w',h1,h2,h3⟩:=apM_run (W:=W.alloc (.cells #[.int .i64 t.k,.int .i64 t.n,.int .i64 t.m,.slice A t.kids.length c] 25)) (base:=base) (n:=0) (c:=0) (A:=none) (xs:=[]) (m:=1) (c2:=1) (World.ownsRow_nil _ _ _ _) (lit_reads (t:=t) (A:=A) (c:=c) (Blk.new_at _ _ rfl rfl)) (nd_one t A c) (by rw [size_alloc]; omega) (by omega)
 exact ⟨A',c',w',h1,h2,h3⟩
def ExPost (S:Nat→Prop) (d:Nat) (t:T) (w:World) (e:Ending) (w':World):Prop :=
 ∃ (A':Option Addr) (c':Nat) (xs:List Value),e = .returned (.slice A' (es t).length c')∧w'.ownsRow w.heap.size 25 4 (.slice A' (es t).length c') (es t).length xs∧Reps w' S d (es t) xs∧Below w.heap.size w w'
set_option maxRecDepth 100000 in
set_option maxHeartbeats 8000000 in
theorem exprsL_is : ∀ (d : Nat) (t : T) (S : Nat → Prop) (A : Option Addr) (c : Nat) (w : World), Rep w S d t (nd t A c) → In S w.heap.size → size t ≤ 100000 →
  Calls Tryd.prog 36 #[.agg #[.int .i64 t.k,.int .i64 t.n,.int .i64 t.m,.slice A t.kids.length c]] w (ExPost S d t w):=by
 intro d
 induction d with
 | zero=>intro t S A c w h; exact h.elim
 | succ d ih =>
 intro t S A c w ht hin hst
 have hkl:t.kids.length≤100000:=by have:=kids_lt t; omega
 obtain ⟨l,hl⟩:∃ l,l = t.kids.length:=⟨_,rfl⟩
 rw [← hl] at hkl ⊢
 have HT:=Lib.hid ht
 have HI:=Lib.hid hin
 have HL:=Lib.hid hl
 have HST:=Lib.hid hst
 have HIH:=Lib.hid ih
 obtain ⟨z,hz⟩:∃ z,z = w.heap.size:=⟨_,rfl⟩
 obtain ⟨W0,hW0⟩:∃ W0,W0 = w.alloc (.cells #[.int .i64 t.k,.int .i64 t.n,.int .i64 t.m,.slice A l c] 25):=⟨_,rfl⟩
 have HBK:Hid (Blk W0 z 25 #[.int .i64 t.k,.int .i64 t.n,.int .i64 t.m,.slice A l c]):=Lib.hid (by rw [hW0,hz]; exact Blk.new _ _ _)
 have HB0:Hid (Below w.heap.size w W0):=Lib.hid (by rw [hW0]; exact below_new _ _)
 have HZ0:Hid (W0.heap.size = z + 1):=Lib.hid (by rw [hW0,size_alloc,hz])
 have HW0:=Lib.hid hW0
 have HZ:=Lib.hid hz
 have HRX:Hid (∀ W,Below W0.heap.size W0 W→Calls Tryd.prog 28 #[.agg #[.int .i64 t.k,.int .i64 t.n,.int .i64 t.m,.slice A l c]] W fun e w'=>e = .returned (.bool (isEx t.k))∧Below W.heap.size W w'):=Lib.hid fun W _=>rexpr_is t A l c W
 obtain ⟨x0,x1,x2,x3⟩:W0.cell? ⟨z,0,none⟩ = some (.int .i64 t.k)∧W0.cell? ⟨z,1,none⟩ = some (.int .i64 t.n)∧W0.cell? ⟨z,2,none⟩ = some (.int .i64 t.m)∧W0.cell? ⟨z,3,none⟩ = some (.slice A l c):=⟨HBK.out.cell 0,HBK.out.cell 1,HBK.out.cell 2,HBK.out.cell 3⟩
 obtain ⟨b,hb⟩:∃ b,b = isEx t.k:=⟨_,rfl⟩
 obtain ⟨pre,hpre⟩:∃ p:List T,p = if isEx t.k = true then [t] else []:=⟨_,rfl⟩
 have hpl:pre.length≤1:=by rw [hpre]; split <;> simp
 have HES:Hid (es t = pre ++ (t.kids.map es).flatten):=Lib.hid (by rw [hpre]; exact es_eq t)
 rw [← hb] at HRX hpre
 have HPRE:=Lib.hid hpre
 clear ht hin hl hst ih hW0 hz hpre hb
 go_enter Tryd.func36,Tryd.ntmps36
 have HLOOP:Hid (∀ W,Below W0.heap.size W0 W→W.cell? ⟨z,3,none⟩ = some (.slice A l c)):=Lib.hid fun W hb=>(HBK.out.below hb HBK.out.lt).cell 3
 have HBX:Hid (∀ W,Below W0.heap.size W0 W→(W.cell? ⟨z,0,none⟩ = some (.int .i64 t.k)∧W.cell? ⟨z,1,none⟩ = some (.int .i64 t.n)∧W.cell? ⟨z,2,none⟩ = some (.int .i64 t.m)∧W.cell? ⟨z,3,none⟩ = some (.slice A l c))):=Lib.hid fun W hb=>by
  have h:=HBK.out.below hb HBK.out.lt
  exact ⟨h.cell 0,h.cell 1,h.cell 2,h.cell 3⟩
 cases b with
 | false =>
  have hpn:pre = []:=by rw [HPRE.out]; rfl
  go_upto_region 2 with fail
  rw [← HW0.out,← HZ.out]
  go_wp2_with (go_at_call 28; refine (HRX.out _ (Below.refl _ _)).mono ?_; rintro e w3 ⟨rfl,hb1⟩; have HBW3:=Lib.hid hb1; clear hb1)
  obtain ⟨A3,c3,xs3,hA3,HO3,HR3⟩:∃ (A3:Option Addr) (c3:Nat) (xs3:List Value),Value.slice none 0 0 = .slice A3 pre.length c3∧Hid (w3.ownsRow W0.heap.size 25 4 (.slice A3 pre.length c3) pre.length xs3)∧Hid (Reps w3 S (d + 1) pre xs3):=by
   rw [hpn]
   exact ⟨none,0,[],rfl,World.ownsRow_nil _ _ _ _,Reps.nil⟩
  rw [hA3]
  clear hA3 x0 x1 x2 x3 hpn
  go_loopw [3,4] (fun o i wr=>∃ (j n4:Nat) (A4:Option Addr) (c4:Nat) (ys:List Value),j≤l∧o = .slice A4 n4 c4∧i = .int .i64 (j:Int)∧Hid (n4 = (pre ++ ((t.kids.take j).map es).flatten).length)∧Hid (wr.ownsRow W0.heap.size 25 4 (.slice A4 n4 c4) n4 ys)∧Hid (Reps wr S (d + 1) (pre ++ ((t.kids.take j).map es).flatten) ys)∧Hid (Below W0.heap.size W0 wr)) (fun _ i _=>l - (intOf i).toNat)
  case atStart=>exact ⟨0,pre.length,A3,c3,xs3,Nat.zero_le _,rfl,rfl,by simp [Hid],HO3,by simpa [Hid] using HR3.out,HBW3.out⟩
  case round =>
   obtain ⟨j,n4,A4,c4,ys,hj,rfl,rfl,HN4,HO4,HR4,HB4⟩:=hrel
   have hc3:=HLOOP.out _ HB4.out
   by_cases hlt:j < l
   ·obtain ⟨u,hu⟩:∃ u,t.kids[j]? = some u:=⟨_,List.getElem?_eq_getElem (by rw [← HL.out]; omega)⟩
    have hBW:=bt HB0.out HB4.out
    have hrr:=HT.out.later HI.out hBW
    obtain ⟨b2,o2,A2,c2,hA2,hb2,hcells,hru⟩:=hrr.kid hu
    subst hA2
    have HU:=Lib.hid hu
    have HSU:Hid (size u≤100000):=Lib.hid (by have:=size_kid hu; have:=HST.out; omega)
    have HNB:Hid (n4 + (es u).length≤1000000):=Lib.hid (by
     have h1:=flat_len t.kids j
     have h2:=es_len u
     have h3:=HST.out
     rw [size_eq] at h3
     have h4:=HN4.out
     rw [List.length_append] at h4
     have:=HSU.out
     omega)
    have hij:(0:Int)≤j∧(j:Int) < l:=⟨by omega,by omega⟩
    have hlt2:(j:Int) < l:=by omega
    have hdj:decide (j < l) = true:=by simpa using hlt
    have HRU:=Lib.hid hru
    have HIW:Hid (In S wr.heap.size):=Lib.hid (HI.out.more hBW.size)
    have k0:wr.cell? ⟨b2,o2 + j * 4,none⟩ = some (.int .i64 u.k):=hcells 0 _ rfl
    have k1:wr.cell? ⟨b2,o2 + j * 4 + 1,none⟩ = some (.int .i64 u.n):=hcells 1 _ rfl
    have k2:wr.cell? ⟨b2,o2 + j * 4 + 2,none⟩ = some (.int .i64 u.m):=hcells 2 _ rfl
    have k3:wr.cell? ⟨b2,o2 + j * 4 + 3,none⟩ = some (.slice A2 u.kids.length c2):=hcells 3 _ rfl
    clear hrr hcells hru hu hb2 hBW
    obtain ⟨m5,hm5⟩:∃ m,m = (es u).length:=⟨_,rfl⟩
    have HM5:=Lib.hid hm5
    clear hm5
    go_wp2_with (go_at_call 36; refine (HIH.out u S A2 c2 _ HRU.out HIW.out HSU.out).mono ?_; rintro e w5 ⟨A5,c5,ys5,rfl,hown5,hreps5,hb5⟩; have HREP5:=Lib.hid hreps5; have HB5:=Lib.hid hb5; obtain ⟨A6,c6,w6,hrun,hown6,hg6⟩:=apM_run (c2:=c5) (ownsRow_below HO4.out hb5) (reps_rdB hown5) (reps_oneM hreps5) (Nat.le_trans HB4.out.size hb5.size) HNB.out; rw [← HM5.out] at hrun hown6 ⊢; have HO6:=Lib.hid hown6; have HG6:=Lib.hid hg6; clear hown5 hreps5 hb5 hown6 hg6)
    go_roundw
    case rel =>
     have hb6:Below W0.heap.size w5 w6:=below_gwB (Below.refl _ _) HG6.out (Nat.le_trans HB4.out.size HB5.out.size) fun b e=>(HO4.out.lt b e).1
     have hzz:=HB0.out.size
     have hz1:=HZ0.out
     have hz2:=HZ.out
     have hkS:Keeps S wr w6:=(Keeps.below HIW.out HB5.out).trans (Keeps.below (fun b hb=>by have:=HI.out b hb; omega) hb6)
     refine ⟨j + 1,n4 + m5,A6,c6,ys ++ ys5,by omega,rfl,by go_num,?_,HO6,?_,HB4.out.trans ((HB5.out.mono HB4.out.size).trans hb6)⟩
     ·show n4 + m5 = _
      rw [flat_next HU.out,← List.append_assoc,List.length_append,← HN4.out,HM5.out]
     ·show Reps w6 S (d + 1) (pre ++ ((t.kids.take (j + 1)).map es).flatten) (ys ++ ys5)
      rw [flat_next HU.out,← List.append_assoc]
      exact (HR4.out.keep hkS).app ((HREP5.out.keep (Keeps.below (fun b hb=>by have:=HI.out b hb; omega) hb6)).deeper (by omega))
    case measure=>simp [intOf]; omega
   ·have hjl:j = l:=by omega
    have hdj:decide (j < l) = false:=by simpa using hlt
    have HBW:Hid (Below w.heap.size w wr):=Lib.hid (bt HB0.out HB4.out)
    have HNE:Hid (n4 = (es t).length):=Lib.hid (by rw [HN4.out,HES.out,hjl,List.take_of_length_le (by rw [← HL.out]; exact Nat.le_refl _)])
    have HRE:Hid (Reps wr S (d + 1) (es t) ys):=Lib.hid (by
     have h:=HR4.out
     rw [hjl,List.take_of_length_le (by rw [← HL.out]; exact Nat.le_refl _)] at h
     rw [HES.out]; exact h)
    clear hjl
    go_wp2_with fail
    go_ret
    refine ⟨A4,c4,ys,by rw [HNE.out]; rfl,?_,HRE.out,HBW.out⟩
    rw [← HNE.out]
    exact ownsRow_base HO4.out HB0.out.size
 | true =>
  have hpn:pre = [t]:=by rw [HPRE.out]; rfl
  go_upto_region 2 with fail
  rw [← HW0.out,← HZ.out]
  go_wp2_with (go_at_call 28; refine (HRX.out _ (Below.refl _ _)).mono ?_; rintro e w2 ⟨rfl,hb1⟩; have HBW2:=Lib.hid hb1; clear hb1; clear x0 x1 x2 x3; obtain ⟨x0,x1,x2,x3⟩:=HBX.out _ HBW2.out; obtain ⟨A3,c3,w3,hrun,hown3,hg3⟩:=ap0_run (W:=w2) t A c W0.heap.size (by have:=HBW2.out.size; omega); rw [← HL.out] at hrun; have HOW3:=Lib.hid hown3; have HGW3:=Lib.hid hg3; clear hown3 hg3)
  have HBW3:Hid (Below W0.heap.size W0 w3):=Lib.hid (below_gwB (ba HBW2.out _) HGW3.out (by have:=HBW2.out.size; rw [size_alloc]; omega) (fun b e=>by cases e))
  have HO3:Hid (w3.ownsRow W0.heap.size 25 4 (.slice A3 1 c3) 1 (nd t A c)):=HOW3
  have HR3:Hid (Reps w3 S (d + 1) [t] (nd t A c)):=Lib.hid (Reps.one ((HT.out.keep (Keeps.below HI.out (bt HB0.out HBW3.out)))))
  obtain ⟨xs3,hxs3⟩:∃ x,x = nd t A c:=⟨_,rfl⟩
  rw [← hxs3] at HO3 HR3
  have hp1:pre.length = 1:=by rw [hpn]; rfl
  have hv:Value.slice A3 1 c3 = .slice A3 pre.length c3:=by rw [hp1]
  rw [hv]
  rw [← hp1] at HO3
  rw [← hpn] at HR3
  clear hxs3 HOW3 HGW3 HBW2 x0 x1 x2 x3 hrun hp1 hv hpn
  go_loopw [3,4] (fun o i wr=>∃ (j n4:Nat) (A4:Option Addr) (c4:Nat) (ys:List Value),j≤l∧o = .slice A4 n4 c4∧i = .int .i64 (j:Int)∧Hid (n4 = (pre ++ ((t.kids.take j).map es).flatten).length)∧Hid (wr.ownsRow W0.heap.size 25 4 (.slice A4 n4 c4) n4 ys)∧Hid (Reps wr S (d + 1) (pre ++ ((t.kids.take j).map es).flatten) ys)∧Hid (Below W0.heap.size W0 wr)) (fun _ i _=>l - (intOf i).toNat)
  case atStart=>exact ⟨0,pre.length,A3,c3,xs3,Nat.zero_le _,rfl,rfl,by simp [Hid],HO3,by simpa [Hid] using HR3.out,HBW3.out⟩
  case round =>
   obtain ⟨j,n4,A4,c4,ys,hj,rfl,rfl,HN4,HO4,HR4,HB4⟩:=hrel
   have hc3:=HLOOP.out _ HB4.out
   by_cases hlt:j < l
   ·obtain ⟨u,hu⟩:∃ u,t.kids[j]? = some u:=⟨_,List.getElem?_eq_getElem (by rw [← HL.out]; omega)⟩
    have hBW:=bt HB0.out HB4.out
    have hrr:=HT.out.later HI.out hBW
    obtain ⟨b2,o2,A2,c2,hA2,hb2,hcells,hru⟩:=hrr.kid hu
    subst hA2
    have HU:=Lib.hid hu
    have HSU:Hid (size u≤100000):=Lib.hid (by have:=size_kid hu; have:=HST.out; omega)
    have HNB:Hid (n4 + (es u).length≤1000000):=Lib.hid (by
     have h1:=flat_len t.kids j
     have h2:=es_len u
     have h3:=HST.out
     rw [size_eq] at h3
     have h4:=HN4.out
     rw [List.length_append] at h4
     have:=HSU.out
     omega)
    have hij:(0:Int)≤j∧(j:Int) < l:=⟨by omega,by omega⟩
    have hlt2:(j:Int) < l:=by omega
    have hdj:decide (j < l) = true:=by simpa using hlt
    have HRU:=Lib.hid hru
    have HIW:Hid (In S wr.heap.size):=Lib.hid (HI.out.more hBW.size)
    have k0:wr.cell? ⟨b2,o2 + j * 4,none⟩ = some (.int .i64 u.k):=hcells 0 _ rfl
    have k1:wr.cell? ⟨b2,o2 + j * 4 + 1,none⟩ = some (.int .i64 u.n):=hcells 1 _ rfl
    have k2:wr.cell? ⟨b2,o2 + j * 4 + 2,none⟩ = some (.int .i64 u.m):=hcells 2 _ rfl
    have k3:wr.cell? ⟨b2,o2 + j * 4 + 3,none⟩ = some (.slice A2 u.kids.length c2):=hcells 3 _ rfl
    clear hrr hcells hru hu hb2 hBW
    obtain ⟨m5,hm5⟩:∃ m,m = (es u).length:=⟨_,rfl⟩
    have HM5:=Lib.hid hm5
    clear hm5
    go_wp2_with (go_at_call 36; refine (HIH.out u S A2 c2 _ HRU.out HIW.out HSU.out).mono ?_; rintro e w5 ⟨A5,c5,ys5,rfl,hown5,hreps5,hb5⟩; have HREP5:=Lib.hid hreps5; have HB5:=Lib.hid hb5; obtain ⟨A6,c6,w6,hrun,hown6,hg6⟩:=apM_run (c2:=c5) (ownsRow_below HO4.out hb5) (reps_rdB hown5) (reps_oneM hreps5) (Nat.le_trans HB4.out.size hb5.size) HNB.out; rw [← HM5.out] at hrun hown6 ⊢; have HO6:=Lib.hid hown6; have HG6:=Lib.hid hg6; clear hown5 hreps5 hb5 hown6 hg6)
    go_roundw
    case rel =>
     have hb6:Below W0.heap.size w5 w6:=below_gwB (Below.refl _ _) HG6.out (Nat.le_trans HB4.out.size HB5.out.size) fun b e=>(HO4.out.lt b e).1
     have hzz:=HB0.out.size
     have hz1:=HZ0.out
     have hz2:=HZ.out
     have hkS:Keeps S wr w6:=(Keeps.below HIW.out HB5.out).trans (Keeps.below (fun b hb=>by have:=HI.out b hb; omega) hb6)
     refine ⟨j + 1,n4 + m5,A6,c6,ys ++ ys5,by omega,rfl,by go_num,?_,HO6,?_,HB4.out.trans ((HB5.out.mono HB4.out.size).trans hb6)⟩
     ·show n4 + m5 = _
      rw [flat_next HU.out,← List.append_assoc,List.length_append,← HN4.out,HM5.out]
     ·show Reps w6 S (d + 1) (pre ++ ((t.kids.take (j + 1)).map es).flatten) (ys ++ ys5)
      rw [flat_next HU.out,← List.append_assoc]
      exact (HR4.out.keep hkS).app ((HREP5.out.keep (Keeps.below (fun b hb=>by have:=HI.out b hb; omega) hb6)).deeper (by omega))
    case measure=>simp [intOf]; omega
   ·have hjl:j = l:=by omega
    have hdj:decide (j < l) = false:=by simpa using hlt
    have HBW:Hid (Below w.heap.size w wr):=Lib.hid (bt HB0.out HB4.out)
    have HNE:Hid (n4 = (es t).length):=Lib.hid (by rw [HN4.out,HES.out,hjl,List.take_of_length_le (by rw [← HL.out]; exact Nat.le_refl _)])
    have HRE:Hid (Reps wr S (d + 1) (es t) ys):=Lib.hid (by
     have h:=HR4.out
     rw [hjl,List.take_of_length_le (by rw [← HL.out]; exact Nat.le_refl _)] at h
     rw [HES.out]; exact h)
    clear hjl
    go_wp2_with fail
    go_ret
    refine ⟨A4,c4,ys,by rw [HNE.out]; rfl,?_,HRE.out,HBW.out⟩
    rw [← HNE.out]
    exact ownsRow_base HO4.out HB0.out.size
end Go.Proofs.YtkkenbalpnmfmaaDoor

namespace Go.Proofs.YtkkenbalpnmfmaaDoor
open Go.RowKit WM TR TY

set_option maxRecDepth 100000 in
set_option maxHeartbeats 4000000 in
theorem rbody_is (d : Nat) (t u x : T) (S : Nat → Prop) (A : Option Addr) (c j : Nat) (w : World) (ht : Rep w S (d + 2) t (nd t A c)) (hin : In S w.heap.size) (hu : t.kids[j]? = some u) (hx : u.kids[u.kids.length - 1]? = some x) (hl : t.kids.length ≤ 1000000) (hlu : u.kids.length ≤ 1000000) :
  Calls Tryd.prog 32 #[.agg #[.int .i64 t.k,.int .i64 t.n,.int .i64 t.m,.slice A t.kids.length c],.int .i64 (j:Int)] w fun e w'=>∃ A' c',e = .returned (.agg #[.int .i64 x.k,.int .i64 x.n,.int .i64 x.m,.slice A' x.kids.length c'])∧Rep w' S d x (nd x A' c')∧Below w.heap.size w w':=by
 obtain ⟨l,hll⟩:∃ l,l = t.kids.length:=⟨_,rfl⟩
 have hjl:j < l:=by rw [hll]; exact (List.getElem?_eq_some_iff.1 hu).1
 obtain ⟨q,hq⟩:∃ q,u.kids.length = q + 1:=⟨u.kids.length - 1,by have:=(List.getElem?_eq_some_iff.1 hx).1; omega⟩
 rw [hq,Nat.add_sub_cancel] at hx
 obtain ⟨r,hr⟩:∃ r,r = w.heap.size + 1:=⟨_,rfl⟩
 obtain ⟨W0,hW0⟩:∃ W,W = (w.alloc (.cells #[.int .i64 t.k,.int .i64 t.n,.int .i64 t.m,.slice A l c] 25)).alloc (.cells #[.int .i64 0,.int .i64 0,.int .i64 0,.slice none 0 0] 25):=⟨_,rfl⟩
 have hb0:Below w.heap.size w W0:=by rw [hW0]; exact ba (below_new _ _) _
 have hk0:Blk W0 w.heap.size 25 #[.int .i64 t.k,.int .i64 t.n,.int .i64 t.m,.slice A l c]:=by rw [hW0]; exact blk_new3 _ _ _ _
 have hz0:Blk W0 r 25 #[.int .i64 0,.int .i64 0,.int .i64 0,.slice none 0 0]:=by rw [hW0,hr]; exact blk_new2 _ _ _ _
 have hrr:=ht.later hin hb0
 obtain ⟨b2,o2,A2,c2,hA2,hb2,hcells,hru⟩:=hrr.kid hu
 subst hA2
 obtain ⟨b3,o3,A3,c3,hA3,hb3,hcells3,hrx⟩:=hru.kid hx
 subst hA3
 obtain ⟨W1,hW1⟩:∃ W,W = W0.alloc (.cells #[.int .i64 u.k,.int .i64 u.n,.int .i64 u.m,.slice (some ⟨b3,o3,none⟩) (q + 1) c2] 25):=⟨_,rfl⟩
 have hb1:Below W0.heap.size W0 W1:=by rw [hW1]; exact below_new _ _
 have hbw:Below w.heap.size w W1:=hb0.trans (hb1.mono hb0.size)
 have hrx1:Rep W1 S d x (nd x A3 c3):=hrx.keep (Keeps.below (fun b hb=>Nat.lt_of_lt_of_le (hin b hb) hb0.size) hb1)
 have y3:=hk0.cell 3
 simp only [List.getElem?_toArray,List.getElem?_cons_zero,List.getElem?_cons_succ] at y3
 have k0:W0.cell? ⟨b2,o2 + j * 4,none⟩ = some (.int .i64 u.k):=hcells 0 _ rfl
 have k1:W0.cell? ⟨b2,o2 + j * 4 + 1,none⟩ = some (.int .i64 u.n):=hcells 1 _ rfl
 have k2:W0.cell? ⟨b2,o2 + j * 4 + 2,none⟩ = some (.int .i64 u.m):=hcells 2 _ rfl
 have k3:W0.cell? ⟨b2,o2 + j * 4 + 3,none⟩ = some (.slice (some ⟨b3,o3,none⟩) (q + 1) c2):=by have h:=hcells 3; unfold nd at h; rw [hq] at h; exact h _ rfl
 have hb3l:b3 < W0.heap.size:=Nat.lt_of_lt_of_le (hin b3 hb3) hb0.size
 have e:∀ i v,(nd x A3 c3)[i]? = some v→W1.cell? ⟨b3,o3 + q * 4 + i,none⟩ = some v:=fun i v hv=>(hb1.cell (p:=⟨b3,o3 + q * 4 + i,none⟩) hb3l).trans (hcells3 i v hv)
 have x0:W1.cell? ⟨b3,o3 + q * 4,none⟩ = some (.int .i64 x.k):=e 0 _ rfl
 have x1:W1.cell? ⟨b3,o3 + q * 4 + 1,none⟩ = some (.int .i64 x.n):=e 1 _ rfl
 have x2:W1.cell? ⟨b3,o3 + q * 4 + 2,none⟩ = some (.int .i64 x.m):=e 2 _ rfl
 have x3:W1.cell? ⟨b3,o3 + q * 4 + 3,none⟩ = some (.slice A3 x.kids.length c3):=e 3 _ rfl
 have hv1:Blk W1 W0.heap.size 25 #[.int .i64 u.k,.int .i64 u.n,.int .i64 u.m,.slice (some ⟨b3,o3,none⟩) (q + 1) c2]:=by rw [hW1]; exact Blk.new _ _ _
 have v3:=hv1.cell 3
 have hz1:=hz0.below hb1 hz0.lt
 have r0:=hz1.cell 0
 have r1:=hz1.cell 1
 have r2:=hz1.cell 2
 have r3:=hz1.cell 3
 have f0:=hz1.frozen 0
 have f1:=hz1.frozen 1
 have f2:=hz1.frozen 2
 have f3:=hz1.frozen 3
 simp only [List.getElem?_toArray,List.getElem?_cons_zero,List.getElem?_cons_succ] at r0 r1 r2 r3 v3
 have hij:(0:Int)≤(j:Int)∧(j:Int) < (l:Int):=⟨by omega,by omega⟩
 have hqw:IntKind.i64.wrap (((q:Int) + 1) - 1) = (q:Int):=by rw [IntKind.wrap_i64]; omega
 have hqw2:IntKind.i64.wrap (q:Int) = (q:Int):=by rw [IntKind.wrap_i64]; omega
 have hqw3:IntKind.i64.wrap (((q + 1:Nat):Int) - 1) = (q:Int):=by rw [IntKind.wrap_i64]; omega
 have hqb:(0:Int)≤(q:Int)∧(q:Int) < (q:Int) + 1:=⟨by omega,by omega⟩
 have HBW:=Lib.hid hbw
 have HRX:=Lib.hid hrx1
 have HW0:=Lib.hid hW0
 have HW1:=Lib.hid hW1
 have HR:=Lib.hid hr
 have HI:=Lib.hid hin
 rw [← hll]
 clear ht hin hu hx hl hlu hll hr hW0 hb0 hk0 hz0 hrr hb2 hcells hru hb3 hcells3 hrx hW1 hb1 hbw hrx1 hb3l e hz1 hv1 hq
 go_enter Tryd.func32,Tryd.ntmps32
 go_upto_region 1 with fail
 rw [← HW0.out,← HR.out]
 go_upto_region 2 with fail
 rw [← HW1.out]
 go_wp2_with fail
 refine bodyPost_ret (v:=.agg #[.int .i64 x.k,.int .i64 x.n,.int .i64 x.m,.slice A3 x.kids.length c3]) (by simp [results,Tryd.results32,go_sem,r0,r1,r2,r3]) rfl ?_
 exact ⟨A3,c3,rfl,put4_rep HRX.out (r:=r) (fun h=>by have:=HI.out r h; have:=HR.out; omega) _ _ _ _,put4_below HBW.out _ _ _ _ (by have:=HR.out; omega)⟩
end Go.Proofs.YtkkenbalpnmfmaaDoor

namespace Go.Proofs.YtkkenbalpnmfmaaDoor
open Go.RowKit WM TR

theorem sign_is (a b : Int) (w : World) :
  Calls Tryd.prog 98 #[.int .i64 a,.int .i64 b] w fun e w'=>e = .returned (.int .i64 (sg a b))∧w = w':=by
 rcases Int.lt_trichotomy a b with h | h | h
 ·have hs:sg a b = -1:=by unfold sg; rw [if_pos h]
  rw [hs]
  clear hs
  go_enter Tryd.func98,Tryd.ntmps98
  go_wp2
  go_ret
  exact ⟨rfl,rfl⟩
 ·subst h
  have hs:sg a a = 0:=sg_zero.2 rfl
  rw [hs]
  clear hs
  go_enter Tryd.func98,Tryd.ntmps98
  go_wp2
  go_ret
  exact ⟨rfl,rfl⟩
 ·have hs:sg a b = 1:=by unfold sg; rw [if_neg (by omega),if_pos h]
  rw [hs]
  clear hs
  go_enter Tryd.func98,Tryd.ntmps98
  go_wp2
  go_ret
  exact ⟨rfl,rfl⟩

end Go.Proofs.YtkkenbalpnmfmaaDoor

namespace Go.Proofs.YtkkenbalpnmfmaaDoor
open Go.RowKit WM TR

def nums (t:T):List Int:=[t.k,t.n,t.m]
theorem cmp_at {t u:T} {k:Nat} {x y:Int} (hx:(nums t)[k]? = some x) (hy:(nums u)[k]? = some y) (he:∀ i < k,(nums t)[i]? = (nums u)[i]?) (hne:x≠y):cmp t u = sg x y:=by
 match k,hx,hy with
 | 0,hx,hy =>
  simp only [nums,List.getElem?_cons_zero,Option.some.injEq] at hx hy
  subst hx hy; exact cmp_k hne
 | 1,hx,hy =>
  have h0:=he 0 (by omega)
  simp only [nums,List.getElem?_cons_zero,List.getElem?_cons_succ,Option.some.injEq] at hx hy h0
  subst hx hy; exact cmp_n h0 hne
 | 2,hx,hy =>
  have h0:=he 0 (by omega)
  have h1:=he 1 (by omega)
  simp only [nums,List.getElem?_cons_zero,List.getElem?_cons_succ,Option.some.injEq] at hx hy h0 h1
  subst hx hy; exact cmp_m h0 h1 hne
 | k + 3,hx,_=>simp [nums] at hx
theorem cmp_past {t u:T} (he:∀ i < 3,(nums t)[i]? = (nums u)[i]?):cmpFrom t u 0 = cmp t u:=by
 have h0:=he 0 (by omega)
 have h1:=he 1 (by omega)
 have h2:=he 2 (by omega)
 simp only [nums,List.getElem?_cons_zero,List.getElem?_cons_succ,Option.some.injEq] at h0 h1 h2
 exact cmpFrom_zero t u h0 h1 h2

set_option maxRecDepth 100000 in
set_option maxHeartbeats 2000000 in
theorem rcmp_is : ∀ (d : Nat) (t u : T) (S : Nat → Prop) (A A' : Option Addr) (c c' : Nat) (w : World), Rep w S d t (nd t A c) → Rep w S d u (nd u A' c') → In S w.heap.size → size t ≤ 1000000 → size u ≤ 1000000 →
  Calls Tryd.prog 78 #[.agg #[.int .i64 t.k,.int .i64 t.n,.int .i64 t.m,.slice A t.kids.length c],.agg #[.int .i64 u.k,.int .i64 u.n,.int .i64 u.m,.slice A' u.kids.length c']] w fun e w'=>e = .returned (.int .i64 (cmp t u))∧Below w.heap.size w w':=by
 intro d
 induction d with
 | zero=>intro t u S A A' c c' w h; exact h.elim
 | succ d ih =>
  intro t u S A A' c c' w ht hu hin hst hsu
  have hlt:t.kids.length≤1000000:=by have:=kids_lt t; omega
  have hlu:u.kids.length≤1000000:=by have:=kids_lt u; omega
  have HST:=Lib.hid hst
  have HSU:=Lib.hid hsu
  clear hst hsu
  go_enter Tryd.func78,Tryd.ntmps78
  go_wp2_with fail
  obtain ⟨W1, hW1⟩ : ∃ W1, W1 = (((w.alloc (.cells #[.int .i64 t.k, .int .i64 t.n, .int .i64 t.m, .slice A t.kids.length c] 25)).alloc (.cells #[.int .i64 u.k, .int .i64 u.n, .int .i64 u.m, .slice A' u.kids.length c'] 25)).alloc
    (.cells #[.int .i64 t.k,.int .i64 t.n,.int .i64 t.m] 3)).alloc (.cells #[.int .i64 u.k,.int .i64 u.n,.int .i64 u.m] 3):=⟨_,rfl⟩
  rw [← hW1]
  have hb1:Below w.heap.size w W1:=by rw [hW1]; exact ba (ba (ba (below_new _ _) _) _) _
  have hz1:W1.heap.size = w.heap.size + 4:=by rw [hW1]; simp
  have hca:W1.cell? ⟨w.heap.size,3,none⟩ = some (.slice A t.kids.length c):=by
   rw [hW1]; exact ((((Blk.new w _ _).alloc _).alloc _).alloc _).cell 3
  have hcb:W1.cell? ⟨w.heap.size + 1,3,none⟩ = some (.slice A' u.kids.length c'):=by
   rw [hW1]; exact (((Blk.new_at _ _ (by simp) rfl).alloc _).alloc _).cell 3
  have hcx:∀ (k:Nat) (x:Int),(nums t)[k]? = some x→W1.cell? ⟨w.heap.size + 1 + 1,k,none⟩ = some (.int .i64 x):=by
   intro k x hx
   rw [hW1]
   refine (((Blk.new_at _ 3 (cs:=#[.int .i64 t.k,.int .i64 t.n,.int .i64 t.m]) (by simp) rfl).alloc _).cell k).trans ?_
   have:=vi_get hx
   simpa [vi,nums] using this
  have hcy:∀ (k:Nat) (x:Int),(nums u)[k]? = some x→W1.cell? ⟨w.heap.size + 1 + 1 + 1,k,none⟩ = some (.int .i64 x):=by
   intro k x hx
   rw [hW1]
   refine ((Blk.new_at _ 3 (cs:=#[.int .i64 u.k,.int .i64 u.n,.int .i64 u.m]) (by simp) rfl).cell k).trans ?_
   have:=vi_get hx
   simpa [vi,nums] using this
  have HT:=Lib.hid (ht.later hin hb1)
  have HU:=Lib.hid (hu.later hin hb1)
  have HI:=Lib.hid (hin.more hb1.size)
  have HB1:=Lib.hid hb1
  have HZ1:=Lib.hid hz1
  have HCA:=Lib.hid hca
  have HCB:=Lib.hid hcb
  have HCX:=Lib.hid hcx
  have HCY:=Lib.hid hcy
  obtain ⟨la,hla⟩:∃ l,l = t.kids.length:=⟨_,rfl⟩
  obtain ⟨lb,hlb⟩:∃ l,l = u.kids.length:=⟨_,rfl⟩
  have hlac:=ht.cap
  have hlbc:=hu.cap
  rw [← hla] at hlt hlac HCA ⊢
  rw [← hlb] at hlu hlbc HCB ⊢
  have HLA:=Lib.hid hla
  have HLB:=Lib.hid hlb
  clear hW1 hb1 hz1 hca hcb hcx hcy ht hu hla hlb hin
  go_loopw [7] (fun i wr=>∃ k:Nat,k≤3∧i = .int .i64 k∧Hid (∀ i < k,(nums t)[i]? = (nums u)[i]?)∧Hid (Below W1.heap.size W1 wr)) (fun i _=>3 - (intOf i).toNat)
  case atStart=>exact ⟨0,by omega,rfl,fun i hi=>by omega,Below.refl _ _⟩
  case round =>
   obtain ⟨k,hk,rfl,HE,HB⟩:=hrel
   by_cases hlt3:k < 3
   ·obtain ⟨x,hx⟩:∃ x,(nums t)[k]? = some x:=⟨_,List.getElem?_eq_getElem (by simpa [nums] using hlt3)⟩
    obtain ⟨y,hy⟩:∃ y,(nums u)[k]? = some y:=⟨_,List.getElem?_eq_getElem (by simpa [nums] using hlt3)⟩
    have hcx:=(HB.out.cell (p:=⟨w.heap.size + 1 + 1,k,none⟩) (by rw [HZ1.out]; show w.heap.size + 1 + 1 < _; omega)).trans (HCX.out k x hx)
    have hcy:=(HB.out.cell (p:=⟨w.heap.size + 1 + 1 + 1,k,none⟩) (by rw [HZ1.out]; show w.heap.size + 1 + 1 + 1 < _; omega)).trans (HCY.out k y hy)
    by_cases hxy:x = y
    ·have HE2 : Hid (∀ i < k + 1, (nums t)[i]? = (nums u)[i]?) := Lib.hid (fun i hi => by
      by_cases h:i < k
      ·exact HE.out i h
      ·obtain rfl:i = k:=by omega
       rw [hx,hy,hxy])
     have hnn:(x != y) = false:=by rw [hxy]; simp
     have hj1:(0:Int)≤k∧(k:Int) < 3:=⟨by omega,by omega⟩
     clear hx hy hxy
     go_wp2_with fail
     go_quiet (fail)
     go_wp2_with fail
     go_roundw
     case rel=>exact ⟨k + 1,by omega,by go_num,HE2,below_drewN HB.out _⟩
     case measure=>simp [intOf]; omega
    ·have hnn:(x != y) = true:=by simpa using hxy
     have hj1:(0:Int)≤k∧(k:Int) < 3:=⟨by omega,by omega⟩
     have HR:=Lib.hid (cmp_at hx hy HE.out hxy)
     clear hx hy hxy
     go_wp2_with fail
     go_quiet (fail)
     go_wp2_with fail
     go_quiet ((go_at_call 98; exact quiet_add_left (sign_is _ _ _)))
     go_wp2_with fail
     go_ret
     exact ⟨ret_i HR.out.symm,bt HB1.out (below_drewN (below_drewN HB.out _) _)⟩
   ·have HE0:Hid (cmpFrom t u 0 = cmp t u):=Lib.hid (cmp_past fun i hi=>HE.out i (by omega))
    have hk3:3≤k:=by omega
    obtain ⟨W2,rfl⟩:∃ W:World,W = wr:=⟨_,rfl⟩
    have HB2:=HB
    clear HE HB hlt3
    go_wp2_with fail
    go_loopw [8] (fun i wr=>∃ j:Nat,j≤la∧j≤lb∧i = .int .i64 j∧Hid (cmpFrom t u j = cmp t u)∧Hid (Below W1.heap.size W1 wr)) (fun i _=>la - (intOf i).toNat)
    case atStart=>exact ⟨0,by omega,by omega,rfl,HE0.out,HB2.out⟩
    case round =>
     obtain ⟨j,hja,hjb,rfl,HF,HB⟩:=hrel
     have hca:=(HB.out.cell (p:=⟨w.heap.size,3,none⟩) (by rw [HZ1.out]; show w.heap.size < _; omega)).trans HCA.out
     have hcb:=(HB.out.cell (p:=⟨w.heap.size + 1,3,none⟩) (by rw [HZ1.out]; show w.heap.size + 1 < _; omega)).trans HCB.out
     by_cases hlt:j < la∧j < lb
     ·obtain ⟨hj1,hj2⟩:=hlt
      obtain ⟨v,hv⟩:∃ v,t.kids[j]? = some v:=⟨_,List.getElem?_eq_getElem (by rw [← HLA.out]; exact hj1)⟩
      obtain ⟨v',hv'⟩:∃ v,u.kids[j]? = some v:=⟨_,List.getElem?_eq_getElem (by rw [← HLB.out]; exact hj2)⟩
      have HNX:=Lib.hid (cmpFrom_next hv hv')
      obtain ⟨b1,o1,A1,c1,hA1,hb1,hcl1,hr1⟩:=(HT.out.later HI.out HB.out).kid hv
      obtain ⟨b2,o2,A2,c2,hA2,hb2,hcl2,hr2⟩:=(HU.out.later HI.out HB.out).kid hv'
      have HS1:Hid (size v≤1000000):=Lib.hid (by have:=size_kid hv; have:=HST.out; omega)
      have HS2:Hid (size v'≤1000000):=Lib.hid (by have:=size_kid hv'; have:=HSU.out; omega)
      subst hA1 hA2
      have hin1:In S wr.heap.size:=HI.out.more HB.out.size
      have HL1:Hid (∀ W,Below wr.heap.size wr W→(Instr.loadAt 23 (.pointer (some ⟨w.heap.size,3,none⟩))).run Tryd.prog W = .ok (.slice (some ⟨b1,o1,none⟩) la c) W):=Lib.hid (fun W hW=>by
       have:=(hW.cell (p:=⟨w.heap.size,3,none⟩) (by have:=HB.out.size; rw [HZ1.out] at this; show w.heap.size < _; omega)).trans hca
       go_simp)
      have HL2:Hid (∀ W,Below wr.heap.size wr W→(Instr.loadAt 23 (.pointer (some ⟨w.heap.size + 1,3,none⟩))).run Tryd.prog W = .ok (.slice (some ⟨b2,o2,none⟩) lb c') W):=Lib.hid (fun W hW=>by
       have:=(hW.cell (p:=⟨w.heap.size + 1,3,none⟩) (by have:=HB.out.size; rw [HZ1.out] at this; show w.heap.size + 1 < _; omega)).trans hcb
       go_simp)
      have HN1:Hid (∀ W,Below wr.heap.size wr W→(Instr.loadAt 25 (.pointer (some ⟨b1,o1 + j * 4,none⟩))).run Tryd.prog W = .ok (.agg #[.int .i64 v.k,.int .i64 v.n,.int .i64 v.m,.slice A1 v.kids.length c1]) W):=Lib.hid (fun W hW =>
       run_loadAt_mid W b1 (o1 + j * 4) 25 (nd v A1 c1) _ (fun i x hx=>(hW.cell (p:=⟨b1,_,none⟩) (hin1 _ hb1)).trans (hcl1 i x hx)) Tryd.underlying25 rfl (by rw [size_node]; rfl))
      have HN2:Hid (∀ W,Below wr.heap.size wr W→(Instr.loadAt 25 (.pointer (some ⟨b2,o2 + j * 4,none⟩))).run Tryd.prog W = .ok (.agg #[.int .i64 v'.k,.int .i64 v'.n,.int .i64 v'.m,.slice A2 v'.kids.length c2]) W):=Lib.hid (fun W hW =>
       run_loadAt_mid W b2 (o2 + j * 4) 25 (nd v' A2 c2) _ (fun i x hx=>(hW.cell (p:=⟨b2,_,none⟩) (hin1 _ hb2)).trans (hcl2 i x hx)) Tryd.underlying25 rfl (by rw [size_node]; rfl))
      have HIR:Hid (In S wr.heap.size):=Lib.hid (HI.out.more HB.out.size)
      have HR1:=Lib.hid hr1
      have HR2:=Lib.hid hr2
      have hi1:(0:Int)≤j∧(j:Int) < la:=⟨by omega,by omega⟩
      have hi2:(0:Int)≤j∧(j:Int) < lb:=⟨by omega,by omega⟩
      clear hv hv' hcl1 hcl2 hr1 hr2 hb1 hb2 hin1
      go_wp2_with fail
      refine wp_region_below wr (Below.refl _ _) (by kernel_rfl) (by kernel_rfl) ?_
      go_big_quiet_step ((intro _; rfl))
      refine wpQuiet_load' rfl 23 (.tmp 60) rfl _ rfl (.slice (some ⟨b1,o1,none⟩) la c) HL1.out ?_
      go_simp
      iterate 2 go_big_quiet_step ((intro _; rfl))
      refine wpQuiet_load' rfl 25 (.tmp 63) rfl _ rfl (.agg #[.int .i64 v.k,.int .i64 v.n,.int .i64 v.m,.slice A1 v.kids.length c1]) HN1.out ?_
      go_simp
      go_big_quiet_step ((intro _; rfl))
      refine wpQuiet_load' rfl 23 (.tmp 65) rfl _ rfl (.slice (some ⟨b2,o2,none⟩) lb c') HL2.out ?_
      go_simp
      iterate 2 go_big_quiet_step ((intro _; rfl))
      refine wpQuiet_load' rfl 25 (.tmp 68) rfl _ rfl (.agg #[.int .i64 v'.k,.int .i64 v'.n,.int .i64 v'.m,.slice A2 v'.kids.length c2]) HN2.out ?_
      go_simp
      go_big_quiet_step ((intro hw'; exact (ih v v' S A1 A2 c1 c2 _ (HR1.out.later HIR.out hw') (HR2.out.later HIR.out hw') (HIR.out.more hw'.size) HS1.out HS2.out).mono fun e w'' ⟨he,hb⟩=>⟨he,bt hw' hb⟩))
      go_big_quiet_step ((intro _; rfl))
      refine wpQuiet_nil ?_
      intro w6 hb6
      have HB6:=Lib.hid (bt HB.out hb6)
      clear hb6
      by_cases hz:cmp v v' = 0
      ·have HF2:Hid (cmpFrom t u (j + 1) = cmp t u):=Lib.hid (by have:=HNX.out; rw [if_pos hz] at this; rw [← this]; exact HF.out)
       have hnn:(cmp v v' != 0) = false:=by rw [hz]; rfl
       clear hz
       go_wp2_with fail
       go_roundw
       case rel=>exact ⟨j + 1,by omega,by omega,by go_num,HF2.out,HB6.out⟩
       case measure=>simp [intOf]; omega
      ·have HF2:Hid (cmp v v' = cmp t u):=Lib.hid (by have:=HNX.out; rw [if_neg hz] at this; rw [← this]; exact HF.out)
       have hnn:(cmp v v' != 0) = true:=by simpa using hz
       clear hz
       go_wp2_with fail
       go_ret
       exact ⟨ret_i HF2.out,bt HB1.out HB6.out⟩
     ·have HG : Hid (cmp t u = sg (la : Int) (lb : Int)) := Lib.hid (by
       rw [← HF.out,HLA.out,HLB.out]
       exact cmpFrom_end (by rw [← HLA.out,← HLB.out]; omega))
      by_cases hja2:j < la
      ·have hjb2:¬ j < lb:=fun h=>hlt ⟨hja2,h⟩
       clear hlt
       go_wp2_with (go_at_call 98; refine (sign_is _ _ _).mono ?_; rintro e w' ⟨rfl,rfl⟩)
       go_ret
       exact ⟨ret_i HG.out.symm,bt HB1.out HB.out⟩
      ·clear hlt
       go_wp2_with (go_at_call 98; refine (sign_is _ _ _).mono ?_; rintro e w' ⟨rfl,rfl⟩)
       go_ret
       exact ⟨ret_i HG.out.symm,bt HB1.out HB.out⟩
end Go.Proofs.YtkkenbalpnmfmaaDoor

namespace Go.Proofs.YtkkenbalpnmfmaaDoor
open Go.RowKit WM TR

theorem same_is (d : Nat) (t u : T) (S : Nat → Prop) (A A' : Option Addr) (c c' : Nat) (w : World) (ht : Rep w S d t (nd t A c)) (hu : Rep w S d u (nd u A' c')) (hin : In S w.heap.size) (hst : size t ≤ 1000000) (hsu : size u ≤ 1000000) (r : Bool) (hr : decide (cmp t u = 0) = r) :
  Calls Tryd.prog 55 #[.agg #[.int .i64 t.k,.int .i64 t.n,.int .i64 t.m,.slice A t.kids.length c],.agg #[.int .i64 u.k,.int .i64 u.n,.int .i64 u.m,.slice A' u.kids.length c']] w fun e w'=>e = .returned (.bool r)∧Below w.heap.size w w':=by
 have hb:Below w.heap.size w ((w.alloc (.cells #[.int .i64 t.k,.int .i64 t.n,.int .i64 t.m,.slice A t.kids.length c] 25)).alloc (.cells #[.int .i64 u.k,.int .i64 u.n,.int .i64 u.m,.slice A' u.kids.length c'] 25)):=ba (below_new _ _) _
 have HT:=Lib.hid (ht.later hin hb)
 have HU:=Lib.hid (hu.later hin hb)
 have HI:=Lib.hid (hin.more hb.size)
 have HB:=Lib.hid hb
 have HR:Hid ((cmp t u == 0) = r):=Lib.hid hr
 clear ht hu hin hb hr
 go_enter Tryd.func55,Tryd.ntmps55
 go_wp2_with (go_at_call 78; refine (rcmp_is d t u S A A' c c' _ HT.out HU.out HI.out hst hsu).mono ?_; rintro e w' ⟨rfl,hbw⟩)
 go_ret
 exact ⟨ret_b HR.out,bt HB.out hbw⟩

end Go.Proofs.YtkkenbalpnmfmaaDoor
