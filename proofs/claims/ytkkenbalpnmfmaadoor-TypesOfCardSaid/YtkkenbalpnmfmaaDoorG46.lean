/- Texts joined. -/
import Derived.Test.YtkkenbalpnmfmaaDoorG39
import Derived.Test.YtkkenbalpnmfmaaDoorG05
import Derived.Test.YtkkenbalpnmfmaaDoorG45
import Derived.Test.YtkkenbalpnmfmaaDoorG07
import Derived.Deep.DeepCutAuto
import Derived.Test.YtkkenbalpnmfmaaDoorG37
set_option linter.unusedVariables false
namespace Go.Proofs.YtkkenbalpnmfmaaDoor
open Go.RowKit WM TR TY

set_option maxRecDepth 100000 in
set_option maxHeartbeats 8000000 in
theorem is_is (d : Nat) (p : T) (A : Option Addr) (c : Nat) (place : List Int) (B : Option Addr) (cb : Nat) (want : Int) (w : World) (hr : Rep w (Lt w.heap.size) (d + 1) p (nd p A c)) (hD : d ≤ 1000) (hsz : size p ≤ 1000000) (hT : ST w) (hg : 0 < w.heap.size)
  (hm:Reads w w.heap.size 1 B place.length (vi place)) (hpl:place.length≤1000000) (hcl:(chk p).1.length≤1000000) (r:Bool) (hrr:((chk p).2 == want && decide ((chk p).1 = place)) = r) :
  Calls Tryd.prog 16 #[.agg #[.int .i64 p.k,.int .i64 p.n,.int .i64 p.m,.slice A p.kids.length c],.slice B place.length cb,.int .i64 want] w fun e w'=>e = .returned (.bool r)∧Below w.heap.size w w':=by
 obtain ⟨z,hz⟩:∃ z,z = w.heap.size:=⟨_,rfl⟩
 obtain ⟨nk,hnk⟩:∃ z,z = p.kids.length:=⟨_,rfl⟩
 obtain ⟨k,hk⟩:∃ z,z = p.k:=⟨_,rfl⟩
 obtain ⟨n,hn⟩:∃ z,z = p.n:=⟨_,rfl⟩
 obtain ⟨m,hm'⟩:∃ z,z = p.m:=⟨_,rfl⟩
 obtain ⟨np,hnp⟩:∃ z,z = place.length:=⟨_,rfl⟩
 obtain ⟨W1,hW1⟩:∃ W,W = w.alloc (.cells #[.int .i64 k,.int .i64 n,.int .i64 m,.slice A nk c] 25):=⟨_,rfl⟩
 have hb1:Below w.heap.size w W1:=by rw [hW1]; exact below_new _ _
 have k1:Blk W1 z 25 #[.int .i64 k,.int .i64 n,.int .i64 m,.slice A nk c]:=by rw [hW1,hz]; exact Blk.new _ _ _
 obtain ⟨y0,y1,y2,y3⟩:W1.cell? ⟨z,0,none⟩ = some (.int .i64 k)∧W1.cell? ⟨z,1,none⟩ = some (.int .i64 n)∧W1.cell? ⟨z,2,none⟩ = some (.int .i64 m)∧W1.cell? ⟨z,3,none⟩ = some (.slice A nk c):=⟨k1.cell 0,k1.cell 1,k1.cell 2,k1.cell 3⟩
 obtain ⟨l,hl⟩:∃ l,l = (chk p).1:=⟨_,rfl⟩
 obtain ⟨er,her⟩:∃ er,er = (chk p).2:=⟨_,rfl⟩
 obtain ⟨nl,hnl⟩:∃ nl,nl = l.length:=⟨_,rfl⟩
 have HC:Hid (Calls Tryd.prog 33 #[.agg #[.int .i64 k,.int .i64 n,.int .i64 m,.slice A nk c]] W1 fun e w'=>∃ A' c',e = .returned (.tuple #[.slice A' nl c',.int .i64 er])∧Reads w' w'.heap.size 1 A' nl (vi l)∧Below W1.heap.size W1 w'):=Lib.hid (by
  have h:=check_is d p A c W1 (rep_next hr hb1) hD hsz (hT.below hb1 hg) (Nat.lt_of_lt_of_le hg hb1.size)
  rw [← hnk,← hk,← hn,← hm'] at h
  refine h.mono ?_
  rintro e w' ⟨A',c',h1,h2,h3⟩
  rw [← hl,← her,← hnl] at h1
  rw [← hl,← hnl] at h2
  exact ⟨A',c',h1,h2.1,h3⟩)
 have HS:Hid (∀ (W:World) (A':Option Addr) (c':Nat),Below w.heap.size w W→Reads W W.heap.size 1 A' nl (vi l)→Calls Tryd.prog 35 #[.slice A' nl c',.slice B np cb] W fun e w'=>e = .returned (.bool (decide (l = place)))∧Below W.heap.size W w'):=Lib.hid fun W A' c' hb h1=>by
  rw [hnl] at h1 ⊢
  rw [hnp]
  exact sameInts_is l place (Lt W.heap.size) A' B c' cb W h1 ((hm.below hb).more hb.size) (In.lt _) (by rw [hl]; exact hcl) hpl _ rfl
 have HR:Hid (r = (er == want && decide (l = place))):=Lib.hid (by rw [← hrr,her,hl])
 have HW1:=Lib.hid hW1
 have HZ:=Lib.hid hz
 have HB1:=Lib.hid hb1
 rw [← hnk,← hk,← hn,← hm',← hnp]
 obtain ⟨e1,he1⟩:∃ e1,(er == want) = e1:=⟨_,rfl⟩
 have HE1:=Lib.hid he1
 clear hr hsz hT hg hm hcl hrr hz hnk hk hn hm' hnp hW1 hb1 k1 hl her hnl
 cases e1
 all_goals
  go_enter Tryd.func16,Tryd.ntmps16
  go_upto_region 1 with fail
  rw [← HW1.out]
  try rw [← HZ.out]
  go_wp2_with (first
   | (go_at_call 33; refine HC.out.mono ?_; rintro e w2 ⟨A',c',rfl,h1,h2⟩; have HB2:=Lib.hid (bt HB1.out h2); have HR2:=Lib.hid h1; clear h1 h2 y0 y1 y2 y3)
   | (go_at_call 35; refine (HS.out _ _ _ HB2.out HR2.out).mono ?_; rintro e w3 ⟨rfl,hb3⟩; replace HB2:=Lib.hid (bt HB2.out hb3); clear hb3))
  go_ret
  exact ⟨ret_b (by rw [HR.out,HE1.out]; simp),HB2.out⟩
end Go.Proofs.YtkkenbalpnmfmaaDoor

namespace Go.Proofs.YtkkenbalpnmfmaaDoor
open Go.RowKit WM TR TY

theorem nodeR_is (k n : Int) (d : Nat) (x : T) (A : Option Addr) (c : Nat) (W : World) (hr : Rep W (Lt W.heap.size) (d + 1) x (nd x A c)) (h0 : -100 ≤ k ∧ k ≤ 100) (h1 : -100 ≤ n ∧ n ≤ 100) :
  Calls Tryd.prog 46 #[.int .i64 k,.int .i64 n,.slice (some ⟨W.heap.size,0,none⟩) 1 1] (W.alloc (.cells #[.int .i64 x.k,.int .i64 x.n,.int .i64 x.m,.slice A x.kids.length c] 25)) fun e w'=>∃ g,e = .returned (.agg #[.int .i64 k,.int .i64 n,.int .i64 0,.slice (some ⟨g,0,none⟩) 1 1])∧Rep w' (Lt w'.heap.size) (d + 2) ⟨k,n,0,[x]⟩ (nd ⟨k,n,0,[x]⟩ (some ⟨g,0,none⟩) 1)∧Below W.heap.size W w':=by
 refine (node_is k n (some ⟨W.heap.size,0,none⟩) 1 1 _).mono ?_
 rintro e w' ⟨rfl,hb⟩
 have h:=(nds_new (Reps.one hr) (by simp)).rep (k:=k) (n:=n) (m:=0) (in_sm h0.1 h0.2) (in_sm h1.1 h1.2) (in_sm (by omega) (by omega))
 exact ⟨W.heap.size,rfl,rep_next h hb,bt (below_new _ _) hb⟩
theorem node1_is (k n a b : Int) (W : World) (h0 : -100 ≤ k ∧ k ≤ 100) (h1 : -100 ≤ n ∧ n ≤ 100) (h2 : -100 ≤ a ∧ a ≤ 100) (h3 : -100 ≤ b ∧ b ≤ 100) :
  Calls Tryd.prog 46 #[.int .i64 k,.int .i64 n,.slice (some ⟨W.heap.size,0,none⟩) 1 1] (W.alloc (.cells #[.int .i64 a,.int .i64 b,.int .i64 0,.slice none 0 0] 25)) fun e w'=>∃ g,e = .returned (.agg #[.int .i64 k,.int .i64 n,.int .i64 0,.slice (some ⟨g,0,none⟩) 1 1])∧Rep w' (Lt w'.heap.size) 2 ⟨k,n,0,[⟨a,b,0,[]⟩]⟩ (nd ⟨k,n,0,[⟨a,b,0,[]⟩]⟩ (some ⟨g,0,none⟩) 1)∧Below W.heap.size W w' :=
 nodeR_is k n 0 ⟨a,b,0,[]⟩ none 0 W (Rep.leaf (in_sm h2.1 h2.2) (in_sm h3.1 h3.2) (in_sm (by omega) (by omega)) 0 0) h0 h1
theorem ex2_is (k n a b : Int) (g : Nat) (w : World) (hr : Rep w (Lt w.heap.size) 2 ⟨k, n, 0, [⟨a, b, 0, []⟩]⟩ (nd ⟨k, n, 0, [⟨a, b, 0, []⟩]⟩ (some ⟨g, 0, none⟩) 1)) :
  Calls Tryd.prog 47 #[.agg #[.int .i64 k,.int .i64 n,.int .i64 0,.slice (some ⟨g,0,none⟩) 1 1]] w fun e w'=>∃ A' c',e = .returned (.agg #[.int .i64 27,.int .i64 0,.int .i64 0,.slice A' 1 c'])∧Rep w' (Lt w'.heap.size) 5 (exT ⟨k,n,0,[⟨a,b,0,[]⟩]⟩) (nd (exT ⟨k,n,0,[⟨a,b,0,[]⟩]⟩) A' c')∧Below w.heap.size w w' :=
 example_is 1 ⟨k,n,0,[⟨a,b,0,[]⟩]⟩ (some ⟨g,0,none⟩) 1 w hr
theorem ex_size {x:T} (h:size x≤100):size (exT x)≤1000000:=by
 have hl:∀ k n:Int,size ⟨k,n,0,[]⟩ = 1:=fun k n=>by rw [size_eq]; rfl
 have hb:size (exB x) = 1 + (size x + 0):=by rw [size_eq]; rfl
 have hf:size (exF x) = 1 + (size ⟨0,0,0,[]⟩ + (size ⟨2,2,0,[]⟩ + (size (exB x) + 0))):=by rw [size_eq]; rfl
 have ht:size (exT x) = 1 + (size (exF x) + 0):=by rw [size_eq]; rfl
 rw [hl,hl] at hf
 omega
theorem two_size (k n a b:Int):size ⟨k,n,0,[⟨a,b,0,[]⟩]⟩≤100:=by simp [size_eq]
theorem isx_is (d : Nat) (x : T) (A : Option Addr) (c : Nat) (place : List Int) (np : Nat) (B : Option Addr) (cb : Nat) (want : Int) (w : World) (hr : Rep w (Lt w.heap.size) (d + 1) (exT x) (nd (exT x) A c)) (hd : d ≤ 10) (hsz : size x ≤ 100) (hT : ST w) (hg : 0 < w.heap.size)
  (hm:Reads w w.heap.size 1 B np (vi place)) (hnp:np = place.length) (hpl:place.length≤100) (hc:chk (exT x) = (place,want)) :
  Calls Tryd.prog 16 #[.agg #[.int .i64 27,.int .i64 0,.int .i64 0,.slice A 1 c],.slice B np cb,.int .i64 want] w fun e w'=>e = .returned (.bool true)∧Below w.heap.size w w':=by
 subst hnp
 exact is_is d (exT x) A c place B cb want w hr (by omega) (ex_size hsz) hT hg hm (by omega) (by rw [hc]; show place.length≤_; omega) true (by rw [hc]; simp)
end Go.Proofs.YtkkenbalpnmfmaaDoor

namespace Go.Proofs.YtkkenbalpnmfmaaDoor
open Go.RowKit WM TR TY

def fineT:T:=⟨14,0,0,[elT]⟩
theorem fine_size:size fineT≤100:=by simp [fineT,size_eq,elT,vT]
theorem exE_is (ga : Nat) (w : World) (hr : Rep w (Lt w.heap.size) 3 fineT (nd fineT (some ⟨ga, 0, none⟩) 1)) :
  Calls Tryd.prog 47 #[.agg #[.int .i64 14,.int .i64 0,.int .i64 0,.slice (some ⟨ga,0,none⟩) 1 1]] w fun e w'=>∃ A' c',e = .returned (.agg #[.int .i64 27,.int .i64 0,.int .i64 0,.slice A' 1 c'])∧Rep w' (Lt w'.heap.size) 6 (exT fineT) (nd (exT fineT) A' c')∧Below w.heap.size w w' :=
 example_is 2 fineT (some ⟨ga,0,none⟩) 1 w hr
theorem ofx_is (f er : Int) (Af : Option Addr) (cf ga : Nat) (w : World) (hr : Rep w (Lt w.heap.size) 6 (exT fineT) (nd (exT fineT) Af cf)) (hx : Rep w (Lt w.heap.size) 6 elT (nd elT (some ⟨ga, 0, none⟩) 1)) (hT : ST w) (hg : 0 < w.heap.size) (ho : ofK (exT fineT) f elT = (0, er)) :
  Calls Tryd.prog 29 #[.agg #[.int .i64 27,.int .i64 0,.int .i64 0,.slice Af 1 cf],.int .i64 f,.agg #[.int .i64 7,.int .i64 1,.int .i64 0,.slice (some ⟨ga,0,none⟩) 1 1]] w fun e w'=>e = .returned (.tuple #[.agg #[.int .i64 0,.int .i64 0,.int .i64 0,.slice none 0 0],.int .i64 er])∧Below w.heap.size w w':=by
 have h:=of_is 5 (exT fineT) elT f Af (some ⟨ga,0,none⟩) cf 1 w hr hx (by omega) (ex_size fine_size) (by simp [size_eq,elT,vT]) hT hg
 rw [ho] at h
 exact h
theorem words3_is (w:World):Calls Tryd.prog 23 #[.agg #[.int .i64 2,.int .i64 3,.int .i64 0,.slice none 0 0]] w fun e w'=>e = .returned (.int .i64 3)∧Below w.heap.size w w':=by
 have h:=words_is 0 ⟨2,3,0,[]⟩ none 0 w (Rep.leaf (in_sm (by decide) (by decide)) (in_sm (by decide) (by decide)) (in_sm (by decide) (by decide)) 0 0)
 rw [words0] at h
 exact h
theorem wordsV_is (w:World):Calls Tryd.prog 23 #[.agg #[.int .i64 6,.int .i64 0,.int .i64 0,.slice none 0 0]] w fun e w'=>e = .returned (.int .i64 (-1))∧Below w.heap.size w w':=by
 have h:=words_is 0 vT none 0 w (Rep.leaf (in_sm (by decide) (by decide)) (in_sm (by decide) (by decide)) (in_sm (by decide) (by decide)) 0 0)
 rw [words1] at h
 exact h
theorem is1_is (A : Option Addr) (c : Nat) (B : Option Addr) (w : World) (hr : Rep w (Lt w.heap.size) 5 (exT ⟨14, 1, 0, [⟨4, 3, 0, []⟩]⟩) (nd (exT ⟨14, 1, 0, [⟨4, 3, 0, []⟩]⟩) A c)) (hT : ST w ∧ 0 < w.heap.size) (hm : Reads w w.heap.size 1 B 3 (vi [0, 2, 0])) :
  Calls Tryd.prog 16 #[.agg #[.int .i64 27,.int .i64 0,.int .i64 0,.slice A 1 c],.slice B 3 3,.int .i64 12] w fun e w'=>e = .returned (.bool true)∧Below w.heap.size w w' :=
 isx_is 4 _ A c [0,2,0] 3 B 3 12 w hr (by decide) (two_size _ _ _ _) hT.1 hT.2 hm rfl (by decide) chk1
theorem is2_is (A : Option Addr) (c : Nat) (B : Option Addr) (w : World) (hr : Rep w (Lt w.heap.size) 5 (exT ⟨14, 0, 0, [⟨6, 2, 0, []⟩]⟩) (nd (exT ⟨14, 0, 0, [⟨6, 2, 0, []⟩]⟩) A c)) (hT : ST w ∧ 0 < w.heap.size) (hm : Reads w w.heap.size 1 B 4 (vi [0, 2, 0, 0])) :
  Calls Tryd.prog 16 #[.agg #[.int .i64 27,.int .i64 0,.int .i64 0,.slice A 1 c],.slice B 4 4,.int .i64 5] w fun e w'=>e = .returned (.bool true)∧Below w.heap.size w w' :=
 isx_is 4 _ A c [0,2,0,0] 4 B 4 5 w hr (by decide) (two_size _ _ _ _) hT.1 hT.2 hm rfl (by decide) chk2
theorem is3_is (A : Option Addr) (c : Nat) (B : Option Addr) (w : World) (hr : Rep w (Lt w.heap.size) 5 (exT ⟨14, 0, 0, [⟨5, 1, 0, []⟩]⟩) (nd (exT ⟨14, 0, 0, [⟨5, 1, 0, []⟩]⟩) A c)) (hT : ST w ∧ 0 < w.heap.size) (hm : Reads w w.heap.size 1 B 3 (vi [0, 2, 0])) :
  Calls Tryd.prog 16 #[.agg #[.int .i64 27,.int .i64 0,.int .i64 0,.slice A 1 c],.slice B 3 3,.int .i64 12] w fun e w'=>e = .returned (.bool true)∧Below w.heap.size w w' :=
 isx_is 4 _ A c [0,2,0] 3 B 3 12 w hr (by decide) (two_size _ _ _ _) hT.1 hT.2 hm rfl (by decide) chk3
theorem is4_is (A : Option Addr) (c : Nat) (B : Option Addr) (w : World) (hr : Rep w (Lt w.heap.size) 5 (exT ⟨24, 0, 0, [⟨12, 0, 0, []⟩]⟩) (nd (exT ⟨24, 0, 0, [⟨12, 0, 0, []⟩]⟩) A c)) (hT : ST w ∧ 0 < w.heap.size) (hm : Reads w w.heap.size 1 B 4 (vi [0, 2, 0, 0])) :
  Calls Tryd.prog 16 #[.agg #[.int .i64 27,.int .i64 0,.int .i64 0,.slice A 1 c],.slice B 4 4,.int .i64 5] w fun e w'=>e = .returned (.bool true)∧Below w.heap.size w w' :=
 isx_is 4 _ A c [0,2,0,0] 4 B 4 5 w hr (by decide) (two_size _ _ _ _) hT.1 hT.2 hm rfl (by decide) chk4
theorem is0_is (A : Option Addr) (c : Nat) (w : World) (hr : Rep w (Lt w.heap.size) 6 (exT fineT) (nd (exT fineT) A c)) (hT : ST w ∧ 0 < w.heap.size) :
  Calls Tryd.prog 16 #[.agg #[.int .i64 27,.int .i64 0,.int .i64 0,.slice A 1 c],.slice none 0 0,.int .i64 0] w fun e w'=>e = .returned (.bool true)∧Below w.heap.size w w' :=
 isx_is 5 _ A c [] 0 none 0 0 w hr (by decide) fine_size hT.1 hT.2 (reads_nil _ _) rfl (by decide) chk0
set_option maxRecDepth 100000 in
set_option maxHeartbeats 16000000 in
theorem lives_is (w : World) (hT : ST w) (hg : 0 < w.heap.size) :
  Calls Tryd.prog 17 #[] w fun e w'=>e = .returned (.bool true)∧Below w.heap.size w w':=by
 have HT:=Lib.hid hT
 have HG:=Lib.hid hg
 clear hT hg
 go_enter Tryd.func17,Tryd.ntmps17
 go_upto_region 2 with (go_at_call 46; refine (node_is _ _ _ _ _ _).mono ?_; rintro e w1 ⟨rfl,hb1⟩; have HB1:=Lib.hid hb1; clear hb1)
 obtain ⟨V1,hV1⟩:∃ V,V = w1.alloc (.cells #[.int .i64 6,.int .i64 0,.int .i64 0,.slice none 0 0] 25):=⟨_,rfl⟩
 obtain ⟨g1,hg1⟩:∃ g,g = w1.heap.size:=⟨_,rfl⟩
 have k1:Blk V1 g1 25 #[.int .i64 6,.int .i64 0,.int .i64 0,.slice none 0 0]:=by rw [hV1,hg1]; exact Blk.new _ _ _
 have HBV1:Hid (Below w.heap.size w V1):=Lib.hid (by rw [hV1]; exact ba HB1.out _)
 rw [← hV1,← hg1]
 have HK1:=Lib.hid k1
 obtain ⟨y0,y1,y2,y3⟩:V1.cell? ⟨g1,0,none⟩ = some (.int .i64 6)∧V1.cell? ⟨g1,1,none⟩ = some (.int .i64 0)∧V1.cell? ⟨g1,2,none⟩ = some (.int .i64 0)∧V1.cell? ⟨g1,3,none⟩ = some (.slice none 0 0):=⟨k1.cell 0,k1.cell 1,k1.cell 2,k1.cell 3⟩
 clear hV1 hg1 k1
 go_upto_region 3 with (go_at_call 46; go_loud (refine (node1_is 7 1 6 0 V1 (by decide) (by decide) (by decide) (by decide)).mono ?_; rintro e w2 ⟨ga,rfl,hr2,hb2⟩; have HR2:=Lib.hid hr2; have HB2:=Lib.hid hb2; clear hr2 hb2))
 clear y0 y1 y2 y3
 obtain ⟨V2,hV2⟩:∃ V,V = w2.alloc (.cells #[.int .i64 7,.int .i64 1,.int .i64 0,.slice (some ⟨ga,0,none⟩) 1 1] 25):=⟨_,rfl⟩
 obtain ⟨g2,hg2⟩:∃ g,g = w2.heap.size:=⟨_,rfl⟩
 have k2:Blk V2 g2 25 #[.int .i64 7,.int .i64 1,.int .i64 0,.slice (some ⟨ga,0,none⟩) 1 1]:=by rw [hV2,hg2]; exact Blk.new _ _ _
 have hbv2:Below w2.heap.size w2 V2:=by rw [hV2]; exact below_new _ _
 have HBV2:Hid (Below V1.heap.size V1 V2):=Lib.hid (bt HB2.out hbv2)
 have HEL:Hid (Rep V2 (Lt V2.heap.size) 2 elT (nd elT (some ⟨ga,0,none⟩) 1)):=Lib.hid (rep_next HR2.out hbv2)
 rw [← hV2,← hg2]
 have HK2:=Lib.hid k2
 obtain ⟨y0,y1,y2,y3⟩:V2.cell? ⟨g2,0,none⟩ = some (.int .i64 7)∧V2.cell? ⟨g2,1,none⟩ = some (.int .i64 1)∧V2.cell? ⟨g2,2,none⟩ = some (.int .i64 0)∧V2.cell? ⟨g2,3,none⟩ = some (.slice (some ⟨ga,0,none⟩) 1 1):=⟨k2.cell 0,k2.cell 1,k2.cell 2,k2.cell 3⟩
 clear hV2 hg2 k2 hbv2
 go_upto_region 4 with (first
  | (go_at_call 46; refine (nodeR_is 14 0 1 elT (some ⟨ga,0,none⟩) 1 V2 HEL.out (by decide) (by decide)).mono ?_; rintro e w3 ⟨gb,rfl,hr3,hb3⟩; have HR3:=Lib.hid hr3; have HB3:=Lib.hid hb3; clear hr3 hb3)
  | (go_at_call 47; refine (exE_is gb w3 HR3.out).mono ?_; rintro e w4 ⟨Af,cf,rfl,hr4,hb4⟩; have HR4:=Lib.hid hr4; have HB4:=Lib.hid hb4; clear hr4 hb4))
 clear y0 y1 y2 y3
 obtain ⟨V3,hV3⟩:∃ V,V = w4.alloc (.cells #[.int .i64 27,.int .i64 0,.int .i64 0,.slice Af 1 cf] 25):=⟨_,rfl⟩
 obtain ⟨g3,hg3⟩:∃ g,g = w4.heap.size:=⟨_,rfl⟩
 have k3:Blk V3 g3 25 #[.int .i64 27,.int .i64 0,.int .i64 0,.slice Af 1 cf]:=by rw [hV3,hg3]; exact Blk.new _ _ _
 have hbv3:Below w4.heap.size w4 V3:=by rw [hV3]; exact below_new _ _
 have hbV23:Below V2.heap.size V2 V3:=bt HB3.out (bt HB4.out hbv3)
 rw [← hV3,← hg3]
 have HK3:=Lib.hid k3
 have HBv3:=Lib.hid hbv3
 have HBV23:=Lib.hid hbV23
 clear hV3 hg3 k3 hbv3 hbV23
 go_upto_region 6 with fail
 obtain ⟨V5,hV5⟩:∃ V,V = (V3.alloc (.cells #[.int .i64 0,.int .i64 2,.int .i64 0] 3)).alloc (.cells #[.int .i64 0,.int .i64 2,.int .i64 0,.int .i64 0] 3):=⟨_,rfl⟩
 rw [← hV5]
 have hb35:Below V3.heap.size V3 V5:=by rw [hV5]; exact ba (below_new _ _) _
 have hb25:=bt HBV23.out hb35
 have hb15:=bt HBV2.out hb25
 have q1:=HK1.out.below hb15 HK1.out.lt
 have q2:=HK2.out.below hb25 HK2.out.lt
 have q3:=HK3.out.below hb35 HK3.out.lt
 have hs1:Reads V5 V5.heap.size 1 (some ⟨V3.heap.size,0,none⟩) 3 (vi [0,2,0]):=by
  rw [hV5]
  exact Reads.of_own (ownsRow_below (own_lit (w:=V3) (base:=V3.heap.size) (e:=3) (size:=1) (xs:=vi [0,2,0]) (n:=3) (Nat.le_refl _) rfl (len_le (by omega))) (below_new _ _))
 have hs2:Reads V5 V5.heap.size 1 (some ⟨V3.heap.size + 1,0,none⟩) 4 (vi [0,2,0,0]):=by
  rw [hV5]
  have h:=Reads.of_own (own_lit (w:=V3.alloc (.cells #[.int .i64 0,.int .i64 2,.int .i64 0] 3)) (base:=V3.heap.size) (e:=3) (size:=1) (xs:=vi [0,2,0,0]) (n:=4) (by rw [size_alloc]; omega) rfl (len_le (by omega)))
  have e:(V3.alloc (.cells #[.int .i64 0,.int .i64 2,.int .i64 0] 3)).heap.size = V3.heap.size + 1:=size_alloc _ _
  rw [← e]
  exact h
 have HKX:Hid (∀ W,Below V5.heap.size V5 W→(W.cell? ⟨g1,0,none⟩ = some (.int .i64 6)∧W.cell? ⟨g1,1,none⟩ = some (.int .i64 0)∧W.cell? ⟨g1,2,none⟩ = some (.int .i64 0)∧W.cell? ⟨g1,3,none⟩ = some (.slice none 0 0))∧(W.cell? ⟨g2,0,none⟩ = some (.int .i64 7)∧W.cell? ⟨g2,1,none⟩ = some (.int .i64 1)∧W.cell? ⟨g2,2,none⟩ = some (.int .i64 0)∧W.cell? ⟨g2,3,none⟩ = some (.slice (some ⟨ga,0,none⟩) 1 1))∧(W.cell? ⟨g3,0,none⟩ = some (.int .i64 27)∧W.cell? ⟨g3,1,none⟩ = some (.int .i64 0)∧W.cell? ⟨g3,2,none⟩ = some (.int .i64 0)∧W.cell? ⟨g3,3,none⟩ = some (.slice Af 1 cf))):=Lib.hid fun W hb=>by
  have e1:=q1.below hb q1.lt
  have e2:=q2.below hb q2.lt
  have e3:=q3.below hb q3.lt
  exact ⟨⟨e1.cell 0,e1.cell 1,e1.cell 2,e1.cell 3⟩,⟨e2.cell 0,e2.cell 1,e2.cell 2,e2.cell 3⟩,e3.cell 0,e3.cell 1,e3.cell 2,e3.cell 3⟩
 have HST:Hid (∀ W,Below V5.heap.size V5 W→Reads W W.heap.size 1 (some ⟨V3.heap.size,0,none⟩) 3 (vi [0,2,0])∧Reads W W.heap.size 1 (some ⟨V3.heap.size + 1,0,none⟩) 4 (vi [0,2,0,0])):=Lib.hid fun W hb=>⟨(hs1.below hb).more hb.size,(hs2.below hb).more hb.size⟩
 have HFN:Hid (∀ W,Below V5.heap.size V5 W→Rep W (Lt W.heap.size) 6 (exT fineT) (nd (exT fineT) Af cf)∧Rep W (Lt W.heap.size) 6 elT (nd elT (some ⟨ga,0,none⟩) 1)):=Lib.hid fun W hb =>
  ⟨rep_next HR4.out (bt HBv3.out (bt hb35 hb)),(rep_next HEL.out (bt hb25 hb)).deeper (by omega)⟩
 have HB05:Hid (Below w.heap.size w V5):=Lib.hid (bt HBV1.out hb15)
 have HTT:Hid (∀ W,Below V5.heap.size V5 W→ST W∧0 < W.heap.size):=Lib.hid fun W hb=>⟨HT.out.below (bt HB05.out hb) HG.out,Nat.lt_of_lt_of_le HG.out (bt HB05.out hb).size⟩
 have HB:Hid (Below V5.heap.size V5 V5):=Lib.hid (Below.refl _ _)
 clear hV5 hb35 hb25 hb15 q1 q2 q3 hs1 hs2
 obtain ⟨⟨x0,x1,x2,x3⟩,⟨y0,y1,y2,y3⟩,⟨z0,z1,z2,z3⟩⟩:=HKX.out _ HB.out
 go_upto_region 7 with (first
  | (go_at_call 16; (with_reducible refine (is0_is _ _ _ (HFN.out _ HB.out).1 (HTT.out _ HB.out)).mono ?_); rintro e w9 ⟨rfl,hb9⟩; replace HB:=Lib.hid (bt HB.out hb9); clear hb9 x0 x1 x2 x3 y0 y1 y2 y3 z0 z1 z2 z3)
  | (go_at_call 16; (with_reducible refine (is1_is _ _ _ _ HX.out (HTT.out _ HB.out) (HST.out _ HB.out).1).mono ?_); rintro e w9 ⟨rfl,hb9⟩; replace HB:=Lib.hid (bt HB.out hb9); clear hb9)
  | (go_at_call 16; (with_reducible refine (is2_is _ _ _ _ HX.out (HTT.out _ HB.out) (HST.out _ HB.out).2).mono ?_); rintro e w9 ⟨rfl,hb9⟩; replace HB:=Lib.hid (bt HB.out hb9); clear hb9)
  | (go_at_call 46; (with_reducible refine (node1_is _ _ _ _ _ (by decide) (by decide) (by decide) (by decide)).mono ?_); rintro e w7 ⟨gq,rfl,hq,hbq⟩; have HQ:=Lib.hid hq; replace HB:=Lib.hid (bt HB.out hbq); clear hq hbq)
  | (go_at_call 46; (with_reducible refine (node_is _ _ none 0 0 _).mono ?_); rintro e w6 ⟨rfl,hb6⟩; replace HB:=Lib.hid (bt HB.out hb6); clear hb6)
  | (go_at_call 47; (with_reducible refine (ex2_is _ _ _ _ _ _ HQ.out).mono ?_); rintro e w8 ⟨Ax,cx,rfl,hx,hbx⟩; have HX:=Lib.hid hx; replace HB:=Lib.hid (bt HB.out hbx); clear hx hbx))
 go_upto_region 8 with (first
  | (go_at_call 16; (with_reducible refine (is3_is _ _ _ _ HX.out (HTT.out _ HB.out) (HST.out _ HB.out).1).mono ?_); rintro e w9 ⟨rfl,hb9⟩; replace HB:=Lib.hid (bt HB.out hb9); clear hb9)
  | (go_at_call 16; (with_reducible refine (is4_is _ _ _ _ HX.out (HTT.out _ HB.out) (HST.out _ HB.out).2).mono ?_); rintro e w9 ⟨rfl,hb9⟩; replace HB:=Lib.hid (bt HB.out hb9); clear hb9)
  | (go_at_call 46; (with_reducible refine (node1_is _ _ _ _ _ (by decide) (by decide) (by decide) (by decide)).mono ?_); rintro e w7 ⟨gq,rfl,hq,hbq⟩; have HQ:=Lib.hid hq; replace HB:=Lib.hid (bt HB.out hbq); clear hq hbq)
  | (go_at_call 46; (with_reducible refine (node_is _ _ none 0 0 _).mono ?_); rintro e w6 ⟨rfl,hb6⟩; replace HB:=Lib.hid (bt HB.out hb6); clear hb6)
  | (go_at_call 47; (with_reducible refine (ex2_is _ _ _ _ _ _ HQ.out).mono ?_); rintro e w8 ⟨Ax,cx,rfl,hx,hbx⟩; have HX:=Lib.hid hx; replace HB:=Lib.hid (bt HB.out hbx); clear hx hbx))
 obtain ⟨⟨x0,x1,x2,x3⟩,⟨y0,y1,y2,y3⟩,⟨z0,z1,z2,z3⟩⟩:=HKX.out _ HB.out
 go_upto_region 9 with (go_at_call 29; refine (ofx_is 0 0 Af cf ga _ (HFN.out _ HB.out).1 (HFN.out _ HB.out).2 (HTT.out _ HB.out).1 (HTT.out _ HB.out).2 of0).mono ?_; rintro e w10 ⟨rfl,hb10⟩; replace HB:=Lib.hid (bt HB.out hb10); clear hb10 x0 x1 x2 x3 y0 y1 y2 y3 z0 z1 z2 z3)
 obtain ⟨V8,hV8⟩:∃ V,V = w10.alloc (.cells #[.int .i64 0,.int .i64 0,.int .i64 0,.slice none 0 0] 25):=⟨_,rfl⟩
 obtain ⟨g8,hg8⟩:∃ g,g = w10.heap.size:=⟨_,rfl⟩
 have k8:Blk V8 g8 25 #[.int .i64 0,.int .i64 0,.int .i64 0,.slice none 0 0]:=by rw [hV8,hg8]; exact Blk.new _ _ _
 have hb8:Below w10.heap.size w10 V8:=by rw [hV8]; exact below_new _ _
 rw [← hV8,← hg8]
 replace HB:=Lib.hid (bt HB.out hb8)
 have HK8:=Lib.hid k8
 have HBV8:=HB
 have HB8:Hid (Below V8.heap.size V8 V8):=Lib.hid (Below.refl _ _)
 clear hV8 hg8 k8 hb8
 obtain ⟨⟨x0,x1,x2,x3⟩,⟨y0,y1,y2,y3⟩,⟨z0,z1,z2,z3⟩⟩:=HKX.out _ HB.out
 go_upto_region 10 with (go_at_call 29; refine (ofx_is 1 5 Af cf ga _ (HFN.out _ HB.out).1 (HFN.out _ HB.out).2 (HTT.out _ HB.out).1 (HTT.out _ HB.out).2 of1).mono ?_; rintro e w10 ⟨rfl,hb10⟩; replace HB:=Lib.hid (bt HB.out hb10); replace HB8:=Lib.hid (bt HB8.out hb10); clear hb10 x0 x1 x2 x3 y0 y1 y2 y3 z0 z1 z2 z3)
 obtain ⟨V9,hV9⟩:∃ V,V = w10.alloc (.cells #[.int .i64 0,.int .i64 0,.int .i64 0,.slice none 0 0] 25):=⟨_,rfl⟩
 obtain ⟨g9,hg9⟩:∃ g,g = w10.heap.size:=⟨_,rfl⟩
 have hb9:Below w10.heap.size w10 V9:=by rw [hV9]; exact below_new _ _
 rw [← hV9,← hg9]
 replace HB:=Lib.hid (bt HB.out hb9)
 replace HB8:=Lib.hid (bt HB8.out hb9)
 have u0:V9.cell? ⟨g8,0,none⟩ = some (.int .i64 0):=(HK8.out.below HB8.out HK8.out.lt).cell 0
 clear hV9 hg9 hb9
 go_wp2_with (first
  | (go_at_call 23; (with_reducible refine (words3_is _).mono ?_); rintro e w11 ⟨rfl,hb11⟩; replace HB:=Lib.hid (bt HB.out hb11); clear hb11; obtain ⟨⟨x0,x1,x2,x3⟩,_,_⟩:=HKX.out _ HB.out)
  | (go_at_call 23; (with_reducible refine (wordsV_is _).mono ?_); rintro e w12 ⟨rfl,hb12⟩; replace HB:=Lib.hid (bt HB.out hb12); clear hb12 x0 x1 x2 x3)
  | (go_at_call 46; (with_reducible refine (node_is _ _ none 0 0 _).mono ?_); rintro e w6 ⟨rfl,hb6⟩; replace HB:=Lib.hid (bt HB.out hb6); clear hb6 u0))
 go_ret
 exact ⟨rfl,bt HB05.out HB.out⟩
end Go.Proofs.YtkkenbalpnmfmaaDoor

namespace Go.Proofs.YtkkenbalpnmfmaaDoor
open Go.RowKit WM TR

set_option maxRecDepth 100000 in
set_option maxHeartbeats 1000000 in
theorem rat_nil (d : Nat) (t : T) (S : Nat → Prop) (A P : Option Addr) (c pc : Nat) (w : World) (ht : Rep w S (d + 1) t (nd t A c)) :
  Calls Tryd.prog 40 #[.agg #[.int .i64 t.k,.int .i64 t.n,.int .i64 t.m,.slice A t.kids.length c],.slice P 0 pc] w fun e w'=>∃ u A' c',(at? [] t).getD zeroT = u∧e = .returned (.tuple #[.agg #[.int .i64 u.k,.int .i64 u.n,.int .i64 u.m,.slice A' u.kids.length c'],.bool (at? [] t).isSome])∧Rep w S (d + 1) u (nd u A' c')∧Below w.heap.size w w':=by
 go_enter Tryd.func40,Tryd.ntmps40
 go_wp2_with fail
 refine bodyPost_ret (v:=.tuple #[.agg #[.int .i64 t.k,.int .i64 t.n,.int .i64 t.m,.slice A t.kids.length c],.bool true]) (by simp [results,Tryd.results40,go_sem]) rfl ⟨t,A,c,rfl,rfl,?_,?_⟩
 ·exact ht
 ·exact ba (below_new _ _) _
attribute [local go_sem ↓] shutN
set_option maxRecDepth 100000 in
set_option maxHeartbeats 2000000 in
theorem rat_is : ∀ (p : List Int) (d : Nat) (t : T) (S : Nat → Prop) (A P : Option Addr) (c pc : Nat) (w : World), Rep w S (d + 1) t (nd t A c) → Rd w S 1 P p.length (vi p) → In S w.heap.size → p.length ≤ pc → size t ≤ 1000000 → p.length ≤ 9223372036854775807 →
  Calls Tryd.prog 40 #[.agg #[.int .i64 t.k,.int .i64 t.n,.int .i64 t.m,.slice A t.kids.length c],.slice P p.length pc] w fun e w'=>∃ u A' c',(at? p t).getD zeroT = u∧e = .returned (.tuple #[.agg #[.int .i64 u.k,.int .i64 u.n,.int .i64 u.m,.slice A' u.kids.length c'],.bool (at? p t).isSome])∧Rep w S (d + 1) u (nd u A' c')∧Below w.heap.size w w':=by
 intro p
 induction p with
 | nil =>
  intro d t S A P c pc w ht _ _ _ _ _
  exact rat_nil d t S A P c pc w ht
 | cons i p ih =>
  intro d t S A P c pc w ht hp hin hpc hst hpl
  have hkl:t.kids.length≤1000000:=by have:=kids_lt t; omega
  obtain ⟨b,off,hP,hbS,hcell⟩:=hp.lit (by simp)
  have hb:b < w.heap.size:=hin b hbS
  subst hP
  have hc0:w.cell? ⟨b,off,none⟩ = some (.int .i64 i):=hcell 0 (.int .i64 i) rfl
  have hcap:=ht.cap
  obtain ⟨n,hn⟩:∃ n,n = p.length:=⟨_,rfl⟩
  obtain ⟨l,hl⟩:∃ l,l = t.kids.length:=⟨_,rfl⟩
  simp only [List.length_cons] at hp hpc hpl ⊢
  rw [← hn] at hp hpc hpl ih ⊢
  rw [← hl] at hkl hcap ⊢
  have HN:=Lib.hid hn
  have HL:=Lib.hid hl
  have HP:=Lib.hid hp
  have HI:=Lib.hid hin
  have HT:=Lib.hid ht
  have HC:=Lib.hid hcell
  clear hn hl hp ht hcell hin
  by_cases hi:i < 0
  ·have hnone:at? (i :: p) t = none:=by unfold at?; rw [if_pos hi]
   rw [hnone]
   have hd:decide (i < 0) = true:=by simpa using hi
   clear hnone
   go_enter Tryd.func40,Tryd.ntmps40
   go_wp2_with fail
   go_quiet (fail)
   go_wp2_with (refine wpList_store_row rfl 25 (.tmp 4) (.tmp 23) rfl (w.heap.size + 1) #[.int .i64 0,.int .i64 0,.int .i64 0,.slice none 0 0] rfl rfl 25 #[.int .i64 0,.int .i64 0,.int .i64 0,.slice none 0 0] ((blk_new2 _ _ _ _).drewN _) (by rw [size_node]; rfl) rfl rfl ?_)
   refine bodyPost_ret (v:=.tuple #[.agg #[.int .i64 0,.int .i64 0,.int .i64 0,.slice none 0 0],.bool false]) (by simp [results,Tryd.results40,go_sem]) rfl ⟨zeroT,none,0,rfl,rfl,Rep.leaf in0 in0 in0 _ _,?_⟩
   exact ((((below_drewN (ba (below_new _ _) _) _).setCell (Nat.le_add_right _ _) _).setCell (Nat.le_add_right _ _) _).setCell (Nat.le_add_right _ _) _).setCell (Nat.le_add_right _ _) _
  ·by_cases hil:i < l
   ·obtain ⟨j,rfl⟩:=Int.eq_ofNat_of_zero_le (show 0≤i by omega)
    have hjl:j < l:=by omega
    obtain ⟨v,hv⟩:∃ v,t.kids[j]? = some v:=⟨_,List.getElem?_eq_getElem (by rw [← HL.out]; exact hjl)⟩
    have hat:at? ((j:Int) :: p) t = at? p v:=by
     rw [at?,if_neg hi]
     simp only [Int.toNat_natCast,hv]
    rw [hat]
    obtain ⟨b1,o1,A1,c1,hA1,hb1,hcl1,hr1⟩:=HT.out.kid hv
    have hsv:size v≤1000000:=by have:=size_kid hv; omega
    have htl:=Rd.cut1 HP.out hpc
    have HR1:=Lib.hid (hr1.deeper (Nat.le_succ d))
    have hb1:=HI.out _ hb1
    have hpc1:n≤pc - 1:=by omega
    have hn1:n≤9223372036854775807:=by omega
    subst hA1
    have hd:decide ((j:Int) < 0) = false:=by simp
    have hd2:decide ((l:Int)≤j) = false:=by simp; omega
    have hc3:(w.alloc (.cells #[.int .i64 t.k,.int .i64 t.n,.int .i64 t.m,.slice (some ⟨b1,o1,none⟩) l c] 25)).cell? ⟨w.heap.size,3,none⟩ = some (.slice (some ⟨b1,o1,none⟩) l c):=(Blk.new w _ _).cell 3
    have hij:(0:Int)≤j∧(j:Int) < l:=⟨by omega,by omega⟩
    have hcut:=cut1 b off (n + 1) pc (by omega)
    obtain ⟨P',hP'⟩:∃ P',P' = (if pc = 1 then some (⟨b,off,none⟩:Addr) else some ⟨b,off + 1,none⟩):=⟨_,rfl⟩
    rw [← hP'] at hcut htl
    have HTL:=Lib.hid htl
    clear hP' htl
    clear hat hi hil hv
    go_enter Tryd.func40,Tryd.ntmps40
    go_wp2_with fail
    go_quiet (fail)
    go_wp2_with fail
    obtain ⟨W2,hW2⟩:∃ W2,W2 = ((w.alloc (.cells #[.int .i64 t.k,.int .i64 t.n,.int .i64 t.m,.slice (some ⟨b1,o1,none⟩) l c] 25)).alloc (.cells #[.int .i64 0,.int .i64 0,.int .i64 0,.slice none 0 0] 25)).drewN nq:=⟨_,rfl⟩
    have HB2:Hid (Below w.heap.size w W2.drew):=Lib.hid (by rw [hW2]; exact (below_drewN (ba (below_new _ _) _) _).drew)
    have HO2:Hid (Blk W2.drew (w.heap.size + 1) 25 #[.int .i64 0,.int .i64 0,.int .i64 0,.slice none 0 0]):=Lib.hid (by rw [hW2]; exact ((blk_new2 _ _ _ _).drewN _).drew)
    have hc3':W2.drew.cell? ⟨w.heap.size,3,none⟩ = some (.slice (some ⟨b1,o1,none⟩) l c):=by rw [hW2]; exact (((blk_new3 _ _ _ _).drewN _).drew).cell 3
    have hc0':W2.drew.cell? ⟨b,off,none⟩ = some (.int .i64 (j:Int)):=(HB2.out.cell (p:=⟨b,off,none⟩) hb).trans hc0
    have hld:(ldN (.pointer (some ⟨b1,o1 + j * 4,none⟩))).run Tryd.prog W2.drew = .ok (.agg #[.int .i64 v.k,.int .i64 v.n,.int .i64 v.m,.slice A1 v.kids.length c1]) W2.drew:=load_nd fun i x hx=>(HB2.out.cell (p:=⟨b1,_,none⟩) hb1).trans (hcl1 i x hx)
    rw [← hW2]
    clear hW2 hc0 hc3
    go_region_with (go_at_call 40; refine (ih d v S A1 _ c1 _ _ ?h1 ?h2 ?h3 hpc1 hsv hn1).mono ?_; (case h1=>exact HR1.out.later HI.out HB2.out); (case h2=>exact HTL.out.keep (Keeps.below HI.out HB2.out)); (case h3=>exact HI.out.more HB2.out.size); rintro e w' ⟨u,A',c',hu,rfl,hru,hbw⟩; have HO3:=Lib.hid (HO2.out.below hbw HO2.out.lt); have g0:=HO3.out.cell 0; have g1:=HO3.out.cell 1; have g2:=HO3.out.cell 2; have g3:=HO3.out.cell 3; have f0:=HO3.out.frozen 0; have f1:=HO3.out.frozen 1; have f2:=HO3.out.frozen 2; have f3:=HO3.out.frozen 3)
    all_goals
     go_wp2_with fail
     refine bodyPost_ret (v:=.tuple #[.agg #[.int .i64 u.k,.int .i64 u.n,.int .i64 u.m,.slice A' u.kids.length c'],.bool (at? p v).isSome]) (by simp [results,Tryd.results40,go_sem,g0,g1,g2,g3]) rfl ⟨u,A',c',hu,rfl,?_,?_⟩
     ·exact hru.keep (fun b hb=>(HB2.out.block b (HI.out b hb)).symm)
     ·exact ((((bt HB2.out hbw).setCell (Nat.le_add_right _ _) _).setCell (Nat.le_add_right _ _) _).setCell (Nat.le_add_right _ _) _).setCell (Nat.le_add_right _ _) _
   ·have hnone : at? (i :: p) t = none := by
     unfold at?
     rw [if_neg hi,List.getElem?_eq_none (by rw [← HL.out]; omega)]
    rw [hnone]
    have hd:decide (i < 0) = false:=by simpa using hi
    have hd2:decide ((l:Int)≤i) = true:=by simpa using hil
    have hcl:(w.alloc (.cells #[.int .i64 t.k,.int .i64 t.n,.int .i64 t.m,.slice A l c] 25)).cell? ⟨w.heap.size,3,none⟩ = some (.slice A l c):=(Blk.new w _ _).cell 3
    clear hnone
    go_enter Tryd.func40,Tryd.ntmps40
    go_wp2_with fail
    go_quiet (fail)
    go_wp2_with (refine wpList_store_row rfl 25 (.tmp 4) (.tmp 23) rfl (w.heap.size + 1) #[.int .i64 0,.int .i64 0,.int .i64 0,.slice none 0 0] rfl rfl 25 #[.int .i64 0,.int .i64 0,.int .i64 0,.slice none 0 0] ((blk_new2 _ _ _ _).drewN _) (by rw [size_node]; rfl) rfl rfl ?_)
    refine bodyPost_ret (v:=.tuple #[.agg #[.int .i64 0,.int .i64 0,.int .i64 0,.slice none 0 0],.bool false]) (by simp [results,Tryd.results40,go_sem]) rfl ⟨zeroT,none,0,rfl,rfl,Rep.leaf in0 in0 in0 _ _,?_⟩
    exact ((((below_drewN (ba (below_new _ _) _) _).setCell (Nat.le_add_right _ _) _).setCell (Nat.le_add_right _ _) _).setCell (Nat.le_add_right _ _) _).setCell (Nat.le_add_right _ _) _
end Go.Proofs.YtkkenbalpnmfmaaDoor

namespace Go.Proofs.YtkkenbalpnmfmaaDoor
open Go.RowKit WM TR

def codeOf:Option T→Int
 | some _=>0
 | none=>6
def SetPost (o:Option T) (S:Nat→Prop) (w:World) (e:Ending) (w':World):Prop :=
 ∃ t A' c' D,o.getD zeroT = t∧e = .returned (.tuple #[.agg #[.int .i64 t.k,.int .i64 t.n,.int .i64 t.m,.slice A' t.kids.length c'],.int .i64 (codeOf o)])∧Rep w' (Plus S w.heap.size w'.heap.size) D t (nd t A' c')∧Below w.heap.size w w'
def SetCut (o:Option T) (S:Nat→Prop) (e:Nat) (W2:World) (s8 s9:Value) (wx:World):Prop :=
 ∃ gk u A' c' D,s8 = .pointer (some ⟨gk,0,none⟩)∧s9 = .int .i64 (codeOf o)∧o.getD zeroT = u∧Blk wx gk 25 #[.int .i64 u.k,.int .i64 u.n,.int .i64 u.m,.slice A' u.kids.length c']∧e≤gk ∧
  Rep wx (fun b=>S b∨(e≤b∧b < wx.heap.size∧b≠gk)) D u (nd u A' c')∧Below e W2 wx
theorem SetCut.late {o : Option T} {S : Nat → Prop} {e : Nat} {W2 w3 : World} {u : T} {A' : Option Addr} {c' D : Nat} (hin : In S e) (he : W2.heap.size = e) (hu : o.getD zeroT = u) (hru : Rep w3 (Plus S W2.heap.size w3.heap.size) D u (nd u A' c')) (hbw : Below W2.heap.size W2 w3) :
  SetCut o S e W2 (.pointer (some ⟨w3.heap.size,0,none⟩)) (.int .i64 (codeOf o)) (w3.alloc (.cells #[.int .i64 u.k,.int .i64 u.n,.int .i64 u.m,.slice A' u.kids.length c'] 25)):=by
 subst he
 have hs:=hbw.size
 have hin3:In (Plus S W2.heap.size w3.heap.size) w3.heap.size:=hin.plus hs
 refine ⟨w3.heap.size,u,A',c',D,rfl,rfl,hu,Blk.new _ _ _,hs,Rep.mono ?_ (hru.keep (Keeps.below hin3 (below_new _ _))),?_⟩
 ·intro b hb
  rcases hb with hb | hb
  ·exact .inl hb
  ·exact .inr ⟨hb.1,by rw [size_alloc]; omega,by omega⟩
 ·exact hbw.alloc hs _
theorem SetCut.early {o : Option T} {S : Nat → Prop} {e : Nat} {W2 w3 : World} {u : T} {A' : Option Addr} {c' D : Nat} {cs : List Value} {o0 : Obj} (hin : In S e) (he : W2.heap.size = e) (hu : o.getD zeroT = u) (hru : Rep w3 (Plus S (W2.alloc o0).heap.size w3.heap.size) D u (nd u A' c'))
  (hbw:Below (W2.alloc o0).heap.size (W2.alloc o0) w3) (hk:Blk w3 W2.heap.size 25 cs.toArray) (hcs:cs.length = 4) :
  SetCut o S e W2 (.pointer (some ⟨W2.heap.size,0,none⟩)) (.int .i64 (codeOf o)) ((((w3.setCell ⟨W2.heap.size,0,none⟩ (.int .i64 u.k)).setCell ⟨W2.heap.size,1,none⟩ (.int .i64 u.n)).setCell ⟨W2.heap.size,2,none⟩ (.int .i64 u.m)).setCell ⟨W2.heap.size,3,none⟩ (.slice A' u.kids.length c')):=by
 subst he
 have hs:=hbw.size
 rw [size_alloc] at hs hru
 refine ⟨W2.heap.size,u,A',c',D,rfl,rfl,hu,put4_blk hk hcs _ _ _ _,Nat.le_refl _,Rep.mono ?_ (put4_rep hru (fun hb=>?_) _ _ _ _),?_⟩
 ·intro b hb
  rcases hb with hb | hb
  ·exact .inl hb
  ·exact .inr ⟨by omega,by rw [(gw4 _ _ _ _ _ _).2]; exact hb.2,by omega⟩
 ·rcases hb with hb | hb
  ·have:=hin _ hb; omega
  ·omega
 ·exact put4_below (((Below.refl _ W2).alloc (Nat.le_refl _) o0).trans (hbw.mono (by rw [size_alloc]; omega))) _ _ _ _

end Go.Proofs.YtkkenbalpnmfmaaDoor

namespace Go.Proofs.YtkkenbalpnmfmaaDoor
open Go.RowKit WM TR

def SetC (p:List Int):Prop :=
 ∀ (d dx:Nat) (t x:T) (S:Nat→Prop) (A P X:Option Addr) (c pc xc n:Nat) (w:World),n = p.length→Rep w S d t (nd t A c)→Rep w S dx x (nd x X xc)→Rd w S 1 P n (vi p)→In S w.heap.size→n≤pc→size t≤1000000→n≤9223372036854775807 →
  Calls Tryd.prog 41 #[.agg #[.int .i64 t.k,.int .i64 t.n,.int .i64 t.m,.slice A t.kids.length c],.slice P n pc,.agg #[.int .i64 x.k,.int .i64 x.n,.int .i64 x.m,.slice X x.kids.length xc]] w (SetPost (set? p t x) S w)

set_option maxRecDepth 100000 in
set_option maxHeartbeats 1000000 in
theorem set_nil:SetC []:=by
 intro d dx t x S A P X c pc xc n w hn ht hx hp hin hpc hst hpl
 subst hn
 have HX:=Lib.hid hx
 have HI:=Lib.hid hin
 clear ht hx hp hin
 go_enter Tryd.func41,Tryd.ntmps41
 go_wp2_with fail
 refine bodyPost_ret (v:=.tuple #[.agg #[.int .i64 x.k,.int .i64 x.n,.int .i64 x.m,.slice X x.kids.length xc],.int .i64 0]) (by simp [results,Tryd.results41,go_sem]) rfl ⟨x,X,xc,dx,rfl,rfl,?_,?_⟩
 ·exact Rep.mono (fun b hb=>.inl hb) (HX.out.later HI.out (ba (ba (below_new _ _) _) _))
 ·exact ba (ba (below_new _ _) _) _

set_option maxRecDepth 100000 in
set_option maxHeartbeats 2000000 in
theorem set_none (i : Int) (p : List Int) (d : Nat) (t x : T) (S : Nat → Prop) (A P X : Option Addr) (c pc xc n : Nat) (w : World) (hn : n = p.length) (ht : Rep w S d t (nd t A c)) (hp : Rd w S 1 P (n + 1) (vi (i :: p))) (hin : In S w.heap.size) (hst : size t ≤ 1000000) (hpl : n ≤ 9223372036854775807)
  (hno:i < 0∨(t.kids.length:Int)≤i) :
  Calls Tryd.prog 41 #[.agg #[.int .i64 t.k,.int .i64 t.n,.int .i64 t.m,.slice A t.kids.length c],.slice P (n + 1) pc,.agg #[.int .i64 x.k,.int .i64 x.n,.int .i64 x.m,.slice X x.kids.length xc]] w (SetPost (set? (i :: p) t x) S w):=by
 obtain ⟨b,off,hP,hbS,hcell⟩:=hp.lit (by omega)
 have hb:b < w.heap.size:=hin b hbS
 subst hP
 have hc0:w.cell? ⟨b,off,none⟩ = some (.int .i64 i):=hcell 0 (.int .i64 i) rfl
 have hnone:set? (i :: p) t x = none:=by
  unfold set?
  by_cases h:i < 0
  ·rw [if_pos h]
  ·rw [if_neg h,List.getElem?_eq_none (by omega)]
 rw [hnone]
 have hcap:=ht.cap
 obtain ⟨l,hl⟩:∃ l,l = t.kids.length:=⟨_,rfl⟩
 have hkl:t.kids.length≤1000000:=by have:=kids_lt t; omega
 rw [← hl] at hno hcap hkl ⊢
 clear hn hl hp hcell hin hnone ht hbS
 by_cases hi:i < 0
 ·have hd:decide (i < 0) = true:=by simpa using hi
  go_enter Tryd.func41,Tryd.ntmps41
  go_wp2_with fail
  obtain ⟨W2,hW2⟩:∃ W2,W2 = (((w.alloc (.cells #[.int .i64 t.k,.int .i64 t.n,.int .i64 t.m,.slice A l c] 25)).alloc (.cells #[.int .i64 x.k,.int .i64 x.n,.int .i64 x.m,.slice X x.kids.length xc] 25)).alloc (.cells #[.int .i64 0,.int .i64 0,.int .i64 0,.slice none 0 0] 25)):=⟨_,rfl⟩
  have HB2:Hid (Below w.heap.size w W2):=Lib.hid (by rw [hW2]; exact ba (ba (below_new _ _) _) _)
  have HO2:Hid (Blk W2 (w.heap.size + 1 + 1) 25 #[.int .i64 0,.int .i64 0,.int .i64 0,.slice none 0 0]):=Lib.hid (by rw [hW2]; exact Blk.new_at _ _ (by simp) rfl)
  have hc3:W2.cell? ⟨w.heap.size,3,none⟩ = some (.slice A l c):=by rw [hW2]; exact (((Blk.new w _ _).alloc _).alloc _).cell 3
  have hc0':W2.cell? ⟨b,off,none⟩ = some (.int .i64 i):=(HB2.out.cell (p:=⟨b,off,none⟩) hb).trans hc0
  have r0:=HO2.out.cell 0
  have r1:=HO2.out.cell 1
  have r2:=HO2.out.cell 2
  have r3:=HO2.out.cell 3
  have f0:=HO2.out.frozen 0
  have f1:=HO2.out.frozen 1
  have f2:=HO2.out.frozen 2
  have f3:=HO2.out.frozen 3
  simp only [List.getElem?_toArray,List.getElem?_cons_zero,List.getElem?_cons_succ] at r0 r1 r2 r3
  rw [← hW2]
  clear hW2
  go_quiet (fail)
  go_wp2_with fail
  refine bodyPost_ret (v:=.tuple #[.agg #[.int .i64 0,.int .i64 0,.int .i64 0,.slice none 0 0],.int .i64 6]) (by simp [results,Tryd.results41,go_sem,r0,r1,r2,r3]) rfl ⟨zeroT,none,0,1,rfl,rfl,Rep.leaf in0 in0 in0 _ _,?_⟩
  exact put4_below (below_drewN HB2.out _) _ _ _ _ (Nat.le_add_right w.heap.size 2)
 ·have hd:decide (i < 0) = false:=by simpa using hi
  have hd2:decide ((l:Int)≤i) = true:=by simp; omega
  go_enter Tryd.func41,Tryd.ntmps41
  go_wp2_with fail
  obtain ⟨W2,hW2⟩:∃ W2,W2 = (((w.alloc (.cells #[.int .i64 t.k,.int .i64 t.n,.int .i64 t.m,.slice A l c] 25)).alloc (.cells #[.int .i64 x.k,.int .i64 x.n,.int .i64 x.m,.slice X x.kids.length xc] 25)).alloc (.cells #[.int .i64 0,.int .i64 0,.int .i64 0,.slice none 0 0] 25)):=⟨_,rfl⟩
  have HB2:Hid (Below w.heap.size w W2):=Lib.hid (by rw [hW2]; exact ba (ba (below_new _ _) _) _)
  have HO2:Hid (Blk W2 (w.heap.size + 1 + 1) 25 #[.int .i64 0,.int .i64 0,.int .i64 0,.slice none 0 0]):=Lib.hid (by rw [hW2]; exact Blk.new_at _ _ (by simp) rfl)
  have hc3:W2.cell? ⟨w.heap.size,3,none⟩ = some (.slice A l c):=by rw [hW2]; exact (((Blk.new w _ _).alloc _).alloc _).cell 3
  have hc0':W2.cell? ⟨b,off,none⟩ = some (.int .i64 i):=(HB2.out.cell (p:=⟨b,off,none⟩) hb).trans hc0
  have r0:=HO2.out.cell 0
  have r1:=HO2.out.cell 1
  have r2:=HO2.out.cell 2
  have r3:=HO2.out.cell 3
  have f0:=HO2.out.frozen 0
  have f1:=HO2.out.frozen 1
  have f2:=HO2.out.frozen 2
  have f3:=HO2.out.frozen 3
  simp only [List.getElem?_toArray,List.getElem?_cons_zero,List.getElem?_cons_succ] at r0 r1 r2 r3
  rw [← hW2]
  clear hW2
  go_quiet (fail)
  go_wp2_with fail
  refine bodyPost_ret (v:=.tuple #[.agg #[.int .i64 0,.int .i64 0,.int .i64 0,.slice none 0 0],.int .i64 6]) (by simp [results,Tryd.results41,go_sem,r0,r1,r2,r3]) rfl ⟨zeroT,none,0,1,rfl,rfl,Rep.leaf in0 in0 in0 _ _,?_⟩
  exact put4_below (below_drewN HB2.out _) _ _ _ _ (Nat.le_add_right w.heap.size 2)

end Go.Proofs.YtkkenbalpnmfmaaDoor

namespace Go.Proofs.YtkkenbalpnmfmaaDoor
open Go.RowKit WM TR

set_option maxRecDepth 100000 in
set_option maxHeartbeats 4000000 in
theorem paths_is : ∀ (d : Nat) (t : T) (S : Nat → Prop) (A : Option Addr) (c : Nat) (w : World), Rep w S d t (nd t A c) → In S w.heap.size → size t ≤ 1000000 →
  Calls Tryd.prog 39 #[.agg #[.int .i64 t.k,.int .i64 t.n,.int .i64 t.m,.slice A t.kids.length c]] w (PathsPost t w)
 | 0,_,_,_,_,_,h,_,_=>h.elim
 | d + 1,t,S,A,c,w,ht,hin,hst=>by
  have ih:=paths_is d
  obtain ⟨l,hl⟩:∃ l,l = t.kids.length:=⟨_,rfl⟩
  have hkl:t.kids.length≤1000000:=by have:=kids_lt t; omega
  obtain ⟨i0,hi,hz0,hz1,hz2⟩:=info_parts ps_int_info
  obtain ⟨i1,gi,gz0,gz1,gz2⟩:=info_parts ps_ints_info
  rw [← hl] at hkl ⊢
  have HT:=Lib.hid ht
  have HI:=Lib.hid hin
  have HL:=Lib.hid hl
  have HST:=Lib.hid hst
  have HIH:=Lib.hid ih
  clear ht hin hl ih
  go_enter Tryd.func39,Tryd.ntmps39
  go_wp2_with fail
  obtain ⟨W1,hW1⟩:∃ W1,W1 = w.alloc (.cells #[.int .i64 t.k,.int .i64 t.n,.int .i64 t.m,.slice A l c] 25):=⟨_,rfl⟩
  have hz1':W1.heap.size = w.heap.size + 1:=by rw [hW1]; exact size_alloc _ _
  have HB1:Hid (Below w.heap.size w W1):=Lib.hid (by rw [hW1]; exact below_new _ _)
  have HC1:Hid (Blk W1 w.heap.size 25 #[.int .i64 t.k,.int .i64 t.n,.int .i64 t.m,.slice A l c]):=Lib.hid (by rw [hW1]; exact Blk.new w _ _)
  rw [← hW1,← hz1']
  clear hW1
  have HZ1:=Lib.hid hz1'
  clear hz1'
  go_loopw [3,4] (fun s i wr=>∃ (j:Nat) (v:Value) (xs:List Value),j≤l∧v = s∧i = .int .i64 j∧Hid (PSt W1 wr v ([] :: rows t.kids j) xs)) (fun _ i _=>l - (intOf i).toNat)
  case atStart=>exact ⟨0,_,_,Nat.zero_le _,rfl,rfl,PSt.first W1⟩
  case round =>
   obtain ⟨j,v,xs,hj,rfl,rfl,HP⟩:=hrel
   have hBW:Below w.heap.size w wr:=bt HB1.out HP.out.below
   have hc3:wr.cell? ⟨w.heap.size,3,none⟩ = some (.slice A l c):=(HC1.out.below HP.out.below HC1.out.lt).cell 3
   by_cases hlt:j < l
   ·obtain ⟨u,hu⟩:∃ u,t.kids[j]? = some u:=⟨_,List.getElem?_eq_getElem (by rw [← HL.out]; omega)⟩
    have hrr:=HT.out.later HI.out hBW
    obtain ⟨b2,o2,A2,c2,hA2,hb2,hcells,hru⟩:=hrr.kid hu
    subst hA2
    have hsu:=size_kid hu
    obtain ⟨z,hz⟩:∃ z,z = size u:=⟨_,rfl⟩
    have hz3:z≤1000000:=by omega
    have HZ:=Lib.hid hz.symm
    have HNX:=Lib.hid (rows_next hu)
    have HR:=Lib.hid hru
    have HCL:=Lib.hid hcells
    have HIW:Hid (In S wr.heap.size):=Lib.hid (HI.out.more hBW.size)
    have hij:(0:Int)≤j∧(j:Int) < l:=⟨by omega,by omega⟩
    have HRN:Hid ((rows t.kids j).length≤1000000):=Lib.hid (by
     have h1:=rows_length (l:=t.kids) (fun u _=>paths_length u) j (by rw [← HL.out]; omega)
     have h2:=sizes_le t.kids j
     have h3:=size_eq t
     omega)
    have HUL:Hid ((paths u).length = z):=Lib.hid (by rw [paths_length,hz])
    have HUP:Hid (∀ p ∈ paths u,p.length≤1000000):=Lib.hid (fun p hp=>by have:=path_le u p hp; omega)
    have HBW:=Lib.hid hBW
    clear hrr hcells hru hu hsu hz hb2 hBW
    go_wp2_with (first
     | (refine wpList_load_mid rfl 25 (.tmp 18) rfl b2 (o2 + j * 4) rfl [.int .i64 u.k,.int .i64 u.n,.int .i64 u.m,.slice A2 u.kids.length c2] _ HCL.out Tryd.underlying25 rfl (by rw [size_node]; rfl) ?_)
     | (go_at_call 39; refine (HIH.out u S A2 c2 _ HR.out HIW.out (by rw [HZ.out]; exact hz3)).mono ?_; rintro e w5 ⟨A5,c5,rfl,hcap5,hps5,hbw5⟩; rw [HZ.out] at hcap5 ⊢; have HPS:=Lib.hid hps5; have HP5:=Lib.hid (HP.out.later hbw5); have HBW5:=Lib.hid hbw5; have HV5:=Lib.hid HP.out.own.lt; clear hps5 hbw5))
    obtain ⟨B1,hB1⟩:∃ B1,B1 = wr.heap.size:=⟨_,rfl⟩
    obtain ⟨B2,hB2⟩:∃ B2,B2 = w5.heap.size:=⟨_,rfl⟩
    have HPS2:Hid (Ps w5 (fun b=>B1≤b∧b < B2) A5 (paths u)):=by rw [hB1,hB2]; exact HPS
    have HV2:Hid (B2≤w5.heap.size∧∀ b,B1≤b→b < B2→v.ownBlock≠some b):=Lib.hid ⟨by omega,fun b h1 _ e=>by have:=(HV5.out b e).2; omega⟩
    clear hB1 hB2 HPS HV5
    go_loopw [3,6] (fun s i wq=>∃ (k:Nat) (v:Value) (ys:List Value),k≤z∧v = s∧i = .int .i64 k∧Hid (PSt W1 wq v (([] :: rows t.kids j) ++ ((paths u).take k).map (fun p=>(j:Int) :: p)) ys)∧Hid (Keeps (fun b=>B1≤b∧b < B2) w5 wq)∧Hid (B2≤wq.heap.size∧∀ b,B1≤b→b < B2→v.ownBlock≠some b)) (fun _ i _=>z - (intOf i).toNat)
    case atStart=>exact ⟨0,_,xs,Nat.zero_le _,rfl,rfl,by simpa using HP5,Keeps.refl _ _,HV2⟩
    case round =>
     obtain ⟨k,v2,ys,hk,rfl,rfl,HQ,HK,HS⟩:=hrel
     by_cases hlt2:k < z
     ·obtain ⟨p,hp⟩:∃ p,(paths u)[k]? = some p:=⟨_,List.getElem?_eq_getElem (by rw [HUL.out]; exact hlt2)⟩
      have hpl:p.length≤1000000:=HUP.out p (List.mem_of_getElem? hp)
      obtain ⟨b5,o5,A6,c6,hA5,hs5,hc5,_,hr6⟩:=(HPS2.out.keep HK.out).at_ hp
      subst hA5
      have hb5:b5 < wr.heap.size:=Nat.lt_of_lt_of_le hs5.2 HS.out.1
      have hcx:(wr.alloc (.cells #[.int .i64 (j:Int)] 3)).cell? ⟨b5,o5 + k,none⟩ = some (Value.slice A6 p.length c6):=((below_new wr _).cell (p:=⟨b5,o5 + k,none⟩) hb5).trans hc5
      have HIN:Hid (In (fun b=>B1≤b∧b < B2) wr.heap.size):=Lib.hid (fun b hb=>Nat.lt_of_lt_of_le hb.2 HS.out.1)
      have HRD:Hid (Reads (wr.alloc (.cells #[.int .i64 (j:Int)] 3)) (wr.heap.size + 1) 1 A6 p.length (vi p)):=Lib.hid ((hr6.keep (Keeps.below HIN.out (below_new wr _))).reads (HIN.out.more (Nat.le_succ _)))
      obtain ⟨ps,hps⟩:∃ ps,ps = ([] :: rows t.kids j) ++ ((paths u).take k).map (fun p=>(j:Int) :: p):=⟨_,rfl⟩
      have hpsl:ps.length≤2000001:=by
       have h1:=HRN.out
       rw [hps,List.length_append,List.length_cons,List.length_map,List.length_take]
       omega
      have HPE:Hid (([] :: rows t.kids j) ++ ((paths u).take (k + 1)).map (fun p=>(j:Int) :: p) = ps ++ [(j:Int) :: p]):=Lib.hid (by rw [List.take_add_one,hp,hps]; simp)
      have HQ2:Hid (PSt W1 wr v2 ps ys):=by rw [hps]; exact HQ
      have hi1:(0:Int)≤k∧(k:Int) < z:=⟨by omega,by omega⟩
      have hW1:W1.heap.size≤wr.heap.size:=HQ2.out.below.size
      clear HQ hps hp hs5 hc5 hr6
      go_wp2_with (at_builtin; first
       | (refine wpList_append_any _ rfl (.tmp 29) (.tmp 33) 22 rfl wr.heap.size 3 i0 _ 1 8 Tryd.underlying22 hi hz0 hz1 hz2 rfl (by omega) _ _ _ rfl (own_one wr j) _ A6 p.length c6 (vi p) rfl HRD.out (vi_one p) (len_le (by omega)) (by omega) (by simp) ?_; intro v7 w7 hown7 hgrow7 _; obtain ⟨A7,c7,hv7,hcap7⟩:=own_len hown7; subst hv7; have HO7:=Lib.hid hown7; have HB7:Hid (Below wr.heap.size wr w7):=Lib.hid (below_grown hgrow7 (fun b hb=>Nat.le_of_eq (Option.some.inj hb))); have HOW7:Hid ((w7.alloc (.cells #[.slice A7 (1 + p.length) c7] 22)).ownsRow W1.heap.size 22 1 v2 ps.length ys):=Lib.hid (ownsRow_below (ownsRow_below HQ2.out.own HB7.out) (below_new _ _)); clear hown7 hgrow7)
       | (go_loud (refine wpList_append_any _ rfl (.tmp 27) (.tmp 35) 41 rfl W1.heap.size 22 i1 _ 1 24 Tryd.underlying41 gi gz0 gz1 gz2 rfl (by omega) _ _ _ rfl HOW7.out _ (some ⟨w7.heap.size,0,none⟩) 1 1 [.slice A7 (1 + p.length) c7] rfl (ps_reads w7 _) (by simp [Value.oneCell']) (len_le (by omega)) (by omega) (by have:=HB7.out.size; simp; omega) ?_); intro v8 w8 hown8 hgrow8 hnew8; have HO8:=Lib.hid hown8; have HG8:=Lib.hid hgrow8; have HN8:=Lib.hid hnew8; clear hown8 hgrow8 hnew8))
      go_roundw
      case rel =>
       have h7:w7.ownsRow wr.heap.size 3 1 (.slice A7 (1 + p.length) c7) ((j:Int) :: p).length (vi ((j:Int) :: p)):=by
        rw [List.length_cons,Nat.add_comm p.length 1]
        exact HO7.out
       have hs7:=HB7.out.size
       have hs2:=HS.out
       have hs8:=HG8.out.size
       have hsa:=size_alloc w7 (.cells #[.slice A7 (1 + p.length) c7] 22)
       refine ⟨k + 1,v8,ys ++ [.slice A7 (1 + p.length) c7],by omega,rfl,by go_num,?_,?_,?_,?_⟩
       ·rw [HPE.out]
        exact HQ2.out.next h7 HB7.out HO8.out HG8.out HN8.out
       ·refine (((HK.out.trans (Keeps.below HIN.out HB7.out)).trans (Keeps.below (HIN.out.more hs7) (below_new _ _))).grown (HIN.out.more (by omega)) HG8.out ?_)
        intro b hb hS
        exact hs2.2 b hS.1 hS.2 hb
       ·omega
       ·intro b h1 h2 e
        rcases HN8.out with hn | hn
        ·exact hs2.2 b h1 h2 (hn ▸ e)
        ·rw [hn] at e; have:=Option.some.inj e; omega
      case measure=>simp [intOf]; omega
     ·have hkz:k = z:=by omega
      have HQ2:Hid (PSt W1 wr v2 ([] :: rows t.kids (j + 1)) ys):=by
       have h:=HQ.out
       rw [List.take_of_length_le (Nat.le_of_eq (HUL.out.trans hkz.symm)),List.cons_append,← HNX.out] at h
       exact h
      clear HQ hkz
      go_wp2_with fail
      go_roundw
      case rel=>exact ⟨j + 1,_,ys,by omega,rfl,by go_num,HQ2.out⟩
      case measure=>simp [intOf]; omega
   ·have hjl:j = l:=by omega
    have HN:Hid (([] :: rows t.kids j:List (List Int)) = paths t):=Lib.hid (by rw [hjl,HL.out,← paths_rows])
    have HP2:Hid (PSt W1 wr v (paths t) xs):=Lib.hid (by rw [← HN.out]; exact HP.out)
    obtain ⟨A9,c9,hv,hcap⟩:=own_len HP2.out.own
    rw [paths_length] at hv hcap
    subst hv
    have HBW:=Lib.hid hBW
    clear hjl hBW
    go_wp2_with fail
    go_ret
    refine ⟨A9,c9,rfl,hcap,⟨xs,?_,?_⟩,HBW.out⟩
    ·have h:=HP2.out.own
     rw [paths_length] at h ⊢
     exact (Rd.of_own h).mono fun b hb=>⟨by have:=HZ1.out; omega,hb.2⟩
    ·exact (HP2.out.cells.mono fun b hb=>⟨by have:=HZ1.out; omega,hb.2.1⟩).2
end Go.Proofs.YtkkenbalpnmfmaaDoor

namespace Go.Proofs.YtkkenbalpnmfmaaDoor
open Go.RowKit WM TR

def SetR (wx:World) (Sx:Nat→Prop) (gN D m:Nat) (k n mm:Int) (ts:List T) (v:Value) (xs:List Value) (wr:World):Prop :=
 Below wx.heap.size wx wr∧Blk wr gN 25 #[.int .i64 k,.int .i64 n,.int .i64 mm,v]∧wr.ownsRow (gN + 1) 25 4 v m xs∧Reps wx Sx D (ts.take m) xs
section
variable {wx wr:World} {Sx:Nat→Prop} {gN D m:Nat} {k n mm:Int} {ts:List T} {v:Value} {xs:List Value}
theorem SetR.first (wx : World) (Sx : Nat → Prop) (D : Nat) (t : T) (ts : List T) :
  SetR wx Sx wx.heap.size D 0 t.k t.n t.m ts (.slice none 0 0) [] (wx.alloc (.cells #[.int .i64 t.k,.int .i64 t.n,.int .i64 t.m,.slice none 0 0] 25)) :=
 ⟨below_new _ _,Blk.new wx _ _,World.ownsRow_nil _ _ _ _,Reps.nil⟩
theorem SetR.below {W w4:World} (h:SetR wx Sx wx.heap.size D m k n mm ts v xs wr) (hW:Below wr.heap.size wr W) (hgw4:W.grownBy w4 v.ownBlock):Below wx.heap.size wx w4:=by
 have hvlt:∀ b,v.ownBlock = some b→wx.heap.size + 1≤b∧b < wr.heap.size:=h.2.2.1.lt
 have hbW:=bt h.1 hW
 exact ⟨hgw4.os.trans hbW.os,hgw4.tape.trans hbW.tape,hgw4.output.trans hbW.output,Nat.le_trans hbW.size hgw4.size,fun i hi=>(hgw4.block i (Nat.lt_of_lt_of_le hi hbW.size) (fun e=>by have:=(hvlt i e.symm).1; omega)).trans (hbW.block i hi)⟩
theorem SetR.next {w4 W : World} {u : T} {A' : Option Addr} {c' : Nat} {v4 : Value} (h : SetR wx Sx gN D m k n mm ts v xs wr) (hN : wx.heap.size ≤ gN) (hu : ts[m]? = some u) (hr : Rep wx Sx D u (nd u A' c')) (hW : Below wr.heap.size wr W)
  (hown4:w4.ownsRow (gN + 1) 25 4 v4 (m + 1) (xs ++ nd u A' c')) (hgw4:W.grownBy w4 v.ownBlock) :
  SetR wx Sx gN D (m + 1) k n mm ts v4 (xs ++ nd u A' c') (w4.setCell ⟨gN,3,none⟩ v4):=by
 obtain ⟨h1,h2,h3,h4⟩:=h
 have hvlt:∀ b,v.ownBlock = some b→gN + 1≤b∧b < wr.heap.size:=h3.lt
 have hv4:∀ b,v4.ownBlock = some b→gN + 1≤b∧b < w4.heap.size:=hown4.lt
 have hbW:=bt h1 hW
 have hb4:Below wx.heap.size wx w4:=⟨hgw4.os.trans hbW.os,hgw4.tape.trans hbW.tape,hgw4.output.trans hbW.output,Nat.le_trans hbW.size hgw4.size,fun i hi=>(hgw4.block i (Nat.lt_of_lt_of_le hi hbW.size) (fun e=>by have:=(hvlt i e.symm).1; omega)).trans (hbW.block i hi)⟩
 refine ⟨hb4.setCell hN _,?_,?_,?_⟩
 ·have hb:=(h2.below hW h2.lt).grown hgw4 (fun e=>by have:=(hvlt _ e.symm).1; omega)
  exact hb.set_ 3 v4
 ·exact hown4.kept (gw_setCell (g:=gN) (gw_refl w4 gN) (.inl rfl) v4) (.inr fun e=>by have:=(hv4 gN e).1; omega)
 ·rw [List.take_add_one,hu,Option.toList_some]
  exact h4.snoc hr
theorem SetR.done {S : Nat → Prop} {e r : Nat} {A' : Option Addr} {c' : Nat} {w : World} (h : SetR wx (fun b => S b ∨ (e ≤ b ∧ b < wx.heap.size)) wx.heap.size D m k n mm ts (.slice A' m c') xs wr) (hm : m = ts.length) (hc : m ≤ c') (hin : In S w.heap.size) (hk : inRange k) (hn : inRange n) (hmm : inRange mm)
  (hw:Below w.heap.size w wx) (hr1:w.heap.size≤r) (hr2:r < e) (he:e≤wx.heap.size) (v0 v1 v2 v3:Value) :
  Rep ((((wr.setCell ⟨r,0,none⟩ v0).setCell ⟨r,1,none⟩ v1).setCell ⟨r,2,none⟩ v2).setCell ⟨r,3,none⟩ v3) (Plus S w.heap.size (((((wr.setCell ⟨r,0,none⟩ v0).setCell ⟨r,1,none⟩ v1).setCell ⟨r,2,none⟩ v2).setCell ⟨r,3,none⟩ v3)).heap.size) (D + 1) ⟨k,n,mm,ts⟩ (nd ⟨k,n,mm,ts⟩ A' c'):=by
 obtain ⟨h1,h2,h3,h4⟩:=h
 subst hm
 rw [List.take_length] at h4
 have hg:=gw4 wr r v0 v1 v2 v3
 have hs:=hg.2
 have hs1:=h1.size
 have hs0:=hw.size
 refine Rep.mk hk hn hmm hc (xs:=xs) ?_ ?_
 ·have h:=Rd.of_own (h3.kept hg.1 (.inr fun e=>by have:=(h3.lt _ e).1; omega))
  refine h.mono fun b hb=>.inr ⟨by omega,hb.2⟩
 ·refine (h4.keep (w':=_) (fun b hb=>?_)).mono (fun b hb=>?_)
  ·have hbl : b < wx.heap.size := by
    rcases hb with hb | hb
    ·have:=hin b hb; omega
    ·exact hb.2
   have hbr:b≠r:=by
    rcases hb with hb | hb
    ·have:=hin b hb; omega
    ·omega
   exact (hg.1.block b (by omega) (fun e=>hbr (Option.some.inj e))).trans (h1.block b hbl)
  ·rcases hb with hb | hb
   ·exact .inl hb
   ·exact .inr ⟨by omega,by omega⟩
end
end Go.Proofs.YtkkenbalpnmfmaaDoor
