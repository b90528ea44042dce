/- Texts joined. -/
import Derived.Test.YtkkenbalpnmfmaaDoorJ36
import Derived.Test.YtkkenbalpnmfmaaDoorJ05
import Derived.Test.YtkkenbalpnmfmaaDoorJ41
import Derived.Test.YtkkenbalpnmfmaaDoorJ34
set_option linter.unusedVariables false
namespace Go.Proofs.YtkkenbalpnmfmaaDoor
open Go.RowKit WM TR TY

set_option maxRecDepth 100000 in
set_option maxHeartbeats 8000000 in
theorem is_is (d : Nat) (p : T) (A : Option Addr) (c : Nat) (place : List Int) (B : Option Addr) (cb : Nat) (want : Int) (w : World) (hr : Rep w (Lt w.heap.size) (d + 1) p (nd p A c)) (hD : d ≤ 1000) (hsz : size p ≤ 1000000) (hT : ST w) (hg : 0 < w.heap.size)
  (hm:Reads w w.heap.size 1 B place.length (vi place)) (hpl:place.length≤1000000) (hcl:(chk p).1.length≤1000000) (r:Bool) (hrr:((chk p).2 == want && decide ((chk p).1 = place)) = r) :
  Calls Tryd.prog 16 #[.agg #[.int .i64 p.k,.int .i64 p.n,.int .i64 p.m,.slice A p.kids.length c],.slice B place.length cb,.int .i64 want] w fun e w'=>e = .returned (.bool r)∧Below w.heap.size w w':=by
 obtain ⟨z,hz⟩:∃ z,z = w.heap.size:=⟨_,rfl⟩
 obtain ⟨nk,hnk⟩:∃ z,z = p.kids.length:=⟨_,rfl⟩
 obtain ⟨k,hk⟩:∃ z,z = p.k:=⟨_,rfl⟩
 obtain ⟨n,hn⟩:∃ z,z = p.n:=⟨_,rfl⟩
 obtain ⟨m,hm'⟩:∃ z,z = p.m:=⟨_,rfl⟩
 obtain ⟨np,hnp⟩:∃ z,z = place.length:=⟨_,rfl⟩
 obtain ⟨W1,hW1⟩:∃ W,W = w.alloc (.cells #[.int .i64 k,.int .i64 n,.int .i64 m,.slice A nk c] 25):=⟨_,rfl⟩
 have hb1:Below w.heap.size w W1:=by rw [hW1]; exact below_new _ _
 have k1:Blk W1 z 25 #[.int .i64 k,.int .i64 n,.int .i64 m,.slice A nk c]:=by rw [hW1,hz]; exact Blk.new _ _ _
 obtain ⟨y0,y1,y2,y3⟩:W1.cell? ⟨z,0,none⟩ = some (.int .i64 k)∧W1.cell? ⟨z,1,none⟩ = some (.int .i64 n)∧W1.cell? ⟨z,2,none⟩ = some (.int .i64 m)∧W1.cell? ⟨z,3,none⟩ = some (.slice A nk c):=⟨k1.cell 0,k1.cell 1,k1.cell 2,k1.cell 3⟩
 obtain ⟨l,hl⟩:∃ l,l = (chk p).1:=⟨_,rfl⟩
 obtain ⟨er,her⟩:∃ er,er = (chk p).2:=⟨_,rfl⟩
 obtain ⟨nl,hnl⟩:∃ nl,nl = l.length:=⟨_,rfl⟩
 have HC:Hid (Calls Tryd.prog 33 #[.agg #[.int .i64 k,.int .i64 n,.int .i64 m,.slice A nk c]] W1 fun e w'=>∃ A' c',e = .returned (.tuple #[.slice A' nl c',.int .i64 er])∧Reads w' w'.heap.size 1 A' nl (vi l)∧Below W1.heap.size W1 w'):=Lib.hid (by
  have h:=check_is d p A c W1 (rep_next hr hb1) hD hsz (hT.below hb1 hg) (Nat.lt_of_lt_of_le hg hb1.size)
  rw [← hnk,← hk,← hn,← hm'] at h
  refine h.mono ?_
  rintro e w' ⟨A',c',h1,h2,h3⟩
  rw [← hl,← her,← hnl] at h1
  rw [← hl,← hnl] at h2
  exact ⟨A',c',h1,h2.1,h3⟩)
 have HS:Hid (∀ (W:World) (A':Option Addr) (c':Nat),Below w.heap.size w W→Reads W W.heap.size 1 A' nl (vi l)→Calls Tryd.prog 35 #[.slice A' nl c',.slice B np cb] W fun e w'=>e = .returned (.bool (decide (l = place)))∧Below W.heap.size W w'):=Lib.hid fun W A' c' hb h1=>by
  rw [hnl] at h1 ⊢
  rw [hnp]
  exact sameInts_is l place (Lt W.heap.size) A' B c' cb W h1 ((hm.below hb).more hb.size) (In.lt _) (by rw [hl]; exact hcl) hpl _ rfl
 have HR:Hid (r = (er == want && decide (l = place))):=Lib.hid (by rw [← hrr,her,hl])
 have HW1:=Lib.hid hW1
 have HZ:=Lib.hid hz
 have HB1:=Lib.hid hb1
 rw [← hnk,← hk,← hn,← hm',← hnp]
 obtain ⟨e1,he1⟩:∃ e1,(er == want) = e1:=⟨_,rfl⟩
 have HE1:=Lib.hid he1
 clear hr hsz hT hg hm hcl hrr hz hnk hk hn hm' hnp hW1 hb1 k1 hl her hnl
 cases e1
 all_goals
  go_enter Tryd.func16,Tryd.ntmps16
  go_upto_region 1 with fail
  rw [← HW1.out]
  try rw [← HZ.out]
  go_wp2_with (first
   | (go_at_call 33; refine HC.out.mono ?_; rintro e w2 ⟨A',c',rfl,h1,h2⟩; have HB2:=Lib.hid (bt HB1.out h2); have HR2:=Lib.hid h1; clear h1 h2 y0 y1 y2 y3)
   | (go_at_call 35; refine (HS.out _ _ _ HB2.out HR2.out).mono ?_; rintro e w3 ⟨rfl,hb3⟩; replace HB2:=Lib.hid (bt HB2.out hb3); clear hb3))
  go_ret
  exact ⟨ret_b (by rw [HR.out,HE1.out]; simp),HB2.out⟩
end Go.Proofs.YtkkenbalpnmfmaaDoor

namespace Go.Proofs.YtkkenbalpnmfmaaDoor
open Go.RowKit WM TR TY

theorem nodeR_is (k n : Int) (d : Nat) (x : T) (A : Option Addr) (c : Nat) (W : World) (hr : Rep W (Lt W.heap.size) (d + 1) x (nd x A c)) (h0 : -100 ≤ k ∧ k ≤ 100) (h1 : -100 ≤ n ∧ n ≤ 100) :
  Calls Tryd.prog 46 #[.int .i64 k,.int .i64 n,.slice (some ⟨W.heap.size,0,none⟩) 1 1] (W.alloc (.cells #[.int .i64 x.k,.int .i64 x.n,.int .i64 x.m,.slice A x.kids.length c] 25)) fun e w'=>∃ g,e = .returned (.agg #[.int .i64 k,.int .i64 n,.int .i64 0,.slice (some ⟨g,0,none⟩) 1 1])∧Rep w' (Lt w'.heap.size) (d + 2) ⟨k,n,0,[x]⟩ (nd ⟨k,n,0,[x]⟩ (some ⟨g,0,none⟩) 1)∧Below W.heap.size W w':=by
 refine (node_is k n (some ⟨W.heap.size,0,none⟩) 1 1 _).mono ?_
 rintro e w' ⟨rfl,hb⟩
 have h:=(nds_new (Reps.one hr) (by simp)).rep (k:=k) (n:=n) (m:=0) (in_sm h0.1 h0.2) (in_sm h1.1 h1.2) (in_sm (by omega) (by omega))
 exact ⟨W.heap.size,rfl,rep_next h hb,bt (below_new _ _) hb⟩
theorem node1_is (k n a b : Int) (W : World) (h0 : -100 ≤ k ∧ k ≤ 100) (h1 : -100 ≤ n ∧ n ≤ 100) (h2 : -100 ≤ a ∧ a ≤ 100) (h3 : -100 ≤ b ∧ b ≤ 100) :
  Calls Tryd.prog 46 #[.int .i64 k,.int .i64 n,.slice (some ⟨W.heap.size,0,none⟩) 1 1] (W.alloc (.cells #[.int .i64 a,.int .i64 b,.int .i64 0,.slice none 0 0] 25)) fun e w'=>∃ g,e = .returned (.agg #[.int .i64 k,.int .i64 n,.int .i64 0,.slice (some ⟨g,0,none⟩) 1 1])∧Rep w' (Lt w'.heap.size) 2 ⟨k,n,0,[⟨a,b,0,[]⟩]⟩ (nd ⟨k,n,0,[⟨a,b,0,[]⟩]⟩ (some ⟨g,0,none⟩) 1)∧Below W.heap.size W w' :=
 nodeR_is k n 0 ⟨a,b,0,[]⟩ none 0 W (Rep.leaf (in_sm h2.1 h2.2) (in_sm h3.1 h3.2) (in_sm (by omega) (by omega)) 0 0) h0 h1
theorem ex2_is (k n a b : Int) (g : Nat) (w : World) (hr : Rep w (Lt w.heap.size) 2 ⟨k, n, 0, [⟨a, b, 0, []⟩]⟩ (nd ⟨k, n, 0, [⟨a, b, 0, []⟩]⟩ (some ⟨g, 0, none⟩) 1)) :
  Calls Tryd.prog 47 #[.agg #[.int .i64 k,.int .i64 n,.int .i64 0,.slice (some ⟨g,0,none⟩) 1 1]] w fun e w'=>∃ A' c',e = .returned (.agg #[.int .i64 27,.int .i64 0,.int .i64 0,.slice A' 1 c'])∧Rep w' (Lt w'.heap.size) 5 (exT ⟨k,n,0,[⟨a,b,0,[]⟩]⟩) (nd (exT ⟨k,n,0,[⟨a,b,0,[]⟩]⟩) A' c')∧Below w.heap.size w w' :=
 example_is 1 ⟨k,n,0,[⟨a,b,0,[]⟩]⟩ (some ⟨g,0,none⟩) 1 w hr
theorem ex_size {x:T} (h:size x≤100):size (exT x)≤1000000:=by
 have hl:∀ k n:Int,size ⟨k,n,0,[]⟩ = 1:=fun k n=>by rw [size_eq]; rfl
 have hb:size (exB x) = 1 + (size x + 0):=by rw [size_eq]; rfl
 have hf:size (exF x) = 1 + (size ⟨0,0,0,[]⟩ + (size ⟨2,2,0,[]⟩ + (size (exB x) + 0))):=by rw [size_eq]; rfl
 have ht:size (exT x) = 1 + (size (exF x) + 0):=by rw [size_eq]; rfl
 rw [hl,hl] at hf
 omega
theorem two_size (k n a b:Int):size ⟨k,n,0,[⟨a,b,0,[]⟩]⟩≤100:=by simp [size_eq]
theorem isx_is (d : Nat) (x : T) (A : Option Addr) (c : Nat) (place : List Int) (np : Nat) (B : Option Addr) (cb : Nat) (want : Int) (w : World) (hr : Rep w (Lt w.heap.size) (d + 1) (exT x) (nd (exT x) A c)) (hd : d ≤ 10) (hsz : size x ≤ 100) (hT : ST w) (hg : 0 < w.heap.size)
  (hm:Reads w w.heap.size 1 B np (vi place)) (hnp:np = place.length) (hpl:place.length≤100) (hc:chk (exT x) = (place,want)) :
  Calls Tryd.prog 16 #[.agg #[.int .i64 27,.int .i64 0,.int .i64 0,.slice A 1 c],.slice B np cb,.int .i64 want] w fun e w'=>e = .returned (.bool true)∧Below w.heap.size w w':=by
 subst hnp
 exact is_is d (exT x) A c place B cb want w hr (by omega) (ex_size hsz) hT hg hm (by omega) (by rw [hc]; show place.length≤_; omega) true (by rw [hc]; simp)
end Go.Proofs.YtkkenbalpnmfmaaDoor

namespace Go.Proofs.YtkkenbalpnmfmaaDoor
open Go.RowKit WM TR TY

def fineT:T:=⟨14,0,0,[elT]⟩
theorem fine_size:size fineT≤100:=by simp [fineT,size_eq,elT,vT]
theorem exE_is (ga : Nat) (w : World) (hr : Rep w (Lt w.heap.size) 3 fineT (nd fineT (some ⟨ga, 0, none⟩) 1)) :
  Calls Tryd.prog 47 #[.agg #[.int .i64 14,.int .i64 0,.int .i64 0,.slice (some ⟨ga,0,none⟩) 1 1]] w fun e w'=>∃ A' c',e = .returned (.agg #[.int .i64 27,.int .i64 0,.int .i64 0,.slice A' 1 c'])∧Rep w' (Lt w'.heap.size) 6 (exT fineT) (nd (exT fineT) A' c')∧Below w.heap.size w w' :=
 example_is 2 fineT (some ⟨ga,0,none⟩) 1 w hr
theorem ofx_is (f er : Int) (Af : Option Addr) (cf ga : Nat) (w : World) (hr : Rep w (Lt w.heap.size) 6 (exT fineT) (nd (exT fineT) Af cf)) (hx : Rep w (Lt w.heap.size) 6 elT (nd elT (some ⟨ga, 0, none⟩) 1)) (hT : ST w) (hg : 0 < w.heap.size) (ho : ofK (exT fineT) f elT = (0, er)) :
  Calls Tryd.prog 29 #[.agg #[.int .i64 27,.int .i64 0,.int .i64 0,.slice Af 1 cf],.int .i64 f,.agg #[.int .i64 7,.int .i64 1,.int .i64 0,.slice (some ⟨ga,0,none⟩) 1 1]] w fun e w'=>e = .returned (.tuple #[.agg #[.int .i64 0,.int .i64 0,.int .i64 0,.slice none 0 0],.int .i64 er])∧Below w.heap.size w w':=by
 have h:=of_is 5 (exT fineT) elT f Af (some ⟨ga,0,none⟩) cf 1 w hr hx (by omega) (ex_size fine_size) (by simp [size_eq,elT,vT]) hT hg
 rw [ho] at h
 exact h
theorem words3_is (w:World):Calls Tryd.prog 23 #[.agg #[.int .i64 2,.int .i64 3,.int .i64 0,.slice none 0 0]] w fun e w'=>e = .returned (.int .i64 3)∧Below w.heap.size w w':=by
 have h:=words_is 0 ⟨2,3,0,[]⟩ none 0 w (Rep.leaf (in_sm (by decide) (by decide)) (in_sm (by decide) (by decide)) (in_sm (by decide) (by decide)) 0 0)
 rw [words0] at h
 exact h
theorem wordsV_is (w:World):Calls Tryd.prog 23 #[.agg #[.int .i64 6,.int .i64 0,.int .i64 0,.slice none 0 0]] w fun e w'=>e = .returned (.int .i64 (-1))∧Below w.heap.size w w':=by
 have h:=words_is 0 vT none 0 w (Rep.leaf (in_sm (by decide) (by decide)) (in_sm (by decide) (by decide)) (in_sm (by decide) (by decide)) 0 0)
 rw [words1] at h
 exact h
theorem is1_is (A : Option Addr) (c : Nat) (B : Option Addr) (w : World) (hr : Rep w (Lt w.heap.size) 5 (exT ⟨14, 1, 0, [⟨4, 3, 0, []⟩]⟩) (nd (exT ⟨14, 1, 0, [⟨4, 3, 0, []⟩]⟩) A c)) (hT : ST w ∧ 0 < w.heap.size) (hm : Reads w w.heap.size 1 B 3 (vi [0, 2, 0])) :
  Calls Tryd.prog 16 #[.agg #[.int .i64 27,.int .i64 0,.int .i64 0,.slice A 1 c],.slice B 3 3,.int .i64 12] w fun e w'=>e = .returned (.bool true)∧Below w.heap.size w w' :=
 isx_is 4 _ A c [0,2,0] 3 B 3 12 w hr (by decide) (two_size _ _ _ _) hT.1 hT.2 hm rfl (by decide) chk1
theorem is2_is (A : Option Addr) (c : Nat) (B : Option Addr) (w : World) (hr : Rep w (Lt w.heap.size) 5 (exT ⟨14, 0, 0, [⟨6, 2, 0, []⟩]⟩) (nd (exT ⟨14, 0, 0, [⟨6, 2, 0, []⟩]⟩) A c)) (hT : ST w ∧ 0 < w.heap.size) (hm : Reads w w.heap.size 1 B 4 (vi [0, 2, 0, 0])) :
  Calls Tryd.prog 16 #[.agg #[.int .i64 27,.int .i64 0,.int .i64 0,.slice A 1 c],.slice B 4 4,.int .i64 5] w fun e w'=>e = .returned (.bool true)∧Below w.heap.size w w' :=
 isx_is 4 _ A c [0,2,0,0] 4 B 4 5 w hr (by decide) (two_size _ _ _ _) hT.1 hT.2 hm rfl (by decide) chk2
theorem is3_is (A : Option Addr) (c : Nat) (B : Option Addr) (w : World) (hr : Rep w (Lt w.heap.size) 5 (exT ⟨14, 0, 0, [⟨5, 1, 0, []⟩]⟩) (nd (exT ⟨14, 0, 0, [⟨5, 1, 0, []⟩]⟩) A c)) (hT : ST w ∧ 0 < w.heap.size) (hm : Reads w w.heap.size 1 B 3 (vi [0, 2, 0])) :
  Calls Tryd.prog 16 #[.agg #[.int .i64 27,.int .i64 0,.int .i64 0,.slice A 1 c],.slice B 3 3,.int .i64 12] w fun e w'=>e = .returned (.bool true)∧Below w.heap.size w w' :=
 isx_is 4 _ A c [0,2,0] 3 B 3 12 w hr (by decide) (two_size _ _ _ _) hT.1 hT.2 hm rfl (by decide) chk3
theorem is4_is (A : Option Addr) (c : Nat) (B : Option Addr) (w : World) (hr : Rep w (Lt w.heap.size) 5 (exT ⟨24, 0, 0, [⟨12, 0, 0, []⟩]⟩) (nd (exT ⟨24, 0, 0, [⟨12, 0, 0, []⟩]⟩) A c)) (hT : ST w ∧ 0 < w.heap.size) (hm : Reads w w.heap.size 1 B 4 (vi [0, 2, 0, 0])) :
  Calls Tryd.prog 16 #[.agg #[.int .i64 27,.int .i64 0,.int .i64 0,.slice A 1 c],.slice B 4 4,.int .i64 5] w fun e w'=>e = .returned (.bool true)∧Below w.heap.size w w' :=
 isx_is 4 _ A c [0,2,0,0] 4 B 4 5 w hr (by decide) (two_size _ _ _ _) hT.1 hT.2 hm rfl (by decide) chk4
theorem is0_is (A : Option Addr) (c : Nat) (w : World) (hr : Rep w (Lt w.heap.size) 6 (exT fineT) (nd (exT fineT) A c)) (hT : ST w ∧ 0 < w.heap.size) :
  Calls Tryd.prog 16 #[.agg #[.int .i64 27,.int .i64 0,.int .i64 0,.slice A 1 c],.slice none 0 0,.int .i64 0] w fun e w'=>e = .returned (.bool true)∧Below w.heap.size w w' :=
 isx_is 5 _ A c [] 0 none 0 0 w hr (by decide) fine_size hT.1 hT.2 (reads_nil _ _) rfl (by decide) chk0
set_option maxRecDepth 100000 in
set_option maxHeartbeats 16000000 in
theorem lives_is (w : World) (hT : ST w) (hg : 0 < w.heap.size) :
  Calls Tryd.prog 17 #[] w fun e w'=>e = .returned (.bool true)∧Below w.heap.size w w':=by
 have HT:=Lib.hid hT
 have HG:=Lib.hid hg
 clear hT hg
 go_enter Tryd.func17,Tryd.ntmps17
 go_upto_region 2 with (go_at_call 46; refine (node_is _ _ _ _ _ _).mono ?_; rintro e w1 ⟨rfl,hb1⟩; have HB1:=Lib.hid hb1; clear hb1)
 obtain ⟨V1,hV1⟩:∃ V,V = w1.alloc (.cells #[.int .i64 6,.int .i64 0,.int .i64 0,.slice none 0 0] 25):=⟨_,rfl⟩
 obtain ⟨g1,hg1⟩:∃ g,g = w1.heap.size:=⟨_,rfl⟩
 have k1:Blk V1 g1 25 #[.int .i64 6,.int .i64 0,.int .i64 0,.slice none 0 0]:=by rw [hV1,hg1]; exact Blk.new _ _ _
 have HBV1:Hid (Below w.heap.size w V1):=Lib.hid (by rw [hV1]; exact ba HB1.out _)
 rw [← hV1,← hg1]
 have HK1:=Lib.hid k1
 obtain ⟨y0,y1,y2,y3⟩:V1.cell? ⟨g1,0,none⟩ = some (.int .i64 6)∧V1.cell? ⟨g1,1,none⟩ = some (.int .i64 0)∧V1.cell? ⟨g1,2,none⟩ = some (.int .i64 0)∧V1.cell? ⟨g1,3,none⟩ = some (.slice none 0 0):=⟨k1.cell 0,k1.cell 1,k1.cell 2,k1.cell 3⟩
 clear hV1 hg1 k1
 go_upto_region 3 with (go_at_call 46; go_loud (refine (node1_is 7 1 6 0 V1 (by decide) (by decide) (by decide) (by decide)).mono ?_; rintro e w2 ⟨ga,rfl,hr2,hb2⟩; have HR2:=Lib.hid hr2; have HB2:=Lib.hid hb2; clear hr2 hb2))
 clear y0 y1 y2 y3
 obtain ⟨V2,hV2⟩:∃ V,V = w2.alloc (.cells #[.int .i64 7,.int .i64 1,.int .i64 0,.slice (some ⟨ga,0,none⟩) 1 1] 25):=⟨_,rfl⟩
 obtain ⟨g2,hg2⟩:∃ g,g = w2.heap.size:=⟨_,rfl⟩
 have k2:Blk V2 g2 25 #[.int .i64 7,.int .i64 1,.int .i64 0,.slice (some ⟨ga,0,none⟩) 1 1]:=by rw [hV2,hg2]; exact Blk.new _ _ _
 have hbv2:Below w2.heap.size w2 V2:=by rw [hV2]; exact below_new _ _
 have HBV2:Hid (Below V1.heap.size V1 V2):=Lib.hid (bt HB2.out hbv2)
 have HEL:Hid (Rep V2 (Lt V2.heap.size) 2 elT (nd elT (some ⟨ga,0,none⟩) 1)):=Lib.hid (rep_next HR2.out hbv2)
 rw [← hV2,← hg2]
 have HK2:=Lib.hid k2
 obtain ⟨y0,y1,y2,y3⟩:V2.cell? ⟨g2,0,none⟩ = some (.int .i64 7)∧V2.cell? ⟨g2,1,none⟩ = some (.int .i64 1)∧V2.cell? ⟨g2,2,none⟩ = some (.int .i64 0)∧V2.cell? ⟨g2,3,none⟩ = some (.slice (some ⟨ga,0,none⟩) 1 1):=⟨k2.cell 0,k2.cell 1,k2.cell 2,k2.cell 3⟩
 clear hV2 hg2 k2 hbv2
 go_upto_region 4 with (first
  | (go_at_call 46; refine (nodeR_is 14 0 1 elT (some ⟨ga,0,none⟩) 1 V2 HEL.out (by decide) (by decide)).mono ?_; rintro e w3 ⟨gb,rfl,hr3,hb3⟩; have HR3:=Lib.hid hr3; have HB3:=Lib.hid hb3; clear hr3 hb3)
  | (go_at_call 47; refine (exE_is gb w3 HR3.out).mono ?_; rintro e w4 ⟨Af,cf,rfl,hr4,hb4⟩; have HR4:=Lib.hid hr4; have HB4:=Lib.hid hb4; clear hr4 hb4))
 clear y0 y1 y2 y3
 obtain ⟨V3,hV3⟩:∃ V,V = w4.alloc (.cells #[.int .i64 27,.int .i64 0,.int .i64 0,.slice Af 1 cf] 25):=⟨_,rfl⟩
 obtain ⟨g3,hg3⟩:∃ g,g = w4.heap.size:=⟨_,rfl⟩
 have k3:Blk V3 g3 25 #[.int .i64 27,.int .i64 0,.int .i64 0,.slice Af 1 cf]:=by rw [hV3,hg3]; exact Blk.new _ _ _
 have hbv3:Below w4.heap.size w4 V3:=by rw [hV3]; exact below_new _ _
 have hbV23:Below V2.heap.size V2 V3:=bt HB3.out (bt HB4.out hbv3)
 rw [← hV3,← hg3]
 have HK3:=Lib.hid k3
 have HBv3:=Lib.hid hbv3
 have HBV23:=Lib.hid hbV23
 clear hV3 hg3 k3 hbv3 hbV23
 go_upto_region 6 with fail
 obtain ⟨V5,hV5⟩:∃ V,V = (V3.alloc (.cells #[.int .i64 0,.int .i64 2,.int .i64 0] 3)).alloc (.cells #[.int .i64 0,.int .i64 2,.int .i64 0,.int .i64 0] 3):=⟨_,rfl⟩
 rw [← hV5]
 have hb35:Below V3.heap.size V3 V5:=by rw [hV5]; exact ba (below_new _ _) _
 have hb25:=bt HBV23.out hb35
 have hb15:=bt HBV2.out hb25
 have q1:=HK1.out.below hb15 HK1.out.lt
 have q2:=HK2.out.below hb25 HK2.out.lt
 have q3:=HK3.out.below hb35 HK3.out.lt
 have hs1:Reads V5 V5.heap.size 1 (some ⟨V3.heap.size,0,none⟩) 3 (vi [0,2,0]):=by
  rw [hV5]
  exact Reads.of_own (ownsRow_below (own_lit (w:=V3) (base:=V3.heap.size) (e:=3) (size:=1) (xs:=vi [0,2,0]) (n:=3) (Nat.le_refl _) rfl (len_le (by omega))) (below_new _ _))
 have hs2:Reads V5 V5.heap.size 1 (some ⟨V3.heap.size + 1,0,none⟩) 4 (vi [0,2,0,0]):=by
  rw [hV5]
  have h:=Reads.of_own (own_lit (w:=V3.alloc (.cells #[.int .i64 0,.int .i64 2,.int .i64 0] 3)) (base:=V3.heap.size) (e:=3) (size:=1) (xs:=vi [0,2,0,0]) (n:=4) (by rw [size_alloc]; omega) rfl (len_le (by omega)))
  have e:(V3.alloc (.cells #[.int .i64 0,.int .i64 2,.int .i64 0] 3)).heap.size = V3.heap.size + 1:=size_alloc _ _
  rw [← e]
  exact h
 have HKX:Hid (∀ W,Below V5.heap.size V5 W→(W.cell? ⟨g1,0,none⟩ = some (.int .i64 6)∧W.cell? ⟨g1,1,none⟩ = some (.int .i64 0)∧W.cell? ⟨g1,2,none⟩ = some (.int .i64 0)∧W.cell? ⟨g1,3,none⟩ = some (.slice none 0 0))∧(W.cell? ⟨g2,0,none⟩ = some (.int .i64 7)∧W.cell? ⟨g2,1,none⟩ = some (.int .i64 1)∧W.cell? ⟨g2,2,none⟩ = some (.int .i64 0)∧W.cell? ⟨g2,3,none⟩ = some (.slice (some ⟨ga,0,none⟩) 1 1))∧(W.cell? ⟨g3,0,none⟩ = some (.int .i64 27)∧W.cell? ⟨g3,1,none⟩ = some (.int .i64 0)∧W.cell? ⟨g3,2,none⟩ = some (.int .i64 0)∧W.cell? ⟨g3,3,none⟩ = some (.slice Af 1 cf))):=Lib.hid fun W hb=>by
  have e1:=q1.below hb q1.lt
  have e2:=q2.below hb q2.lt
  have e3:=q3.below hb q3.lt
  exact ⟨⟨e1.cell 0,e1.cell 1,e1.cell 2,e1.cell 3⟩,⟨e2.cell 0,e2.cell 1,e2.cell 2,e2.cell 3⟩,e3.cell 0,e3.cell 1,e3.cell 2,e3.cell 3⟩
 have HST:Hid (∀ W,Below V5.heap.size V5 W→Reads W W.heap.size 1 (some ⟨V3.heap.size,0,none⟩) 3 (vi [0,2,0])∧Reads W W.heap.size 1 (some ⟨V3.heap.size + 1,0,none⟩) 4 (vi [0,2,0,0])):=Lib.hid fun W hb=>⟨(hs1.below hb).more hb.size,(hs2.below hb).more hb.size⟩
 have HFN:Hid (∀ W,Below V5.heap.size V5 W→Rep W (Lt W.heap.size) 6 (exT fineT) (nd (exT fineT) Af cf)∧Rep W (Lt W.heap.size) 6 elT (nd elT (some ⟨ga,0,none⟩) 1)):=Lib.hid fun W hb =>
  ⟨rep_next HR4.out (bt HBv3.out (bt hb35 hb)),(rep_next HEL.out (bt hb25 hb)).deeper (by omega)⟩
 have HB05:Hid (Below w.heap.size w V5):=Lib.hid (bt HBV1.out hb15)
 have HTT:Hid (∀ W,Below V5.heap.size V5 W→ST W∧0 < W.heap.size):=Lib.hid fun W hb=>⟨HT.out.below (bt HB05.out hb) HG.out,Nat.lt_of_lt_of_le HG.out (bt HB05.out hb).size⟩
 have HB:Hid (Below V5.heap.size V5 V5):=Lib.hid (Below.refl _ _)
 clear hV5 hb35 hb25 hb15 q1 q2 q3 hs1 hs2
 obtain ⟨⟨x0,x1,x2,x3⟩,⟨y0,y1,y2,y3⟩,⟨z0,z1,z2,z3⟩⟩:=HKX.out _ HB.out
 go_upto_region 7 with (first
  | (go_at_call 16; (with_reducible refine (is0_is _ _ _ (HFN.out _ HB.out).1 (HTT.out _ HB.out)).mono ?_); rintro e w9 ⟨rfl,hb9⟩; replace HB:=Lib.hid (bt HB.out hb9); clear hb9 x0 x1 x2 x3 y0 y1 y2 y3 z0 z1 z2 z3)
  | (go_at_call 16; (with_reducible refine (is1_is _ _ _ _ HX.out (HTT.out _ HB.out) (HST.out _ HB.out).1).mono ?_); rintro e w9 ⟨rfl,hb9⟩; replace HB:=Lib.hid (bt HB.out hb9); clear hb9)
  | (go_at_call 16; (with_reducible refine (is2_is _ _ _ _ HX.out (HTT.out _ HB.out) (HST.out _ HB.out).2).mono ?_); rintro e w9 ⟨rfl,hb9⟩; replace HB:=Lib.hid (bt HB.out hb9); clear hb9)
  | (go_at_call 46; (with_reducible refine (node1_is _ _ _ _ _ (by decide) (by decide) (by decide) (by decide)).mono ?_); rintro e w7 ⟨gq,rfl,hq,hbq⟩; have HQ:=Lib.hid hq; replace HB:=Lib.hid (bt HB.out hbq); clear hq hbq)
  | (go_at_call 46; (with_reducible refine (node_is _ _ none 0 0 _).mono ?_); rintro e w6 ⟨rfl,hb6⟩; replace HB:=Lib.hid (bt HB.out hb6); clear hb6)
  | (go_at_call 47; (with_reducible refine (ex2_is _ _ _ _ _ _ HQ.out).mono ?_); rintro e w8 ⟨Ax,cx,rfl,hx,hbx⟩; have HX:=Lib.hid hx; replace HB:=Lib.hid (bt HB.out hbx); clear hx hbx))
 go_upto_region 8 with (first
  | (go_at_call 16; (with_reducible refine (is3_is _ _ _ _ HX.out (HTT.out _ HB.out) (HST.out _ HB.out).1).mono ?_); rintro e w9 ⟨rfl,hb9⟩; replace HB:=Lib.hid (bt HB.out hb9); clear hb9)
  | (go_at_call 16; (with_reducible refine (is4_is _ _ _ _ HX.out (HTT.out _ HB.out) (HST.out _ HB.out).2).mono ?_); rintro e w9 ⟨rfl,hb9⟩; replace HB:=Lib.hid (bt HB.out hb9); clear hb9)
  | (go_at_call 46; (with_reducible refine (node1_is _ _ _ _ _ (by decide) (by decide) (by decide) (by decide)).mono ?_); rintro e w7 ⟨gq,rfl,hq,hbq⟩; have HQ:=Lib.hid hq; replace HB:=Lib.hid (bt HB.out hbq); clear hq hbq)
  | (go_at_call 46; (with_reducible refine (node_is _ _ none 0 0 _).mono ?_); rintro e w6 ⟨rfl,hb6⟩; replace HB:=Lib.hid (bt HB.out hb6); clear hb6)
  | (go_at_call 47; (with_reducible refine (ex2_is _ _ _ _ _ _ HQ.out).mono ?_); rintro e w8 ⟨Ax,cx,rfl,hx,hbx⟩; have HX:=Lib.hid hx; replace HB:=Lib.hid (bt HB.out hbx); clear hx hbx))
 obtain ⟨⟨x0,x1,x2,x3⟩,⟨y0,y1,y2,y3⟩,⟨z0,z1,z2,z3⟩⟩:=HKX.out _ HB.out
 go_upto_region 9 with (go_at_call 29; refine (ofx_is 0 0 Af cf ga _ (HFN.out _ HB.out).1 (HFN.out _ HB.out).2 (HTT.out _ HB.out).1 (HTT.out _ HB.out).2 of0).mono ?_; rintro e w10 ⟨rfl,hb10⟩; replace HB:=Lib.hid (bt HB.out hb10); clear hb10 x0 x1 x2 x3 y0 y1 y2 y3 z0 z1 z2 z3)
 obtain ⟨V8,hV8⟩:∃ V,V = w10.alloc (.cells #[.int .i64 0,.int .i64 0,.int .i64 0,.slice none 0 0] 25):=⟨_,rfl⟩
 obtain ⟨g8,hg8⟩:∃ g,g = w10.heap.size:=⟨_,rfl⟩
 have k8:Blk V8 g8 25 #[.int .i64 0,.int .i64 0,.int .i64 0,.slice none 0 0]:=by rw [hV8,hg8]; exact Blk.new _ _ _
 have hb8:Below w10.heap.size w10 V8:=by rw [hV8]; exact below_new _ _
 rw [← hV8,← hg8]
 replace HB:=Lib.hid (bt HB.out hb8)
 have HK8:=Lib.hid k8
 have HBV8:=HB
 have HB8:Hid (Below V8.heap.size V8 V8):=Lib.hid (Below.refl _ _)
 clear hV8 hg8 k8 hb8
 obtain ⟨⟨x0,x1,x2,x3⟩,⟨y0,y1,y2,y3⟩,⟨z0,z1,z2,z3⟩⟩:=HKX.out _ HB.out
 go_upto_region 10 with (go_at_call 29; refine (ofx_is 1 5 Af cf ga _ (HFN.out _ HB.out).1 (HFN.out _ HB.out).2 (HTT.out _ HB.out).1 (HTT.out _ HB.out).2 of1).mono ?_; rintro e w10 ⟨rfl,hb10⟩; replace HB:=Lib.hid (bt HB.out hb10); replace HB8:=Lib.hid (bt HB8.out hb10); clear hb10 x0 x1 x2 x3 y0 y1 y2 y3 z0 z1 z2 z3)
 obtain ⟨V9,hV9⟩:∃ V,V = w10.alloc (.cells #[.int .i64 0,.int .i64 0,.int .i64 0,.slice none 0 0] 25):=⟨_,rfl⟩
 obtain ⟨g9,hg9⟩:∃ g,g = w10.heap.size:=⟨_,rfl⟩
 have hb9:Below w10.heap.size w10 V9:=by rw [hV9]; exact below_new _ _
 rw [← hV9,← hg9]
 replace HB:=Lib.hid (bt HB.out hb9)
 replace HB8:=Lib.hid (bt HB8.out hb9)
 have u0:V9.cell? ⟨g8,0,none⟩ = some (.int .i64 0):=(HK8.out.below HB8.out HK8.out.lt).cell 0
 clear hV9 hg9 hb9
 go_wp2_with (first
  | (go_at_call 23; (with_reducible refine (words3_is _).mono ?_); rintro e w11 ⟨rfl,hb11⟩; replace HB:=Lib.hid (bt HB.out hb11); clear hb11; obtain ⟨⟨x0,x1,x2,x3⟩,_,_⟩:=HKX.out _ HB.out)
  | (go_at_call 23; (with_reducible refine (wordsV_is _).mono ?_); rintro e w12 ⟨rfl,hb12⟩; replace HB:=Lib.hid (bt HB.out hb12); clear hb12 x0 x1 x2 x3)
  | (go_at_call 46; (with_reducible refine (node_is _ _ none 0 0 _).mono ?_); rintro e w6 ⟨rfl,hb6⟩; replace HB:=Lib.hid (bt HB.out hb6); clear hb6 u0))
 go_ret
 exact ⟨rfl,bt HB05.out HB.out⟩
end Go.Proofs.YtkkenbalpnmfmaaDoor

namespace Go.Proofs.YtkkenbalpnmfmaaDoor
open Go.RowKit WM TR

def ClonePost (p:List Int) (w:World) (e:Ending) (w':World):Prop :=
 ∃ A' c',e = .returned (.slice A' p.length c')∧p.length≤c'∧w'.ownsRow w.heap.size 3 1 (.slice A' p.length c') p.length (vi p)∧Below w.heap.size w w'

set_option maxRecDepth 100000 in
set_option maxHeartbeats 1000000 in
theorem cloneInts_is (p : List Int) (S : Nat → Prop) (A : Option Addr) (c : Nat) (w : World) (hp : Rd w S 1 A p.length (vi p)) (hin : In S w.heap.size) (hl : p.length ≤ 1000000) :
  Calls Tryd.prog 59 #[.slice A p.length c] w (ClonePost p w):=by
 obtain ⟨i0,hi,hz0,hz1,hz2⟩:=info_parts ps_int_info
 obtain ⟨n,hn⟩:∃ n,n = p.length:=⟨_,rfl⟩
 have HN:=Lib.hid hn
 have HP:=Lib.hid hp
 have HI:=Lib.hid hin
 rw [← hn] at hl ⊢
 clear hn hp hin
 cases A with
 | none =>
  have h0:n = 0:=by
   rcases Nat.eq_zero_or_pos n with h | h
   ·exact h
   ·obtain ⟨ad,e,_⟩:=HP.out.2 (by rw [← HN.out]; exact h)
    cases e
  have hp0:p = []:=List.eq_nil_of_length_eq_zero (by rw [← HN.out]; exact h0)
  subst h0
  subst hp0
  have hq:∀ W:World,(binOp BinOp.eql 22 (.slice none 0 c) (.slice none 0 0)).run Tryd.prog W = .ok (.bool true) W:=fun W=>by kernel_rfl
  clear HN HP
  go_enter Tryd.func59,Tryd.ntmps59
  go_wp2
  go_ret
  exact ⟨none,0,rfl,Nat.le_refl _,World.ownsRow_nil _ _ _ _,Below.refl _ _⟩
 | some ad =>
  have hq:∀ W:World,(binOp BinOp.eql 22 (.slice (some ad) n c) (.slice none 0 0)).run Tryd.prog W = .ok (.bool false) W:=fun W=>by kernel_rfl
  go_enter Tryd.func59,Tryd.ntmps59
  go_wp2_with (at_builtin; refine wpList_append_any _ rfl (.tmp 5) (.tmp 6) 22 rfl w.heap.size 3 i0 _ 1 8 Tryd.underlying22 hi hz0 hz1 hz2 rfl (by omega) _ 0 [] rfl (own_lit (xs:=[]) (n:=0) (Nat.le_refl _) rfl (len_le (by omega))) _ (some ad) n c (vi p) rfl (by rw [HN.out]; exact (HP.out.keep (Keeps.below HI.out (below_new w _))).reads (HI.out.more (below_new w (.cells #[] 3)).size)) (vi_one p) (len_le (by omega)) (by omega) (by simp) ?_; intro v7 w7 hown7 hgrow7 _; obtain ⟨A7,c7,hv7,hcap7⟩:=own_len hown7; rw [Nat.zero_add] at hv7 hcap7; subst hv7; have HO7:=Lib.hid hown7; have HB7:Hid (Below w.heap.size w w7):=Lib.hid (below_grown hgrow7 (fun b hb=>Nat.le_of_eq (Option.some.inj hb))); clear hown7 hgrow7)
  go_ret
  refine ⟨A7,c7,by rw [HN.out]; rfl,by rw [← HN.out]; exact hcap7,?_,HB7.out⟩
  have h:=HO7.out
  rw [Nat.zero_add,List.nil_append] at h
  rw [← HN.out]
  exact h
end Go.Proofs.YtkkenbalpnmfmaaDoor
