/- Texts joined. -/
import Derived.Test.YtkkenbalpnmfmaaDoorH42
import Derived.Test.YtkkenbalpnmfmaaDoorH40
import Derived.Test.YtkkenbalpnmfmaaDoorH07
import Derived.Deep.DeepCutAuto
set_option linter.unusedVariables false
namespace Go.Proofs.YtkkenbalpnmfmaaDoor
open Go.RowKit WM TR TY

theorem nodeR_is (k n : Int) (d : Nat) (x : T) (A : Option Addr) (c : Nat) (W : World) (hr : Rep W (Lt W.heap.size) (d + 1) x (nd x A c)) (h0 : -100 ≤ k ∧ k ≤ 100) (h1 : -100 ≤ n ∧ n ≤ 100) :
  Calls Tryd.prog 46 #[.int .i64 k,.int .i64 n,.slice (some ⟨W.heap.size,0,none⟩) 1 1] (W.alloc (.cells #[.int .i64 x.k,.int .i64 x.n,.int .i64 x.m,.slice A x.kids.length c] 25)) fun e w'=>∃ g,e = .returned (.agg #[.int .i64 k,.int .i64 n,.int .i64 0,.slice (some ⟨g,0,none⟩) 1 1])∧Rep w' (Lt w'.heap.size) (d + 2) ⟨k,n,0,[x]⟩ (nd ⟨k,n,0,[x]⟩ (some ⟨g,0,none⟩) 1)∧Below W.heap.size W w':=by
 refine (node_is k n (some ⟨W.heap.size,0,none⟩) 1 1 _).mono ?_
 rintro e w' ⟨rfl,hb⟩
 have h:=(nds_new (Reps.one hr) (by simp)).rep (k:=k) (n:=n) (m:=0) (in_sm h0.1 h0.2) (in_sm h1.1 h1.2) (in_sm (by omega) (by omega))
 exact ⟨W.heap.size,rfl,rep_next h hb,bt (below_new _ _) hb⟩
theorem node1_is (k n a b : Int) (W : World) (h0 : -100 ≤ k ∧ k ≤ 100) (h1 : -100 ≤ n ∧ n ≤ 100) (h2 : -100 ≤ a ∧ a ≤ 100) (h3 : -100 ≤ b ∧ b ≤ 100) :
  Calls Tryd.prog 46 #[.int .i64 k,.int .i64 n,.slice (some ⟨W.heap.size,0,none⟩) 1 1] (W.alloc (.cells #[.int .i64 a,.int .i64 b,.int .i64 0,.slice none 0 0] 25)) fun e w'=>∃ g,e = .returned (.agg #[.int .i64 k,.int .i64 n,.int .i64 0,.slice (some ⟨g,0,none⟩) 1 1])∧Rep w' (Lt w'.heap.size) 2 ⟨k,n,0,[⟨a,b,0,[]⟩]⟩ (nd ⟨k,n,0,[⟨a,b,0,[]⟩]⟩ (some ⟨g,0,none⟩) 1)∧Below W.heap.size W w' :=
 nodeR_is k n 0 ⟨a,b,0,[]⟩ none 0 W (Rep.leaf (in_sm h2.1 h2.2) (in_sm h3.1 h3.2) (in_sm (by omega) (by omega)) 0 0) h0 h1
theorem ex2_is (k n a b : Int) (g : Nat) (w : World) (hr : Rep w (Lt w.heap.size) 2 ⟨k, n, 0, [⟨a, b, 0, []⟩]⟩ (nd ⟨k, n, 0, [⟨a, b, 0, []⟩]⟩ (some ⟨g, 0, none⟩) 1)) :
  Calls Tryd.prog 47 #[.agg #[.int .i64 k,.int .i64 n,.int .i64 0,.slice (some ⟨g,0,none⟩) 1 1]] w fun e w'=>∃ A' c',e = .returned (.agg #[.int .i64 27,.int .i64 0,.int .i64 0,.slice A' 1 c'])∧Rep w' (Lt w'.heap.size) 5 (exT ⟨k,n,0,[⟨a,b,0,[]⟩]⟩) (nd (exT ⟨k,n,0,[⟨a,b,0,[]⟩]⟩) A' c')∧Below w.heap.size w w' :=
 example_is 1 ⟨k,n,0,[⟨a,b,0,[]⟩]⟩ (some ⟨g,0,none⟩) 1 w hr
theorem ex_size {x:T} (h:size x≤100):size (exT x)≤1000000:=by
 have hl:∀ k n:Int,size ⟨k,n,0,[]⟩ = 1:=fun k n=>by rw [size_eq]; rfl
 have hb:size (exB x) = 1 + (size x + 0):=by rw [size_eq]; rfl
 have hf:size (exF x) = 1 + (size ⟨0,0,0,[]⟩ + (size ⟨2,2,0,[]⟩ + (size (exB x) + 0))):=by rw [size_eq]; rfl
 have ht:size (exT x) = 1 + (size (exF x) + 0):=by rw [size_eq]; rfl
 rw [hl,hl] at hf
 omega
theorem two_size (k n a b:Int):size ⟨k,n,0,[⟨a,b,0,[]⟩]⟩≤100:=by simp [size_eq]
theorem isx_is (d : Nat) (x : T) (A : Option Addr) (c : Nat) (place : List Int) (np : Nat) (B : Option Addr) (cb : Nat) (want : Int) (w : World) (hr : Rep w (Lt w.heap.size) (d + 1) (exT x) (nd (exT x) A c)) (hd : d ≤ 10) (hsz : size x ≤ 100) (hT : ST w) (hg : 0 < w.heap.size)
  (hm:Reads w w.heap.size 1 B np (vi place)) (hnp:np = place.length) (hpl:place.length≤100) (hc:chk (exT x) = (place,want)) :
  Calls Tryd.prog 16 #[.agg #[.int .i64 27,.int .i64 0,.int .i64 0,.slice A 1 c],.slice B np cb,.int .i64 want] w fun e w'=>e = .returned (.bool true)∧Below w.heap.size w w':=by
 subst hnp
 exact is_is d (exT x) A c place B cb want w hr (by omega) (ex_size hsz) hT hg hm (by omega) (by rw [hc]; show place.length≤_; omega) true (by rw [hc]; simp)
end Go.Proofs.YtkkenbalpnmfmaaDoor

namespace Go.Proofs.YtkkenbalpnmfmaaDoor
open Go.RowKit WM TR TY

def fineT:T:=⟨14,0,0,[elT]⟩
theorem fine_size:size fineT≤100:=by simp [fineT,size_eq,elT,vT]
theorem exE_is (ga : Nat) (w : World) (hr : Rep w (Lt w.heap.size) 3 fineT (nd fineT (some ⟨ga, 0, none⟩) 1)) :
  Calls Tryd.prog 47 #[.agg #[.int .i64 14,.int .i64 0,.int .i64 0,.slice (some ⟨ga,0,none⟩) 1 1]] w fun e w'=>∃ A' c',e = .returned (.agg #[.int .i64 27,.int .i64 0,.int .i64 0,.slice A' 1 c'])∧Rep w' (Lt w'.heap.size) 6 (exT fineT) (nd (exT fineT) A' c')∧Below w.heap.size w w' :=
 example_is 2 fineT (some ⟨ga,0,none⟩) 1 w hr
theorem ofx_is (f er : Int) (Af : Option Addr) (cf ga : Nat) (w : World) (hr : Rep w (Lt w.heap.size) 6 (exT fineT) (nd (exT fineT) Af cf)) (hx : Rep w (Lt w.heap.size) 6 elT (nd elT (some ⟨ga, 0, none⟩) 1)) (hT : ST w) (hg : 0 < w.heap.size) (ho : ofK (exT fineT) f elT = (0, er)) :
  Calls Tryd.prog 29 #[.agg #[.int .i64 27,.int .i64 0,.int .i64 0,.slice Af 1 cf],.int .i64 f,.agg #[.int .i64 7,.int .i64 1,.int .i64 0,.slice (some ⟨ga,0,none⟩) 1 1]] w fun e w'=>e = .returned (.tuple #[.agg #[.int .i64 0,.int .i64 0,.int .i64 0,.slice none 0 0],.int .i64 er])∧Below w.heap.size w w':=by
 have h:=of_is 5 (exT fineT) elT f Af (some ⟨ga,0,none⟩) cf 1 w hr hx (by omega) (ex_size fine_size) (by simp [size_eq,elT,vT]) hT hg
 rw [ho] at h
 exact h
theorem words3_is (w:World):Calls Tryd.prog 23 #[.agg #[.int .i64 2,.int .i64 3,.int .i64 0,.slice none 0 0]] w fun e w'=>e = .returned (.int .i64 3)∧Below w.heap.size w w':=by
 have h:=words_is 0 ⟨2,3,0,[]⟩ none 0 w (Rep.leaf (in_sm (by decide) (by decide)) (in_sm (by decide) (by decide)) (in_sm (by decide) (by decide)) 0 0)
 rw [words0] at h
 exact h
theorem wordsV_is (w:World):Calls Tryd.prog 23 #[.agg #[.int .i64 6,.int .i64 0,.int .i64 0,.slice none 0 0]] w fun e w'=>e = .returned (.int .i64 (-1))∧Below w.heap.size w w':=by
 have h:=words_is 0 vT none 0 w (Rep.leaf (in_sm (by decide) (by decide)) (in_sm (by decide) (by decide)) (in_sm (by decide) (by decide)) 0 0)
 rw [words1] at h
 exact h
theorem is1_is (A : Option Addr) (c : Nat) (B : Option Addr) (w : World) (hr : Rep w (Lt w.heap.size) 5 (exT ⟨14, 1, 0, [⟨4, 3, 0, []⟩]⟩) (nd (exT ⟨14, 1, 0, [⟨4, 3, 0, []⟩]⟩) A c)) (hT : ST w ∧ 0 < w.heap.size) (hm : Reads w w.heap.size 1 B 3 (vi [0, 2, 0])) :
  Calls Tryd.prog 16 #[.agg #[.int .i64 27,.int .i64 0,.int .i64 0,.slice A 1 c],.slice B 3 3,.int .i64 12] w fun e w'=>e = .returned (.bool true)∧Below w.heap.size w w' :=
 isx_is 4 _ A c [0,2,0] 3 B 3 12 w hr (by decide) (two_size _ _ _ _) hT.1 hT.2 hm rfl (by decide) chk1
theorem is2_is (A : Option Addr) (c : Nat) (B : Option Addr) (w : World) (hr : Rep w (Lt w.heap.size) 5 (exT ⟨14, 0, 0, [⟨6, 2, 0, []⟩]⟩) (nd (exT ⟨14, 0, 0, [⟨6, 2, 0, []⟩]⟩) A c)) (hT : ST w ∧ 0 < w.heap.size) (hm : Reads w w.heap.size 1 B 4 (vi [0, 2, 0, 0])) :
  Calls Tryd.prog 16 #[.agg #[.int .i64 27,.int .i64 0,.int .i64 0,.slice A 1 c],.slice B 4 4,.int .i64 5] w fun e w'=>e = .returned (.bool true)∧Below w.heap.size w w' :=
 isx_is 4 _ A c [0,2,0,0] 4 B 4 5 w hr (by decide) (two_size _ _ _ _) hT.1 hT.2 hm rfl (by decide) chk2
theorem is3_is (A : Option Addr) (c : Nat) (B : Option Addr) (w : World) (hr : Rep w (Lt w.heap.size) 5 (exT ⟨14, 0, 0, [⟨5, 1, 0, []⟩]⟩) (nd (exT ⟨14, 0, 0, [⟨5, 1, 0, []⟩]⟩) A c)) (hT : ST w ∧ 0 < w.heap.size) (hm : Reads w w.heap.size 1 B 3 (vi [0, 2, 0])) :
  Calls Tryd.prog 16 #[.agg #[.int .i64 27,.int .i64 0,.int .i64 0,.slice A 1 c],.slice B 3 3,.int .i64 12] w fun e w'=>e = .returned (.bool true)∧Below w.heap.size w w' :=
 isx_is 4 _ A c [0,2,0] 3 B 3 12 w hr (by decide) (two_size _ _ _ _) hT.1 hT.2 hm rfl (by decide) chk3
theorem is4_is (A : Option Addr) (c : Nat) (B : Option Addr) (w : World) (hr : Rep w (Lt w.heap.size) 5 (exT ⟨24, 0, 0, [⟨12, 0, 0, []⟩]⟩) (nd (exT ⟨24, 0, 0, [⟨12, 0, 0, []⟩]⟩) A c)) (hT : ST w ∧ 0 < w.heap.size) (hm : Reads w w.heap.size 1 B 4 (vi [0, 2, 0, 0])) :
  Calls Tryd.prog 16 #[.agg #[.int .i64 27,.int .i64 0,.int .i64 0,.slice A 1 c],.slice B 4 4,.int .i64 5] w fun e w'=>e = .returned (.bool true)∧Below w.heap.size w w' :=
 isx_is 4 _ A c [0,2,0,0] 4 B 4 5 w hr (by decide) (two_size _ _ _ _) hT.1 hT.2 hm rfl (by decide) chk4
theorem is0_is (A : Option Addr) (c : Nat) (w : World) (hr : Rep w (Lt w.heap.size) 6 (exT fineT) (nd (exT fineT) A c)) (hT : ST w ∧ 0 < w.heap.size) :
  Calls Tryd.prog 16 #[.agg #[.int .i64 27,.int .i64 0,.int .i64 0,.slice A 1 c],.slice none 0 0,.int .i64 0] w fun e w'=>e = .returned (.bool true)∧Below w.heap.size w w' :=
 isx_is 5 _ A c [] 0 none 0 0 w hr (by decide) fine_size hT.1 hT.2 (reads_nil _ _) rfl (by decide) chk0
set_option maxRecDepth 100000 in
set_option maxHeartbeats 16000000 in
theorem lives_is (w : World) (hT : ST w) (hg : 0 < w.heap.size) :
  Calls Tryd.prog 17 #[] w fun e w'=>e = .returned (.bool true)∧Below w.heap.size w w':=by
 have HT:=Lib.hid hT
 have HG:=Lib.hid hg
 clear hT hg
 go_enter Tryd.func17,Tryd.ntmps17
 go_upto_region 2 with (go_at_call 46; refine (node_is _ _ _ _ _ _).mono ?_; rintro e w1 ⟨rfl,hb1⟩; have HB1:=Lib.hid hb1; clear hb1)
 obtain ⟨V1,hV1⟩:∃ V,V = w1.alloc (.cells #[.int .i64 6,.int .i64 0,.int .i64 0,.slice none 0 0] 25):=⟨_,rfl⟩
 obtain ⟨g1,hg1⟩:∃ g,g = w1.heap.size:=⟨_,rfl⟩
 have k1:Blk V1 g1 25 #[.int .i64 6,.int .i64 0,.int .i64 0,.slice none 0 0]:=by rw [hV1,hg1]; exact Blk.new _ _ _
 have HBV1:Hid (Below w.heap.size w V1):=Lib.hid (by rw [hV1]; exact ba HB1.out _)
 rw [← hV1,← hg1]
 have HK1:=Lib.hid k1
 obtain ⟨y0,y1,y2,y3⟩:V1.cell? ⟨g1,0,none⟩ = some (.int .i64 6)∧V1.cell? ⟨g1,1,none⟩ = some (.int .i64 0)∧V1.cell? ⟨g1,2,none⟩ = some (.int .i64 0)∧V1.cell? ⟨g1,3,none⟩ = some (.slice none 0 0):=⟨k1.cell 0,k1.cell 1,k1.cell 2,k1.cell 3⟩
 clear hV1 hg1 k1
 go_upto_region 3 with (go_at_call 46; go_loud (refine (node1_is 7 1 6 0 V1 (by decide) (by decide) (by decide) (by decide)).mono ?_; rintro e w2 ⟨ga,rfl,hr2,hb2⟩; have HR2:=Lib.hid hr2; have HB2:=Lib.hid hb2; clear hr2 hb2))
 clear y0 y1 y2 y3
 obtain ⟨V2,hV2⟩:∃ V,V = w2.alloc (.cells #[.int .i64 7,.int .i64 1,.int .i64 0,.slice (some ⟨ga,0,none⟩) 1 1] 25):=⟨_,rfl⟩
 obtain ⟨g2,hg2⟩:∃ g,g = w2.heap.size:=⟨_,rfl⟩
 have k2:Blk V2 g2 25 #[.int .i64 7,.int .i64 1,.int .i64 0,.slice (some ⟨ga,0,none⟩) 1 1]:=by rw [hV2,hg2]; exact Blk.new _ _ _
 have hbv2:Below w2.heap.size w2 V2:=by rw [hV2]; exact below_new _ _
 have HBV2:Hid (Below V1.heap.size V1 V2):=Lib.hid (bt HB2.out hbv2)
 have HEL:Hid (Rep V2 (Lt V2.heap.size) 2 elT (nd elT (some ⟨ga,0,none⟩) 1)):=Lib.hid (rep_next HR2.out hbv2)
 rw [← hV2,← hg2]
 have HK2:=Lib.hid k2
 obtain ⟨y0,y1,y2,y3⟩:V2.cell? ⟨g2,0,none⟩ = some (.int .i64 7)∧V2.cell? ⟨g2,1,none⟩ = some (.int .i64 1)∧V2.cell? ⟨g2,2,none⟩ = some (.int .i64 0)∧V2.cell? ⟨g2,3,none⟩ = some (.slice (some ⟨ga,0,none⟩) 1 1):=⟨k2.cell 0,k2.cell 1,k2.cell 2,k2.cell 3⟩
 clear hV2 hg2 k2 hbv2
 go_upto_region 4 with (first
  | (go_at_call 46; refine (nodeR_is 14 0 1 elT (some ⟨ga,0,none⟩) 1 V2 HEL.out (by decide) (by decide)).mono ?_; rintro e w3 ⟨gb,rfl,hr3,hb3⟩; have HR3:=Lib.hid hr3; have HB3:=Lib.hid hb3; clear hr3 hb3)
  | (go_at_call 47; refine (exE_is gb w3 HR3.out).mono ?_; rintro e w4 ⟨Af,cf,rfl,hr4,hb4⟩; have HR4:=Lib.hid hr4; have HB4:=Lib.hid hb4; clear hr4 hb4))
 clear y0 y1 y2 y3
 obtain ⟨V3,hV3⟩:∃ V,V = w4.alloc (.cells #[.int .i64 27,.int .i64 0,.int .i64 0,.slice Af 1 cf] 25):=⟨_,rfl⟩
 obtain ⟨g3,hg3⟩:∃ g,g = w4.heap.size:=⟨_,rfl⟩
 have k3:Blk V3 g3 25 #[.int .i64 27,.int .i64 0,.int .i64 0,.slice Af 1 cf]:=by rw [hV3,hg3]; exact Blk.new _ _ _
 have hbv3:Below w4.heap.size w4 V3:=by rw [hV3]; exact below_new _ _
 have hbV23:Below V2.heap.size V2 V3:=bt HB3.out (bt HB4.out hbv3)
 rw [← hV3,← hg3]
 have HK3:=Lib.hid k3
 have HBv3:=Lib.hid hbv3
 have HBV23:=Lib.hid hbV23
 clear hV3 hg3 k3 hbv3 hbV23
 go_upto_region 6 with fail
 obtain ⟨V5,hV5⟩:∃ V,V = (V3.alloc (.cells #[.int .i64 0,.int .i64 2,.int .i64 0] 3)).alloc (.cells #[.int .i64 0,.int .i64 2,.int .i64 0,.int .i64 0] 3):=⟨_,rfl⟩
 rw [← hV5]
 have hb35:Below V3.heap.size V3 V5:=by rw [hV5]; exact ba (below_new _ _) _
 have hb25:=bt HBV23.out hb35
 have hb15:=bt HBV2.out hb25
 have q1:=HK1.out.below hb15 HK1.out.lt
 have q2:=HK2.out.below hb25 HK2.out.lt
 have q3:=HK3.out.below hb35 HK3.out.lt
 have hs1:Reads V5 V5.heap.size 1 (some ⟨V3.heap.size,0,none⟩) 3 (vi [0,2,0]):=by
  rw [hV5]
  exact Reads.of_own (ownsRow_below (own_lit (w:=V3) (base:=V3.heap.size) (e:=3) (size:=1) (xs:=vi [0,2,0]) (n:=3) (Nat.le_refl _) rfl (len_le (by omega))) (below_new _ _))
 have hs2:Reads V5 V5.heap.size 1 (some ⟨V3.heap.size + 1,0,none⟩) 4 (vi [0,2,0,0]):=by
  rw [hV5]
  have h:=Reads.of_own (own_lit (w:=V3.alloc (.cells #[.int .i64 0,.int .i64 2,.int .i64 0] 3)) (base:=V3.heap.size) (e:=3) (size:=1) (xs:=vi [0,2,0,0]) (n:=4) (by rw [size_alloc]; omega) rfl (len_le (by omega)))
  have e:(V3.alloc (.cells #[.int .i64 0,.int .i64 2,.int .i64 0] 3)).heap.size = V3.heap.size + 1:=size_alloc _ _
  rw [← e]
  exact h
 have HKX:Hid (∀ W,Below V5.heap.size V5 W→(W.cell? ⟨g1,0,none⟩ = some (.int .i64 6)∧W.cell? ⟨g1,1,none⟩ = some (.int .i64 0)∧W.cell? ⟨g1,2,none⟩ = some (.int .i64 0)∧W.cell? ⟨g1,3,none⟩ = some (.slice none 0 0))∧(W.cell? ⟨g2,0,none⟩ = some (.int .i64 7)∧W.cell? ⟨g2,1,none⟩ = some (.int .i64 1)∧W.cell? ⟨g2,2,none⟩ = some (.int .i64 0)∧W.cell? ⟨g2,3,none⟩ = some (.slice (some ⟨ga,0,none⟩) 1 1))∧(W.cell? ⟨g3,0,none⟩ = some (.int .i64 27)∧W.cell? ⟨g3,1,none⟩ = some (.int .i64 0)∧W.cell? ⟨g3,2,none⟩ = some (.int .i64 0)∧W.cell? ⟨g3,3,none⟩ = some (.slice Af 1 cf))):=Lib.hid fun W hb=>by
  have e1:=q1.below hb q1.lt
  have e2:=q2.below hb q2.lt
  have e3:=q3.below hb q3.lt
  exact ⟨⟨e1.cell 0,e1.cell 1,e1.cell 2,e1.cell 3⟩,⟨e2.cell 0,e2.cell 1,e2.cell 2,e2.cell 3⟩,e3.cell 0,e3.cell 1,e3.cell 2,e3.cell 3⟩
 have HST:Hid (∀ W,Below V5.heap.size V5 W→Reads W W.heap.size 1 (some ⟨V3.heap.size,0,none⟩) 3 (vi [0,2,0])∧Reads W W.heap.size 1 (some ⟨V3.heap.size + 1,0,none⟩) 4 (vi [0,2,0,0])):=Lib.hid fun W hb=>⟨(hs1.below hb).more hb.size,(hs2.below hb).more hb.size⟩
 have HFN:Hid (∀ W,Below V5.heap.size V5 W→Rep W (Lt W.heap.size) 6 (exT fineT) (nd (exT fineT) Af cf)∧Rep W (Lt W.heap.size) 6 elT (nd elT (some ⟨ga,0,none⟩) 1)):=Lib.hid fun W hb =>
  ⟨rep_next HR4.out (bt HBv3.out (bt hb35 hb)),(rep_next HEL.out (bt hb25 hb)).deeper (by omega)⟩
 have HB05:Hid (Below w.heap.size w V5):=Lib.hid (bt HBV1.out hb15)
 have HTT:Hid (∀ W,Below V5.heap.size V5 W→ST W∧0 < W.heap.size):=Lib.hid fun W hb=>⟨HT.out.below (bt HB05.out hb) HG.out,Nat.lt_of_lt_of_le HG.out (bt HB05.out hb).size⟩
 have HB:Hid (Below V5.heap.size V5 V5):=Lib.hid (Below.refl _ _)
 clear hV5 hb35 hb25 hb15 q1 q2 q3 hs1 hs2
 obtain ⟨⟨x0,x1,x2,x3⟩,⟨y0,y1,y2,y3⟩,⟨z0,z1,z2,z3⟩⟩:=HKX.out _ HB.out
 go_upto_region 7 with (first
  | (go_at_call 16; (with_reducible refine (is0_is _ _ _ (HFN.out _ HB.out).1 (HTT.out _ HB.out)).mono ?_); rintro e w9 ⟨rfl,hb9⟩; replace HB:=Lib.hid (bt HB.out hb9); clear hb9 x0 x1 x2 x3 y0 y1 y2 y3 z0 z1 z2 z3)
  | (go_at_call 16; (with_reducible refine (is1_is _ _ _ _ HX.out (HTT.out _ HB.out) (HST.out _ HB.out).1).mono ?_); rintro e w9 ⟨rfl,hb9⟩; replace HB:=Lib.hid (bt HB.out hb9); clear hb9)
  | (go_at_call 16; (with_reducible refine (is2_is _ _ _ _ HX.out (HTT.out _ HB.out) (HST.out _ HB.out).2).mono ?_); rintro e w9 ⟨rfl,hb9⟩; replace HB:=Lib.hid (bt HB.out hb9); clear hb9)
  | (go_at_call 46; (with_reducible refine (node1_is _ _ _ _ _ (by decide) (by decide) (by decide) (by decide)).mono ?_); rintro e w7 ⟨gq,rfl,hq,hbq⟩; have HQ:=Lib.hid hq; replace HB:=Lib.hid (bt HB.out hbq); clear hq hbq)
  | (go_at_call 46; (with_reducible refine (node_is _ _ none 0 0 _).mono ?_); rintro e w6 ⟨rfl,hb6⟩; replace HB:=Lib.hid (bt HB.out hb6); clear hb6)
  | (go_at_call 47; (with_reducible refine (ex2_is _ _ _ _ _ _ HQ.out).mono ?_); rintro e w8 ⟨Ax,cx,rfl,hx,hbx⟩; have HX:=Lib.hid hx; replace HB:=Lib.hid (bt HB.out hbx); clear hx hbx))
 go_upto_region 8 with (first
  | (go_at_call 16; (with_reducible refine (is3_is _ _ _ _ HX.out (HTT.out _ HB.out) (HST.out _ HB.out).1).mono ?_); rintro e w9 ⟨rfl,hb9⟩; replace HB:=Lib.hid (bt HB.out hb9); clear hb9)
  | (go_at_call 16; (with_reducible refine (is4_is _ _ _ _ HX.out (HTT.out _ HB.out) (HST.out _ HB.out).2).mono ?_); rintro e w9 ⟨rfl,hb9⟩; replace HB:=Lib.hid (bt HB.out hb9); clear hb9)
  | (go_at_call 46; (with_reducible refine (node1_is _ _ _ _ _ (by decide) (by decide) (by decide) (by decide)).mono ?_); rintro e w7 ⟨gq,rfl,hq,hbq⟩; have HQ:=Lib.hid hq; replace HB:=Lib.hid (bt HB.out hbq); clear hq hbq)
  | (go_at_call 46; (with_reducible refine (node_is _ _ none 0 0 _).mono ?_); rintro e w6 ⟨rfl,hb6⟩; replace HB:=Lib.hid (bt HB.out hb6); clear hb6)
  | (go_at_call 47; (with_reducible refine (ex2_is _ _ _ _ _ _ HQ.out).mono ?_); rintro e w8 ⟨Ax,cx,rfl,hx,hbx⟩; have HX:=Lib.hid hx; replace HB:=Lib.hid (bt HB.out hbx); clear hx hbx))
 obtain ⟨⟨x0,x1,x2,x3⟩,⟨y0,y1,y2,y3⟩,⟨z0,z1,z2,z3⟩⟩:=HKX.out _ HB.out
 go_upto_region 9 with (go_at_call 29; refine (ofx_is 0 0 Af cf ga _ (HFN.out _ HB.out).1 (HFN.out _ HB.out).2 (HTT.out _ HB.out).1 (HTT.out _ HB.out).2 of0).mono ?_; rintro e w10 ⟨rfl,hb10⟩; replace HB:=Lib.hid (bt HB.out hb10); clear hb10 x0 x1 x2 x3 y0 y1 y2 y3 z0 z1 z2 z3)
 obtain ⟨V8,hV8⟩:∃ V,V = w10.alloc (.cells #[.int .i64 0,.int .i64 0,.int .i64 0,.slice none 0 0] 25):=⟨_,rfl⟩
 obtain ⟨g8,hg8⟩:∃ g,g = w10.heap.size:=⟨_,rfl⟩
 have k8:Blk V8 g8 25 #[.int .i64 0,.int .i64 0,.int .i64 0,.slice none 0 0]:=by rw [hV8,hg8]; exact Blk.new _ _ _
 have hb8:Below w10.heap.size w10 V8:=by rw [hV8]; exact below_new _ _
 rw [← hV8,← hg8]
 replace HB:=Lib.hid (bt HB.out hb8)
 have HK8:=Lib.hid k8
 have HBV8:=HB
 have HB8:Hid (Below V8.heap.size V8 V8):=Lib.hid (Below.refl _ _)
 clear hV8 hg8 k8 hb8
 obtain ⟨⟨x0,x1,x2,x3⟩,⟨y0,y1,y2,y3⟩,⟨z0,z1,z2,z3⟩⟩:=HKX.out _ HB.out
 go_upto_region 10 with (go_at_call 29; refine (ofx_is 1 5 Af cf ga _ (HFN.out _ HB.out).1 (HFN.out _ HB.out).2 (HTT.out _ HB.out).1 (HTT.out _ HB.out).2 of1).mono ?_; rintro e w10 ⟨rfl,hb10⟩; replace HB:=Lib.hid (bt HB.out hb10); replace HB8:=Lib.hid (bt HB8.out hb10); clear hb10 x0 x1 x2 x3 y0 y1 y2 y3 z0 z1 z2 z3)
 obtain ⟨V9,hV9⟩:∃ V,V = w10.alloc (.cells #[.int .i64 0,.int .i64 0,.int .i64 0,.slice none 0 0] 25):=⟨_,rfl⟩
 obtain ⟨g9,hg9⟩:∃ g,g = w10.heap.size:=⟨_,rfl⟩
 have hb9:Below w10.heap.size w10 V9:=by rw [hV9]; exact below_new _ _
 rw [← hV9,← hg9]
 replace HB:=Lib.hid (bt HB.out hb9)
 replace HB8:=Lib.hid (bt HB8.out hb9)
 have u0:V9.cell? ⟨g8,0,none⟩ = some (.int .i64 0):=(HK8.out.below HB8.out HK8.out.lt).cell 0
 clear hV9 hg9 hb9
 go_wp2_with (first
  | (go_at_call 23; (with_reducible refine (words3_is _).mono ?_); rintro e w11 ⟨rfl,hb11⟩; replace HB:=Lib.hid (bt HB.out hb11); clear hb11; obtain ⟨⟨x0,x1,x2,x3⟩,_,_⟩:=HKX.out _ HB.out)
  | (go_at_call 23; (with_reducible refine (wordsV_is _).mono ?_); rintro e w12 ⟨rfl,hb12⟩; replace HB:=Lib.hid (bt HB.out hb12); clear hb12 x0 x1 x2 x3)
  | (go_at_call 46; (with_reducible refine (node_is _ _ none 0 0 _).mono ?_); rintro e w6 ⟨rfl,hb6⟩; replace HB:=Lib.hid (bt HB.out hb6); clear hb6 u0))
 go_ret
 exact ⟨rfl,bt HB05.out HB.out⟩
end Go.Proofs.YtkkenbalpnmfmaaDoor

namespace Go.Proofs.YtkkenbalpnmfmaaDoor
open Go.RowKit WM TR

def codeOf:Option T→Int
 | some _=>0
 | none=>6
def SetPost (o:Option T) (S:Nat→Prop) (w:World) (e:Ending) (w':World):Prop :=
 ∃ t A' c' D,o.getD zeroT = t∧e = .returned (.tuple #[.agg #[.int .i64 t.k,.int .i64 t.n,.int .i64 t.m,.slice A' t.kids.length c'],.int .i64 (codeOf o)])∧Rep w' (Plus S w.heap.size w'.heap.size) D t (nd t A' c')∧Below w.heap.size w w'
def SetCut (o:Option T) (S:Nat→Prop) (e:Nat) (W2:World) (s8 s9:Value) (wx:World):Prop :=
 ∃ gk u A' c' D,s8 = .pointer (some ⟨gk,0,none⟩)∧s9 = .int .i64 (codeOf o)∧o.getD zeroT = u∧Blk wx gk 25 #[.int .i64 u.k,.int .i64 u.n,.int .i64 u.m,.slice A' u.kids.length c']∧e≤gk ∧
  Rep wx (fun b=>S b∨(e≤b∧b < wx.heap.size∧b≠gk)) D u (nd u A' c')∧Below e W2 wx
theorem SetCut.late {o : Option T} {S : Nat → Prop} {e : Nat} {W2 w3 : World} {u : T} {A' : Option Addr} {c' D : Nat} (hin : In S e) (he : W2.heap.size = e) (hu : o.getD zeroT = u) (hru : Rep w3 (Plus S W2.heap.size w3.heap.size) D u (nd u A' c')) (hbw : Below W2.heap.size W2 w3) :
  SetCut o S e W2 (.pointer (some ⟨w3.heap.size,0,none⟩)) (.int .i64 (codeOf o)) (w3.alloc (.cells #[.int .i64 u.k,.int .i64 u.n,.int .i64 u.m,.slice A' u.kids.length c'] 25)):=by
 subst he
 have hs:=hbw.size
 have hin3:In (Plus S W2.heap.size w3.heap.size) w3.heap.size:=hin.plus hs
 refine ⟨w3.heap.size,u,A',c',D,rfl,rfl,hu,Blk.new _ _ _,hs,Rep.mono ?_ (hru.keep (Keeps.below hin3 (below_new _ _))),?_⟩
 ·intro b hb
  rcases hb with hb | hb
  ·exact .inl hb
  ·exact .inr ⟨hb.1,by rw [size_alloc]; omega,by omega⟩
 ·exact hbw.alloc hs _
theorem SetCut.early {o : Option T} {S : Nat → Prop} {e : Nat} {W2 w3 : World} {u : T} {A' : Option Addr} {c' D : Nat} {cs : List Value} {o0 : Obj} (hin : In S e) (he : W2.heap.size = e) (hu : o.getD zeroT = u) (hru : Rep w3 (Plus S (W2.alloc o0).heap.size w3.heap.size) D u (nd u A' c'))
  (hbw:Below (W2.alloc o0).heap.size (W2.alloc o0) w3) (hk:Blk w3 W2.heap.size 25 cs.toArray) (hcs:cs.length = 4) :
  SetCut o S e W2 (.pointer (some ⟨W2.heap.size,0,none⟩)) (.int .i64 (codeOf o)) ((((w3.setCell ⟨W2.heap.size,0,none⟩ (.int .i64 u.k)).setCell ⟨W2.heap.size,1,none⟩ (.int .i64 u.n)).setCell ⟨W2.heap.size,2,none⟩ (.int .i64 u.m)).setCell ⟨W2.heap.size,3,none⟩ (.slice A' u.kids.length c')):=by
 subst he
 have hs:=hbw.size
 rw [size_alloc] at hs hru
 refine ⟨W2.heap.size,u,A',c',D,rfl,rfl,hu,put4_blk hk hcs _ _ _ _,Nat.le_refl _,Rep.mono ?_ (put4_rep hru (fun hb=>?_) _ _ _ _),?_⟩
 ·intro b hb
  rcases hb with hb | hb
  ·exact .inl hb
  ·exact .inr ⟨by omega,by rw [(gw4 _ _ _ _ _ _).2]; exact hb.2,by omega⟩
 ·rcases hb with hb | hb
  ·have:=hin _ hb; omega
  ·omega
 ·exact put4_below (((Below.refl _ W2).alloc (Nat.le_refl _) o0).trans (hbw.mono (by rw [size_alloc]; omega))) _ _ _ _

end Go.Proofs.YtkkenbalpnmfmaaDoor

namespace Go.Proofs.YtkkenbalpnmfmaaDoor
open Go.RowKit WM TR

def SetC (p:List Int):Prop :=
 ∀ (d dx:Nat) (t x:T) (S:Nat→Prop) (A P X:Option Addr) (c pc xc n:Nat) (w:World),n = p.length→Rep w S d t (nd t A c)→Rep w S dx x (nd x X xc)→Rd w S 1 P n (vi p)→In S w.heap.size→n≤pc→size t≤1000000→n≤9223372036854775807 →
  Calls Tryd.prog 41 #[.agg #[.int .i64 t.k,.int .i64 t.n,.int .i64 t.m,.slice A t.kids.length c],.slice P n pc,.agg #[.int .i64 x.k,.int .i64 x.n,.int .i64 x.m,.slice X x.kids.length xc]] w (SetPost (set? p t x) S w)

set_option maxRecDepth 100000 in
set_option maxHeartbeats 1000000 in
theorem set_nil:SetC []:=by
 intro d dx t x S A P X c pc xc n w hn ht hx hp hin hpc hst hpl
 subst hn
 have HX:=Lib.hid hx
 have HI:=Lib.hid hin
 clear ht hx hp hin
 go_enter Tryd.func41,Tryd.ntmps41
 go_wp2_with fail
 refine bodyPost_ret (v:=.tuple #[.agg #[.int .i64 x.k,.int .i64 x.n,.int .i64 x.m,.slice X x.kids.length xc],.int .i64 0]) (by simp [results,Tryd.results41,go_sem]) rfl ⟨x,X,xc,dx,rfl,rfl,?_,?_⟩
 ·exact Rep.mono (fun b hb=>.inl hb) (HX.out.later HI.out (ba (ba (below_new _ _) _) _))
 ·exact ba (ba (below_new _ _) _) _

set_option maxRecDepth 100000 in
set_option maxHeartbeats 2000000 in
theorem set_none (i : Int) (p : List Int) (d : Nat) (t x : T) (S : Nat → Prop) (A P X : Option Addr) (c pc xc n : Nat) (w : World) (hn : n = p.length) (ht : Rep w S d t (nd t A c)) (hp : Rd w S 1 P (n + 1) (vi (i :: p))) (hin : In S w.heap.size) (hst : size t ≤ 1000000) (hpl : n ≤ 9223372036854775807)
  (hno:i < 0∨(t.kids.length:Int)≤i) :
  Calls Tryd.prog 41 #[.agg #[.int .i64 t.k,.int .i64 t.n,.int .i64 t.m,.slice A t.kids.length c],.slice P (n + 1) pc,.agg #[.int .i64 x.k,.int .i64 x.n,.int .i64 x.m,.slice X x.kids.length xc]] w (SetPost (set? (i :: p) t x) S w):=by
 obtain ⟨b,off,hP,hbS,hcell⟩:=hp.lit (by omega)
 have hb:b < w.heap.size:=hin b hbS
 subst hP
 have hc0:w.cell? ⟨b,off,none⟩ = some (.int .i64 i):=hcell 0 (.int .i64 i) rfl
 have hnone:set? (i :: p) t x = none:=by
  unfold set?
  by_cases h:i < 0
  ·rw [if_pos h]
  ·rw [if_neg h,List.getElem?_eq_none (by omega)]
 rw [hnone]
 have hcap:=ht.cap
 obtain ⟨l,hl⟩:∃ l,l = t.kids.length:=⟨_,rfl⟩
 have hkl:t.kids.length≤1000000:=by have:=kids_lt t; omega
 rw [← hl] at hno hcap hkl ⊢
 clear hn hl hp hcell hin hnone ht hbS
 by_cases hi:i < 0
 ·have hd:decide (i < 0) = true:=by simpa using hi
  go_enter Tryd.func41,Tryd.ntmps41
  go_wp2_with fail
  obtain ⟨W2,hW2⟩:∃ W2,W2 = (((w.alloc (.cells #[.int .i64 t.k,.int .i64 t.n,.int .i64 t.m,.slice A l c] 25)).alloc (.cells #[.int .i64 x.k,.int .i64 x.n,.int .i64 x.m,.slice X x.kids.length xc] 25)).alloc (.cells #[.int .i64 0,.int .i64 0,.int .i64 0,.slice none 0 0] 25)):=⟨_,rfl⟩
  have HB2:Hid (Below w.heap.size w W2):=Lib.hid (by rw [hW2]; exact ba (ba (below_new _ _) _) _)
  have HO2:Hid (Blk W2 (w.heap.size + 1 + 1) 25 #[.int .i64 0,.int .i64 0,.int .i64 0,.slice none 0 0]):=Lib.hid (by rw [hW2]; exact Blk.new_at _ _ (by simp) rfl)
  have hc3:W2.cell? ⟨w.heap.size,3,none⟩ = some (.slice A l c):=by rw [hW2]; exact (((Blk.new w _ _).alloc _).alloc _).cell 3
  have hc0':W2.cell? ⟨b,off,none⟩ = some (.int .i64 i):=(HB2.out.cell (p:=⟨b,off,none⟩) hb).trans hc0
  have r0:=HO2.out.cell 0
  have r1:=HO2.out.cell 1
  have r2:=HO2.out.cell 2
  have r3:=HO2.out.cell 3
  have f0:=HO2.out.frozen 0
  have f1:=HO2.out.frozen 1
  have f2:=HO2.out.frozen 2
  have f3:=HO2.out.frozen 3
  simp only [List.getElem?_toArray,List.getElem?_cons_zero,List.getElem?_cons_succ] at r0 r1 r2 r3
  rw [← hW2]
  clear hW2
  go_quiet (fail)
  go_wp2_with fail
  refine bodyPost_ret (v:=.tuple #[.agg #[.int .i64 0,.int .i64 0,.int .i64 0,.slice none 0 0],.int .i64 6]) (by simp [results,Tryd.results41,go_sem,r0,r1,r2,r3]) rfl ⟨zeroT,none,0,1,rfl,rfl,Rep.leaf in0 in0 in0 _ _,?_⟩
  exact put4_below (below_drewN HB2.out _) _ _ _ _ (Nat.le_add_right w.heap.size 2)
 ·have hd:decide (i < 0) = false:=by simpa using hi
  have hd2:decide ((l:Int)≤i) = true:=by simp; omega
  go_enter Tryd.func41,Tryd.ntmps41
  go_wp2_with fail
  obtain ⟨W2,hW2⟩:∃ W2,W2 = (((w.alloc (.cells #[.int .i64 t.k,.int .i64 t.n,.int .i64 t.m,.slice A l c] 25)).alloc (.cells #[.int .i64 x.k,.int .i64 x.n,.int .i64 x.m,.slice X x.kids.length xc] 25)).alloc (.cells #[.int .i64 0,.int .i64 0,.int .i64 0,.slice none 0 0] 25)):=⟨_,rfl⟩
  have HB2:Hid (Below w.heap.size w W2):=Lib.hid (by rw [hW2]; exact ba (ba (below_new _ _) _) _)
  have HO2:Hid (Blk W2 (w.heap.size + 1 + 1) 25 #[.int .i64 0,.int .i64 0,.int .i64 0,.slice none 0 0]):=Lib.hid (by rw [hW2]; exact Blk.new_at _ _ (by simp) rfl)
  have hc3:W2.cell? ⟨w.heap.size,3,none⟩ = some (.slice A l c):=by rw [hW2]; exact (((Blk.new w _ _).alloc _).alloc _).cell 3
  have hc0':W2.cell? ⟨b,off,none⟩ = some (.int .i64 i):=(HB2.out.cell (p:=⟨b,off,none⟩) hb).trans hc0
  have r0:=HO2.out.cell 0
  have r1:=HO2.out.cell 1
  have r2:=HO2.out.cell 2
  have r3:=HO2.out.cell 3
  have f0:=HO2.out.frozen 0
  have f1:=HO2.out.frozen 1
  have f2:=HO2.out.frozen 2
  have f3:=HO2.out.frozen 3
  simp only [List.getElem?_toArray,List.getElem?_cons_zero,List.getElem?_cons_succ] at r0 r1 r2 r3
  rw [← hW2]
  clear hW2
  go_quiet (fail)
  go_wp2_with fail
  refine bodyPost_ret (v:=.tuple #[.agg #[.int .i64 0,.int .i64 0,.int .i64 0,.slice none 0 0],.int .i64 6]) (by simp [results,Tryd.results41,go_sem,r0,r1,r2,r3]) rfl ⟨zeroT,none,0,1,rfl,rfl,Rep.leaf in0 in0 in0 _ _,?_⟩
  exact put4_below (below_drewN HB2.out _) _ _ _ _ (Nat.le_add_right w.heap.size 2)

end Go.Proofs.YtkkenbalpnmfmaaDoor

namespace Go.Proofs.YtkkenbalpnmfmaaDoor
open Go.RowKit WM TR

def SetR (wx:World) (Sx:Nat→Prop) (gN D m:Nat) (k n mm:Int) (ts:List T) (v:Value) (xs:List Value) (wr:World):Prop :=
 Below wx.heap.size wx wr∧Blk wr gN 25 #[.int .i64 k,.int .i64 n,.int .i64 mm,v]∧wr.ownsRow (gN + 1) 25 4 v m xs∧Reps wx Sx D (ts.take m) xs
section
variable {wx wr:World} {Sx:Nat→Prop} {gN D m:Nat} {k n mm:Int} {ts:List T} {v:Value} {xs:List Value}
theorem SetR.first (wx : World) (Sx : Nat → Prop) (D : Nat) (t : T) (ts : List T) :
  SetR wx Sx wx.heap.size D 0 t.k t.n t.m ts (.slice none 0 0) [] (wx.alloc (.cells #[.int .i64 t.k,.int .i64 t.n,.int .i64 t.m,.slice none 0 0] 25)) :=
 ⟨below_new _ _,Blk.new wx _ _,World.ownsRow_nil _ _ _ _,Reps.nil⟩
theorem SetR.below {W w4:World} (h:SetR wx Sx wx.heap.size D m k n mm ts v xs wr) (hW:Below wr.heap.size wr W) (hgw4:W.grownBy w4 v.ownBlock):Below wx.heap.size wx w4:=by
 have hvlt:∀ b,v.ownBlock = some b→wx.heap.size + 1≤b∧b < wr.heap.size:=h.2.2.1.lt
 have hbW:=bt h.1 hW
 exact ⟨hgw4.os.trans hbW.os,hgw4.tape.trans hbW.tape,hgw4.output.trans hbW.output,Nat.le_trans hbW.size hgw4.size,fun i hi=>(hgw4.block i (Nat.lt_of_lt_of_le hi hbW.size) (fun e=>by have:=(hvlt i e.symm).1; omega)).trans (hbW.block i hi)⟩
theorem SetR.next {w4 W : World} {u : T} {A' : Option Addr} {c' : Nat} {v4 : Value} (h : SetR wx Sx gN D m k n mm ts v xs wr) (hN : wx.heap.size ≤ gN) (hu : ts[m]? = some u) (hr : Rep wx Sx D u (nd u A' c')) (hW : Below wr.heap.size wr W)
  (hown4:w4.ownsRow (gN + 1) 25 4 v4 (m + 1) (xs ++ nd u A' c')) (hgw4:W.grownBy w4 v.ownBlock) :
  SetR wx Sx gN D (m + 1) k n mm ts v4 (xs ++ nd u A' c') (w4.setCell ⟨gN,3,none⟩ v4):=by
 obtain ⟨h1,h2,h3,h4⟩:=h
 have hvlt:∀ b,v.ownBlock = some b→gN + 1≤b∧b < wr.heap.size:=h3.lt
 have hv4:∀ b,v4.ownBlock = some b→gN + 1≤b∧b < w4.heap.size:=hown4.lt
 have hbW:=bt h1 hW
 have hb4:Below wx.heap.size wx w4:=⟨hgw4.os.trans hbW.os,hgw4.tape.trans hbW.tape,hgw4.output.trans hbW.output,Nat.le_trans hbW.size hgw4.size,fun i hi=>(hgw4.block i (Nat.lt_of_lt_of_le hi hbW.size) (fun e=>by have:=(hvlt i e.symm).1; omega)).trans (hbW.block i hi)⟩
 refine ⟨hb4.setCell hN _,?_,?_,?_⟩
 ·have hb:=(h2.below hW h2.lt).grown hgw4 (fun e=>by have:=(hvlt _ e.symm).1; omega)
  exact hb.set_ 3 v4
 ·exact hown4.kept (gw_setCell (g:=gN) (gw_refl w4 gN) (.inl rfl) v4) (.inr fun e=>by have:=(hv4 gN e).1; omega)
 ·rw [List.take_add_one,hu,Option.toList_some]
  exact h4.snoc hr
theorem SetR.done {S : Nat → Prop} {e r : Nat} {A' : Option Addr} {c' : Nat} {w : World} (h : SetR wx (fun b => S b ∨ (e ≤ b ∧ b < wx.heap.size)) wx.heap.size D m k n mm ts (.slice A' m c') xs wr) (hm : m = ts.length) (hc : m ≤ c') (hin : In S w.heap.size) (hk : inRange k) (hn : inRange n) (hmm : inRange mm)
  (hw:Below w.heap.size w wx) (hr1:w.heap.size≤r) (hr2:r < e) (he:e≤wx.heap.size) (v0 v1 v2 v3:Value) :
  Rep ((((wr.setCell ⟨r,0,none⟩ v0).setCell ⟨r,1,none⟩ v1).setCell ⟨r,2,none⟩ v2).setCell ⟨r,3,none⟩ v3) (Plus S w.heap.size (((((wr.setCell ⟨r,0,none⟩ v0).setCell ⟨r,1,none⟩ v1).setCell ⟨r,2,none⟩ v2).setCell ⟨r,3,none⟩ v3)).heap.size) (D + 1) ⟨k,n,mm,ts⟩ (nd ⟨k,n,mm,ts⟩ A' c'):=by
 obtain ⟨h1,h2,h3,h4⟩:=h
 subst hm
 rw [List.take_length] at h4
 have hg:=gw4 wr r v0 v1 v2 v3
 have hs:=hg.2
 have hs1:=h1.size
 have hs0:=hw.size
 refine Rep.mk hk hn hmm hc (xs:=xs) ?_ ?_
 ·have h:=Rd.of_own (h3.kept hg.1 (.inr fun e=>by have:=(h3.lt _ e).1; omega))
  refine h.mono fun b hb=>.inr ⟨by omega,hb.2⟩
 ·refine (h4.keep (w':=_) (fun b hb=>?_)).mono (fun b hb=>?_)
  ·have hbl : b < wx.heap.size := by
    rcases hb with hb | hb
    ·have:=hin b hb; omega
    ·exact hb.2
   have hbr:b≠r:=by
    rcases hb with hb | hb
    ·have:=hin b hb; omega
    ·omega
   exact (hg.1.block b (by omega) (fun e=>hbr (Option.some.inj e))).trans (h1.block b hbl)
  ·rcases hb with hb | hb
   ·exact .inl hb
   ·exact .inr ⟨by omega,by omega⟩
end
end Go.Proofs.YtkkenbalpnmfmaaDoor
