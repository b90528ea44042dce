/-
  SIGNATURES as plain mathematics: digits, chains, keys, the tree, the signature and its check.
-/
import Derived.Test.YtaoegpmjogladaaDoorG10
import Derived.Test.YtaoegpmjogladaaDoorG07
import Derived.Test.YtaoegpmjogladaaDoorG08
namespace Go.Proofs.YtaoegpmjogladaaDoor
open Go.RowKit WM

/-- The encoding of a list of integers. -/
def encI (l : List Int) : List UInt8 := encL enc l
/-- The four digits of a byte. -/
def dig4 (b : UInt8) : List Nat := [b.toNat / 64, b.toNat / 16 % 4, b.toNat / 4 % 4, b.toNat % 4]
def own4 (d : List UInt8) : List Nat := d.flatMap dig4
/-- The checksum of digits. -/
def chk (l : List Nat) : Nat := (l.map fun x => 3 - x).sum
def low4 (n : Nat) : List Nat := [n / 64 % 4, n / 16 % 4, n / 4 % 4, n % 4]
def digitsB (d : List UInt8) : List Nat := own4 d ++ low4 (chk (own4 d))

def chainText (i c : Int) : List UInt8 := [99, 104, 97, 105, 110] ++ encI [i, c]
def startB (seed : List UInt8) (i c : Int) : List UInt8 := (macB seed (chainText i c)).take 16
def stepB (i c t : Int) (v : List UInt8) : List UInt8 := ofB 7 [str (encI [i, c, t]), str v]
/-- n steps from the height a. -/
def advB (i c : Int) (a : Nat) : Nat → List UInt8 → List UInt8
  | 0, v => v
  | n + 1, v => stepB i c ((a + n : Nat) : Int) (advB i c a n v)
def topB (seed : List UInt8) (i c : Nat) : List UInt8 := advB i c 0 3 (startB seed i c)
/-- The values of the first n chains. -/
def catB (f : Nat → List UInt8) (n : Nat) : List UInt8 := (List.range n).flatMap f
def leafB (tops : Nat → List UInt8) : List UInt8 := ofB 9 [str (ofB 11 [str (catB tops 68)])]
def overB (a b : List UInt8) : List UInt8 := ofB 10 [str a, str b]
def nodeB (seed : List UInt8) : Nat → Nat → List UInt8
  | 0, k => leafB (topB seed k)
  | l + 1, k => overB (nodeB seed l (2 * k)) (nodeB seed l (2 * k + 1))
def rootB (seed : List UInt8) (h : Nat) : List UInt8 := nodeB seed h 0
def digestB (p : List UInt8) (i : Int) (m : ByteArray) : List UInt8 := ofB 12 [str p, str (enc i), m]
/-- The number of the node beside another one. -/
def besideN (k : Nat) : Nat := k ^^^ 1
def pathB (seed : List UInt8) (i h : Nat) : List (List UInt8) := (List.range h).map fun l => nodeB seed l (besideN (i >>> l))
def valueB (seed : List UInt8) (i : Nat) (ds : List Nat) (c : Nat) : List UInt8 := advB i c 0 (ds.getD c 0) (startB seed i c)
def sigB (seed : List UInt8) (h i : Nat) (m : ByteArray) : List UInt8 :=
  enc (i : Int) ++ catB (valueB seed i (digitsB (digestB (rootB seed h) i m))) 68 ++ (pathB seed i h).flatten
/-- The part with a number of the rest of a signature. -/
def partB (rest : List UInt8) (j : Nat) : List UInt8 := (rest.drop (16 * j)).take 16
def parentB (node beside : List UInt8) (k : Nat) : List UInt8 := if k % 2 = 1 then overB beside node else overB node beside
/-- The node on the way to the root, at a level. -/
def wayB (rest : List UInt8) (i : Nat) (start : List UInt8) : Nat → List UInt8
  | 0 => start
  | l + 1 => parentB (wayB rest i start l) (partB rest (68 + l)) (i >>> l)
def endB (rest : List UInt8) (i : Nat) (ds : List Nat) (c : Nat) : List UInt8 := advB i c (ds.getD c 0) (3 - ds.getD c 0) (partB rest c)
/-- The root that a signature leads to. -/
def backB (p : List UInt8) (h i : Nat) (m : ByteArray) (rest : List UInt8) : List UInt8 :=
  wayB rest i (leafB (endB rest i (digitsB (digestB p i m)))) h

/-! Lengths and sizes -/
theorem ofB_16 (t : Int) (l : List ByteArray) : (ofB t l).length = 16 := by simp [ofB, sha_length]
theorem startB_16 (seed : List UInt8) (i c : Int) : (startB seed i c).length = 16 := by simp [startB, macB_length]
theorem stepB_16 (i c t : Int) (v : List UInt8) : (stepB i c t v).length = 16 := ofB_16 _ _
theorem advB_16 (i c : Int) (a n : Nat) (v : List UInt8) (h : v.length = 16) : (advB i c a n v).length = 16 := by
  cases n with
  | zero => exact h
  | succ n => exact stepB_16 _ _ _ _
theorem topB_16 (seed : List UInt8) (i c : Nat) : (topB seed i c).length = 16 := advB_16 _ _ _ _ _ (startB_16 _ _ _)
theorem leafB_16 (f : Nat → List UInt8) : (leafB f).length = 16 := ofB_16 _ _
theorem overB_16 (a b : List UInt8) : (overB a b).length = 16 := ofB_16 _ _
theorem nodeB_16 (seed : List UInt8) (l k : Nat) : (nodeB seed l k).length = 16 := by
  cases l with
  | zero => exact leafB_16 _
  | succ l => exact overB_16 _ _
theorem parentB_16 (a b : List UInt8) (k : Nat) : (parentB a b k).length = 16 := by unfold parentB; split <;> exact overB_16 _ _
theorem digestB_16 (p : List UInt8) (i : Int) (m : ByteArray) : (digestB p i m).length = 16 := ofB_16 _ _
theorem catB_succ (f : Nat → List UInt8) (n : Nat) : catB f (n + 1) = catB f n ++ f n := by
  unfold catB
  rw [List.range_succ, List.flatMap_append]; simp
theorem catB_length (f : Nat → List UInt8) (h : ∀ c, (f c).length = 16) (n : Nat) : (catB f n).length = 16 * n := by
  induction n with
  | zero => rfl
  | succ n ih => rw [catB_succ, List.length_append, ih, h]; omega
theorem catB_congr {f g : Nat → List UInt8} {n : Nat} (h : ∀ c, c < n → f c = g c) : catB f n = catB g n := by
  induction n with
  | zero => rfl
  | succ n ih => rw [catB_succ, catB_succ, ih (fun c hc => h c (by omega)), h n (by omega)]
theorem encI_2 (i c : Int) : encI [i, c] = enc 2 ++ (enc i ++ enc c) := by simp [encI, encL]
theorem encI_3 (i c t : Int) : encI [i, c, t] = enc 3 ++ (enc i ++ (enc c ++ enc t)) := by simp [encI, encL]
theorem encI_2_le {i c : Int} (hi : inRange i) (hc : inRange c) : (encI [i, c]).length ≤ 27 := by
  have h2 := (enc_len (n := 2) ⟨by decide, by decide⟩).2
  have := (enc_len hi).2
  have := (enc_len hc).2
  rw [encI_2, List.length_append, List.length_append]; omega
theorem encI_3_le {i c t : Int} (hi : inRange i) (hc : inRange c) (ht : inRange t) : (encI [i, c, t]).length ≤ 36 := by
  have h2 := (enc_len (n := 3) ⟨by decide, by decide⟩).2
  have := (enc_len hi).2
  have := (enc_len hc).2
  have := (enc_len ht).2
  rw [encI_3, List.length_append, List.length_append, List.length_append]; omega
theorem encB_le {s : List UInt8} (h : s.length ≤ 1099511627776) : (encB s).length ≤ 9 + s.length := by
  have := (enc_len (n := (s.length : Int)) ⟨by omega, by omega⟩).2
  unfold encB
  rw [List.length_append]; omega
theorem encP_1 (a : ByteArray) : encP [a] = encB a.data.toList := by simp [encP]
theorem encP_2 (a b : ByteArray) : encP [a, b] = encB a.data.toList ++ encB b.data.toList := by simp [encP]
theorem encP_3 (a b c : ByteArray) : encP [a, b, c] = encB a.data.toList ++ (encB b.data.toList ++ encB c.data.toList) := by simp [encP]
theorem encP_1_le (a : List UInt8) (ha : a.length ≤ 1099511627776) : (encP [str a]).length ≤ 9 + a.length := by
  rw [encP_1]; exact encB_le ha
theorem encP_2_le (a b : List UInt8) (ha : a.length ≤ 1099511627776) (hb : b.length ≤ 1099511627776) : (encP [str a, str b]).length ≤ 18 + a.length + b.length := by
  have h1 := encB_le ha
  have h2 := encB_le hb
  rw [encP_2, List.length_append, str_list, str_list]; omega
theorem encP_3_le (a b : List UInt8) (m : ByteArray) (ha : a.length ≤ 1099511627776) (hb : b.length ≤ 1099511627776) (hm : m.size ≤ 1099511627776) : (encP [str a, str b, m]).length ≤ 27 + a.length + b.length + m.size := by
  have h1 := encB_le ha
  have h2 := encB_le hb
  have e : m.data.toList.length = m.size := by rw [Array.length_toList]; rfl
  have h3 := encB_le (s := m.data.toList) (by omega)
  rw [encP_3, List.length_append, List.length_append, str_list, str_list]; omega

/-! Digits -/
theorem dig4_length (b : UInt8) : (dig4 b).length = 4 := rfl
theorem dig4_le (b : UInt8) : ∀ x ∈ dig4 b, x ≤ 3 := by
  intro x hx
  have := b.toNat_lt
  simp only [dig4, List.mem_cons, List.not_mem_nil, or_false] at hx
  omega
theorem own4_length (d : List UInt8) : (own4 d).length = 4 * d.length := by
  induction d with
  | nil => rfl
  | cons b d ih => unfold own4 at ih ⊢; rw [List.flatMap_cons, List.length_append, ih, dig4_length, List.length_cons]; omega
theorem own4_le (d : List UInt8) : ∀ x ∈ own4 d, x ≤ 3 := by
  intro x hx
  obtain ⟨b, _, h⟩ := List.mem_flatMap.1 hx
  exact dig4_le b x h
theorem low4_le (n : Nat) : ∀ x ∈ low4 n, x ≤ 3 := by
  intro x hx
  simp only [low4, List.mem_cons, List.not_mem_nil, or_false] at hx
  omega
theorem digitsB_length {d : List UInt8} (h : d.length = 16) : (digitsB d).length = 68 := by
  unfold digitsB
  rw [List.length_append, own4_length, h]; rfl
theorem digitsB_le (d : List UInt8) : ∀ x ∈ digitsB d, x ≤ 3 := by
  intro x hx
  rcases List.mem_append.1 hx with h | h
  · exact own4_le d x h
  · exact low4_le _ x h
theorem digitsB_getD (d : List UInt8) (c : Nat) : (digitsB d).getD c 0 ≤ 3 := by
  rcases Nat.lt_or_ge c (digitsB d).length with h | h
  · rw [List.getD_eq_getElem?_getD, List.getElem?_eq_getElem h]; exact digitsB_le d _ (List.getElem_mem h)
  · rw [List.getD_eq_getElem?_getD, List.getElem?_eq_none h]; exact Nat.zero_le _
theorem chk_le (l : List Nat) : chk l ≤ 3 * l.length := by
  induction l with
  | nil => exact Nat.le_refl _
  | cons x l ih => unfold chk at ih ⊢; rw [List.map_cons, List.sum_cons, List.length_cons]; omega
end Go.Proofs.YtaoegpmjogladaaDoor

/-
  sign.spread, sign.digits, sign.Digits.
-/
namespace Go.Proofs.YtaoegpmjogladaaDoor
open Go.RowKit WM

/-- Natural numbers as cells. -/
def ns (l : List Nat) : List Value := l.map fun x : Nat => Value.int .i64 (x : Int)
theorem ns_length (l : List Nat) : (ns l).length = l.length := by simp [ns]
theorem ns_get (l : List Nat) (k : Nat) (h : k < l.length) : (ns l)[k]? = some (.int .i64 (l[k] : Int)) := by simp [ns, List.getElem?_map, List.getElem?_eq_getElem h]
theorem ns_get' {l : List Nat} {k x : Nat} (h : l[k]? = some x) : (ns l)[k]? = some (.int .i64 (x : Int)) := by simp [ns, List.getElem?_map, h]
theorem ns_set (l : List Nat) (i x : Nat) : (ns l).set i (.int .i64 (x : Int)) = ns (l.set i x) := by simp [ns, List.map_set]
theorem ns_one (l : List Nat) : ∀ u ∈ ns l, u.oneCell' = true := by
  intro u hu
  simp only [ns, List.mem_map] at hu
  obtain ⟨x, _, rfl⟩ := hu
  rfl
theorem blk_setN {w : World} {g : Nat} {t : TypeId} {l : List Nat} (h : Blk w g t (ns l).toArray) (i x : Nat) : Blk (w.setCell ⟨g, i, none⟩ (.int .i64 (x : Int))) g t (ns (l.set i x)).toArray := by
  have := Blk.set_ h i (.int .i64 (x : Int))
  simpa [ns, List.map_set] using this

/-- Four places, of which those from k on hold the digits of n. -/
def putTo (L : List Nat) (off n k : Nat) : List Nat := L.take (off + k) ++ ((low4 n).drop k ++ L.drop (off + 4))
theorem putTo_start (L : List Nat) (off n : Nat) : putTo L off n 4 = L := by
  unfold putTo
  rw [List.drop_eq_nil_of_le (show (low4 n).length ≤ 4 from Nat.le_refl _), List.nil_append, List.take_append_drop]
theorem putTo_length {L : List Nat} {off n k : Nat} (h : off + 4 ≤ L.length) (hk : k ≤ 4) : (putTo L off n k).length = L.length := by
  unfold putTo
  have : (low4 n).length = 4 := rfl
  rw [List.length_append, List.length_append, List.length_take, List.length_drop, List.length_drop]; omega
theorem low4_at (n m : Nat) (h : m < 4) : (low4 n)[m]? = some (n / 4 ^ (3 - m) % 4) := by
  match m, h with
  | 0, _ => rfl
  | 1, _ => rfl
  | 2, _ => rfl
  | 3, _ => simp [low4]
theorem putTo_step {L : List Nat} {off n m : Nat} (h : off + 4 ≤ L.length) (hm : m < 4) : (putTo L off n (m + 1)).set (off + m) (n / 4 ^ (3 - m) % 4) = putTo L off n m := by
  unfold putTo
  have h1 : (L.take (off + (m + 1))).length = off + m + 1 := by rw [List.length_take]; omega
  have h2 : (L.take (off + m)).length = off + m := by rw [List.length_take]; omega
  rw [List.set_append_left _ _ (by omega), show off + (m + 1) = off + m + 1 by omega, List.take_succ_eq_append_getElem (by omega), List.set_append_right _ _ (by omega), h2, Nat.sub_self, List.set_cons_zero, List.append_assoc]
  congr 1
  have h3 : m < (low4 n).length := hm
  have h4 := low4_at n m hm
  rw [List.getElem?_eq_getElem h3] at h4
  rw [List.drop_eq_getElem_cons h3, Option.some.inj h4]
  rfl
theorem putTo_done (L : List Nat) (off n : Nat) : putTo L off n 0 = L.take off ++ (low4 n ++ L.drop (off + 4)) := rfl
theorem div_next (n m : Nat) (h : m < 4) : n / 4 ^ (3 - m) / 4 = n / 4 ^ (4 - m) := by
  rw [Nat.div_div_eq_div_mul, ← Nat.pow_succ]
  congr 2; omega

set_option maxRecDepth 100000 in
set_option maxHeartbeats 1000000 in
theorem spread (g t off c n : Nat) (L : List Nat) (w : World) (hg : Blk w g t (ns L).toArray) (hL : off + 4 ≤ L.length) (hn : n ≤ 1000000) :
    Calls Tryd.prog 62 #[.slice (some ⟨g, off, none⟩) 4 c, .int .i64 (n : Int)] w fun e w' => e = .returned (.tuple #[]) ∧ Blk w' g t (ns (L.take off ++ (low4 n ++ L.drop (off + 4)))).toArray ∧ Below g w w' := by
  have HG := Lib.hid hg
  clear hg
  go_enter Tryd.func62, Tryd.ntmps62
  go_wp2
  go_loopw [1, 4] (fun a i wr => ∃ k : Nat, k ≤ 4 ∧ i = .int .i64 ((k : Int) - 1) ∧ a = .int .i64 ((n / 4 ^ (4 - k) : Nat) : Int) ∧ Hid (Blk wr g t (ns (putTo L off n k)).toArray ∧ Below g w wr)) (fun _ i _ => (intOf i + 1).toNat)
  case atStart => exact ⟨4, by omega, rfl, by simp, by rw [putTo_start]; exact HG.out, Below.refl _ _⟩
  case round =>
    clear HG
    obtain ⟨k, hk, rfl, rfl, hh⟩ := hrel
    rcases k with _ | m
    · go_wp2
      go_end0
      exact ⟨rfl, by rw [← putTo_done]; exact hh.out.1, hh.out.2⟩
    · have hm4 : m < 4 := by omega
      rw [show (((m + 1 : Nat) : Int) - 1) = (m : Int) by omega, show 4 - (m + 1) = 3 - m by omega]
      obtain ⟨y, hy⟩ : ∃ y, y = n / 4 ^ (3 - m) := ⟨_, rfl⟩
      have hyn : y ≤ 1000000 := by rw [hy]; exact Nat.le_trans (Nat.div_le_self _ _) hn
      have hyn2 : n / 4 ^ (4 - m) = y / 4 := by rw [hy, div_next n m hm4]
      have hst := putTo_step (L := L) (off := off) (n := n) hL hm4
      rw [← hy] at hst ⊢
      have hlt : off + m < (putTo L off n (m + 1)).length := by rw [putTo_length hL (by omega)]; omega
      obtain ⟨z, hcell⟩ : ∃ z : Int, wr.cell? ⟨g, off + m, none⟩ = some (.int .i64 z) := ⟨_, (Blk.cell hh.out.1 (off + m)).trans (by simpa using ns_get _ _ hlt)⟩
      have hfree := Blk.frozen hh.out.1 (off + m)
      have hst2 := blk_setN hh.out.1 (off + m) (y % 4)
      rw [hst] at hst2
      have HST := Lib.hid hst2
      have HY := Lib.hid hyn2
      clear hst hst2 hyn2 hy hlt
      go_wp2
      go_roundw
      case rel => exact ⟨m, by omega, rfl, by rw [HY.out]; go_num, HST.out, hh.out.2.setCell (by simp) _⟩
      case measure => simp [intOf]
end Go.Proofs.YtaoegpmjogladaaDoor

/-
  sign.digits, sign.Digits.
-/
namespace Go.Proofs.YtaoegpmjogladaaDoor
open Go.RowKit WM

theorem low4_byte (b : UInt8) : low4 b.toNat = dig4 b := by
  have := b.toNat_lt
  unfold low4 dig4
  rw [Nat.mod_eq_of_lt (show b.toNat / 64 < 4 by omega)]
/-- The digits of the first i bytes, and zeros. -/
def someD (d : List UInt8) (i : Nat) : List Nat := own4 (d.take i) ++ List.replicate (68 - 4 * i) 0
def z68 : List Nat := List.replicate 68 0
theorem someD_zero (d : List UInt8) : someD d 0 = z68 := rfl
theorem own4_take_length {d : List UInt8} {i : Nat} (h : i ≤ d.length) : (own4 (d.take i)).length = 4 * i := by
  rw [own4_length, List.length_take]; omega
theorem someD_length {d : List UInt8} {i : Nat} (h : i ≤ d.length) (h16 : i ≤ 16) : (someD d i).length = 68 := by
  unfold someD
  rw [List.length_append, own4_take_length h, List.length_replicate]; omega
theorem someD_step {d : List UInt8} {i : Nat} (h : i < d.length) (h16 : i < 16) : (someD d i).take (4 * i) ++ (low4 d[i].toNat ++ (someD d i).drop (4 * i + 4)) = someD d (i + 1) := by
  have h1 := own4_take_length (d := d) (i := i) (by omega)
  unfold someD
  rw [List.take_append_of_le_length (by omega), List.take_of_length_le (by omega), low4_byte, List.drop_append, List.drop_eq_nil_of_le (by omega), List.nil_append, h1, List.drop_replicate,
    List.take_succ_eq_append_getElem h]
  have h2 : own4 (d.take i ++ [d[i]]) = own4 (d.take i) ++ dig4 d[i] := by unfold own4; rw [List.flatMap_append]; simp
  rw [h2, List.append_assoc, show 68 - 4 * i - (4 * i + 4 - 4 * i) = 68 - 4 * (i + 1) by omega]
theorem someD_all {d : List UInt8} (h : d.length = 16) : someD d 16 = own4 d ++ [0, 0, 0, 0] := by
  unfold someD
  rw [List.take_of_length_le (by omega)]; rfl
theorem someD_done {d : List UInt8} (h : d.length = 16) : (someD d 16).take 64 ++ (low4 (chk (own4 d)) ++ (someD d 16).drop (64 + 4)) = digitsB d := by
  have h1 : (own4 d).length = 64 := by rw [own4_length, h]
  rw [someD_all h, List.take_append_of_le_length (by omega), List.take_of_length_le (by omega), List.drop_eq_nil_of_le (by rw [List.length_append, h1]; decide), List.append_nil]
  rfl
theorem chk_take {l : List Nat} {k : Nat} (h : k < l.length) : chk (l.take (k + 1)) = chk (l.take k) + (3 - l[k]) := by
  unfold chk
  rw [List.take_succ_eq_append_getElem h, List.map_append, List.sum_append]; simp

theorem Tryd.zero67 (W : World) : (zeroValue 67).run Tryd.prog W = .ok (.agg (ns z68).toArray) W := by kernel_rfl
theorem Tryd.size67 : (Tryd.prog.info? 67).map (·.size) = some 68 := by kernel_rfl
theorem Tryd.sz3 (W : World) : (sizeOf 3).run Tryd.prog W = .ok 1 W := by kernel_rfl
theorem arr68 : Tryd.prog.underlying 67 = some (.array (Tryd.prog.arrayLen 67) (Tryd.prog.elem 67)) := by kernel_rfl
theorem len68 : Tryd.prog.arrayLen 67 = 68 := by kernel_rfl
theorem elem68 : Tryd.prog.elem 67 = 3 := by kernel_rfl
theorem slice68_part (g i : Nat) (hi : i < 16) (W : World) : (Instr.sliceAt 67 (.pointer (some ⟨g, 0, none⟩)) (some (.int .i64 ((i : Int) * 4))) (some (.int .i64 (((i : Int) + 1) * 4))) none).run Tryd.prog W = .ok (.slice (some ⟨g, 4 * i, none⟩) 4 (68 - 4 * i)) W := by
  rw [run_sliceAt_array_lh W 67 ⟨g, 0, none⟩ arr68 .i64 .i64 _ _ (by omega) (by omega) (by rw [len68]; omega), elem68, Tryd.sz3, len68]
  have e1 : ((i : Int) * 4).toNat = 4 * i := by omega
  have e2 : (((i : Int) + 1) * 4).toNat = 4 * i + 4 := by omega
  simp only [Result.andThen_ok, slicedAt, e1, e2]
  rw [if_neg (by omega), Addr.add_lit, show 4 * i + 4 - 4 * i = 4 by omega, Nat.zero_add, Nat.mul_one]
theorem slice68_own (g : Nat) (W : World) : (Instr.sliceAt 67 (.pointer (some ⟨g, 0, none⟩)) none (some (.int .i64 64)) none).run Tryd.prog W = .ok (.slice (some ⟨g, 0, none⟩) 64 68) W := by
  rw [run_sliceAt_array_h W 67 ⟨g, 0, none⟩ arr68 .i64 64 (by omega) (by rw [len68]; omega), elem68, Tryd.sz3, len68]
  simp [slicedAt, Addr.add]
theorem slice68_rest (g : Nat) (W : World) : (Instr.sliceAt 67 (.pointer (some ⟨g, 0, none⟩)) (some (.int .i64 64)) none none).run Tryd.prog W = .ok (.slice (some ⟨g, 64, none⟩) 4 4) W := by
  rw [run_sliceAt_array_l W 67 ⟨g, 0, none⟩ arr68 .i64 64 (by omega) (by rw [len68]; omega), elem68, Tryd.sz3, len68]
  simp [slicedAt, Addr.add]
theorem slice68_all (g : Nat) (W : World) : (Instr.sliceAt 67 (.pointer (some ⟨g, 0, none⟩)) none none none).run Tryd.prog W = .ok (.slice (some ⟨g, 0, none⟩) 68 68) W := by
  rw [run_sliceAt_array_all W 67 ⟨g, 0, none⟩ arr68, elem68, Tryd.sz3, len68]
  simp [slicedAt, Addr.add]

/-- What digits has laid. -/
structure DigAt (w wr : World) (L : List Nat) : Prop where
  own : Blk wr (w.heap.size + 1 + 1) 67 (ns L).toArray
  out : Blk wr (w.heap.size + 1) 67 (ns z68).toArray
  below : Below w.heap.size w wr

set_option maxRecDepth 100000 in
set_option maxHeartbeats 2000000 in
theorem digits (d : List UInt8) (hd : d.length = 16) (w : World) :
    Calls Tryd.prog 37 #[.agg (bs d).toArray] w fun e w' => e = .returned (.agg (ns (digitsB d)).toArray) ∧ Below w.heap.size w w' := by
  have hz := Tryd.zero67
  have hs16 : (Tryd.prog.info? 29).map (·.size) = some (bs d).toArray.size := by rw [Tryd.size29]; simp [bs, hd]
  have HS16 := Lib.hid hs16
  have HD := Lib.hid hd
  clear hs16 hd
  go_enter Tryd.func37, Tryd.ntmps37
  go_wp2_with (first
    | (refine wpList_load_row rfl 29 (.tmp 1) rfl w.heap.size rfl 29 (bs d).toArray (0, 0) _ (((Blk.new w 29 _).alloc _).alloc _) Tryd.underlying29 rfl HS16.out ?_))
  generalize hw0 : World.alloc _ _ = w0
  have HW0 : Hid (DigAt w w0 z68) := by
    rw [← hw0]
    exact ⟨Blk.new_at _ 67 (by simp) rfl, (Blk.new_at _ 67 (by simp) rfl).alloc _, ba (ba (below_new _ _) _) _⟩
  clear hw0
  go_loopw [10] (fun i' wr => ∃ i : Nat, i ≤ 16 ∧ i' = .int .i64 i ∧ Hid (DigAt w wr (someD d i))) (fun i' _ => 16 - (intOf i').toNat)
  case atStart => exact ⟨0, by omega, rfl, by rw [someD_zero]; exact HW0.out⟩
  case round =>
    clear HW0
    obtain ⟨i, hi, rfl, hh⟩ := hrel
    by_cases hlt : i < 16
    · have hsl := slice68_part (w.heap.size + 1 + 1) i hlt
      obtain ⟨b, hb⟩ : ∃ b, b = d[i]'(by have := HD.out; omega) := ⟨_, rfl⟩
      have hix : ∀ W, (Instr.index 29 (.agg (bs d).toArray) (.int .i64 (i : Int))).run Tryd.prog W = .ok (.int .u8 (b.toNat : Int)) W := fun W =>
        run_index_arr (P := Tryd.prog) W 29 5 16 (bs d) i _ Tryd.underlying29 Tryd.sz5 Tryd.agg5 hlt (by rw [hb]; exact bs_get d i (by have := HD.out; omega))
      have hst := someD_step (d := d) (i := i) (by have := HD.out; omega) hlt
      rw [← hb] at hst
      have HST := Lib.hid hst
      have hb256 := b.toNat_lt
      have hL : 4 * i + 4 ≤ (someD d i).length := by rw [someD_length (by have := HD.out; omega) (by omega)]; omega
      have HL := Lib.hid hL
      clear hst hb hL
      go_wp2_with (go_at_call 62; refine (spread (w.heap.size + 1 + 1) 67 (4 * i) (68 - 4 * i) b.toNat (someD d i) _ hh.out.own HL.out (by omega)).mono ?_; rintro e w1 ⟨rfl, hg1, hb1⟩; have HG1 := Lib.hid hg1; have HB1 := Lib.hid hb1; clear hg1 hb1)
      go_roundw
      case rel =>
        refine ⟨i + 1, by omega, by go_num, ?_, hh.out.out.below HB1.out (by omega), hh.out.below.trans (HB1.out.mono (by omega))⟩
        rw [← HST.out]; exact HG1.out
      case measure => simp [intOf]; omega
    · have hie : i = 16 := by omega
      have HI := Lib.hid hie
      have hge : 16 ≤ i := by omega
      have hlen : (own4 d).length = 64 := by rw [own4_length, HD.out]
      have HLEN := Lib.hid hlen
      have hs1 := slice68_own (w.heap.size + 1 + 1)
      have hs2 := slice68_rest (w.heap.size + 1 + 1)
      have HALL := Lib.hid (someD_all HD.out)
      have hh1 := hh.out
      rw [HI.out] at hh1
      have HH := Lib.hid hh1
      obtain ⟨wo, hwo⟩ : ∃ wo : World, wo = wr := ⟨_, rfl⟩
      rw [← hwo] at hh HH ⊢
      clear hlt hi hie hlen hh hh1 hwo
      go_wp2
      go_loopw [6, 26] (fun a i' wr => ∃ k : Nat, k ≤ 64 ∧ i' = .int .i64 k ∧ a = .int .i64 ((chk ((own4 d).take k) : Nat) : Int) ∧ wr = wo) (fun _ i' _ => 64 - (intOf i').toNat)
      case atStart => exact ⟨0, by omega, rfl, rfl, rfl⟩
      case round =>
        obtain ⟨k, hk, rfl, rfl, rfl⟩ := hrel
        by_cases hlt : k < 64
        · obtain ⟨x, hx⟩ : ∃ x, x = (own4 d)[k]'(by have := HLEN.out; omega) := ⟨_, rfl⟩
          have hx3 : x ≤ 3 := by rw [hx]; exact own4_le d _ (List.getElem_mem _)
          have hck := chk_take (l := own4 d) (k := k) (by have := HLEN.out; omega)
          rw [← hx] at hck
          have hcl : wr.cell? ⟨w.heap.size + 1 + 1, k, none⟩ = some (.int .i64 (x : Int)) := (Blk.cell HH.out.own k).trans (by
            have h1 := ns_get' (l := someD d 16) (k := k) (x := x) (by rw [HALL.out, List.getElem?_append_left (by have := HLEN.out; omega), hx, List.getElem?_eq_getElem])
            simpa using h1)
          have hsum := chk_le ((own4 d).take k)
          have htk : ((own4 d).take k).length ≤ k := List.length_take_le _ _
          have HCK := Lib.hid hck
          clear hck hx
          go_wp2
          go_roundw
          case rel => exact ⟨k + 1, by omega, by go_num, by rw [HCK.out]; go_num, trivial⟩
          case measure => simp [intOf]; omega
        · have hke : k = 64 := by omega
          have HK := Lib.hid hke
          have hge2 : 64 ≤ k := by omega
          have htk : chk ((own4 d).take k) = chk (own4 d) := by rw [HK.out, List.take_of_length_le (by rw [HLEN.out]; omega)]
          rw [htk]
          obtain ⟨q, hq⟩ : ∃ q, q = chk (own4 d) := ⟨_, rfl⟩
          have hq1 : q ≤ 192 := by rw [hq]; have := chk_le (own4 d); rw [HLEN.out] at this; omega
          have HSP := Lib.hid (spread (w.heap.size + 1 + 1) 67 64 4 q (someD d 16) wr HH.out.own (by rw [someD_length (by rw [HD.out]; omega) (by omega)]; omega) (by omega))
          have HDN := Lib.hid (someD_done HD.out)
          rw [← hq] at HDN ⊢
          have hsz : (Tryd.prog.info? 67).map (·.size) = some (ns (digitsB d)).toArray.size := by rw [Tryd.size67]; simp [ns_length, digitsB_length HD.out]
          have HSZ := Lib.hid hsz
          clear hlt hk hke htk hq hsz
          go_wp2_with (first
            | (go_at_call 62; refine HSP.out.mono ?_; rintro e w1 ⟨rfl, hg1, hb1⟩; rw [HDN.out] at hg1; have HG1 := Lib.hid hg1; have HB1 := Lib.hid hb1; have HO1 := Lib.hid (HH.out.out.below hb1 (by omega)); clear hg1 hb1)
            | (refine wpList_load_row rfl 67 (.tmp 3) rfl (w.heap.size + 1 + 1) rfl 67 (ns (digitsB d)).toArray (0, 0) _ HG1.out Tryd.underlying67 rfl HSZ.out ?_)
            | (refine wpList_store_row rfl 67 (.tmp 2) (.tmp 38) rfl (w.heap.size + 1) (ns (digitsB d)).toArray rfl rfl 67 _ HO1.out HSZ.out (by simp [ns_length, digitsB_length HD.out, z68]) (all_oneCell_toArray (ns_one _)) ?_))
          refine bodyPost_ret (results_cell_row Tryd.results37 _ _ (w.heap.size + 1) 67 (ns (digitsB d)).toArray (0, 0) _ rfl (HO1.out.setRow _) Tryd.underlying67 rfl HSZ.out) rfl ⟨rfl, below_setRow (HH.out.below.trans (HB1.out.mono (by omega))) (by omega) _⟩

/-- A slice that reads as naturals. -/
theorem reads_blkN {w : World} {g : Nat} {t : TypeId} {l : List Nat} {B : Nat} (h : Blk w g t (ns l).toArray) (hB : g < B) : Reads w B 1 (some ⟨g, 0, none⟩) l.length (ns l) :=
  ⟨by rw [ns_length]; omega, fun _ => ⟨_, rfl, hB, fun j u hu => by rw [Addr.add_lit, Nat.zero_add, Blk.cell h]; simpa using hu⟩⟩

set_option maxRecDepth 100000 in
set_option maxHeartbeats 1000000 in
theorem signDigits (d : List UInt8) (hd : d.length = 16) (w : World) :
    Calls Tryd.prog 16 #[.agg (bs d).toArray] w fun e w' => ∃ g, e = .returned (.slice (some ⟨g, 0, none⟩) 68 68) ∧ w.heap.size ≤ g ∧ Blk w' g 67 (ns (digitsB d)).toArray ∧ Below w.heap.size w w' := by
  have hz := Tryd.zero67
  have hs16 : (Tryd.prog.info? 29).map (·.size) = some (bs d).toArray.size := by rw [Tryd.size29]; simp [bs, hd]
  have HS16 := Lib.hid hs16
  have hsz : (Tryd.prog.info? 67).map (·.size) = some (ns (digitsB d)).toArray.size := by rw [Tryd.size67]; simp [ns_length, digitsB_length hd]
  have HSZ := Lib.hid hsz
  have HD := Lib.hid hd
  have hsl := fun g => slice68_all g
  clear hs16 hsz hd
  go_enter Tryd.func16, Tryd.ntmps16
  go_wp2_with (first
    | (refine wpList_load_row rfl 29 (.tmp 1) rfl w.heap.size rfl 29 (bs d).toArray (0, 0) _ (Blk.new w 29 _) Tryd.underlying29 rfl HS16.out ?_)
    | (go_at_call 37; refine (digits d HD.out _).mono ?_; rintro e w1 ⟨rfl, hb1⟩; have HB1 := Lib.hid (bt (below_new _ _) hb1); clear hb1)
    | (refine wpList_store_row rfl 67 (.tmp 3) (.tmp 5) rfl w1.heap.size (ns (digitsB d)).toArray rfl rfl 67 _ (Blk.new w1 67 _) HSZ.out (by simp [ns_length, digitsB_length HD.out, z68]) (all_oneCell_toArray (ns_one _)) ?_))
  go_ret
  exact ⟨_, rfl, HB1.out.size, (Blk.new w1 67 _).setRow _, below_setRow (ba HB1.out _) HB1.out.size _⟩
end Go.Proofs.YtaoegpmjogladaaDoor

/-
  sign.isHeight, isSigner, isIndex, first, start.
-/
namespace Go.Proofs.YtaoegpmjogladaaDoor
open Go.RowKit WM

theorem ret_yes {p : Prop} [Decidable p] (h : p) : Ending.returned (.bool (decide p)) = .returned (.bool true) := by rw [decide_eq_true h]
theorem ret_no {p : Prop} [Decidable p] (h : ¬ p) : Ending.returned (.bool (decide p)) = .returned (.bool false) := by rw [decide_eq_false h]
theorem isHeight_yes (h : Int) (w : World) (h0 : 0 ≤ h) (h6 : h ≤ 6) : Calls Tryd.prog 50 #[.int .i64 h] w fun e w' => e = .returned (.bool true) ∧ w = w' := by
  go_enter Tryd.func50, Tryd.ntmps50
  go_wp2
  go_ret
  exact ⟨rfl, rfl⟩
theorem isHeight_no (h : Int) (w : World) (hn : ¬ (0 ≤ h ∧ h ≤ 6)) : Calls Tryd.prog 50 #[.int .i64 h] w fun e w' => e = .returned (.bool false) ∧ w = w' := by
  by_cases h0 : 0 ≤ h
  · have h6 : 6 < h := by omega
    clear hn
    go_enter Tryd.func50, Tryd.ntmps50
    go_wp2
    go_ret
    exact ⟨ret_no (by omega), rfl⟩
  · have h1 : h < 0 := by omega
    clear hn h0
    go_enter Tryd.func50, Tryd.ntmps50
    go_wp2
    go_ret
    exact ⟨rfl, rfl⟩
theorem isSigner_yes (s : ByteArray) (h : Int) (w : World) (hs : s.size = 32) (h0 : 0 ≤ h) (h6 : h ≤ 6) : Calls Tryd.prog 38 #[.string s, .int .i64 h] w fun e w' => e = .returned (.bool true) ∧ w = w' := by
  have hb : ((s.size : Int) == 32) = true := by simp; omega
  clear hs
  go_enter Tryd.func38, Tryd.ntmps38
  go_wp2_with (go_at_call 50; refine (isHeight_yes h _ h0 h6).mono ?_; rintro e w' ⟨rfl, rfl⟩)
  go_ret
  exact ⟨rfl, rfl⟩
theorem isSigner_no (s : ByteArray) (h : Int) (w : World) (hn : ¬ (s.size = 32 ∧ 0 ≤ h ∧ h ≤ 6)) : Calls Tryd.prog 38 #[.string s, .int .i64 h] w fun e w' => e = .returned (.bool false) ∧ w = w' := by
  by_cases hs : s.size = 32
  · have hb : ((s.size : Int) == 32) = true := by simp; omega
    have hn2 : ¬ (0 ≤ h ∧ h ≤ 6) := fun k => hn ⟨hs, k⟩
    have HN := Lib.hid hn2
    clear hs hn hn2
    go_enter Tryd.func38, Tryd.ntmps38
    go_wp2_with (go_at_call 50; refine (isHeight_no h _ HN.out).mono ?_; rintro e w' ⟨rfl, rfl⟩)
    go_ret
    exact ⟨rfl, rfl⟩
  · have hb : ((s.size : Int) == 32) = false := by simp; omega
    clear hs hn
    go_enter Tryd.func38, Tryd.ntmps38
    go_wp2
    go_ret
    exact ⟨rfl, rfl⟩
theorem isIndex_neg (i : Int) (h : Int) (w : World) (hi : i < 0) : Calls Tryd.prog 42 #[.int .i64 i, .int .i64 h] w fun e w' => e = .returned (.bool false) ∧ w = w' := by
  go_enter Tryd.func42, Tryd.ntmps42
  go_wp2
  go_ret
  exact ⟨rfl, rfl⟩
theorem isIndex_yes (i h : Nat) (w : World) (hh : h ≤ 6) (hi : i < 2 ^ h) : Calls Tryd.prog 42 #[.int .i64 (i : Int), .int .i64 (h : Int)] w fun e w' => e = .returned (.bool true) ∧ w = w' := by
  obtain rfl | rfl | rfl | rfl | rfl | rfl | rfl : h = 0 ∨ h = 1 ∨ h = 2 ∨ h = 3 ∨ h = 4 ∨ h = 5 ∨ h = 6 := by omega
  all_goals
    simp only [Nat.reducePow] at hi
    go_enter Tryd.func42, Tryd.ntmps42
    go_wp2
    go_ret
    exact ⟨ret_yes (by omega), rfl⟩
theorem isIndex_no (i h : Nat) (w : World) (hh : h ≤ 6) (hi : ¬ i < 2 ^ h) : Calls Tryd.prog 42 #[.int .i64 (i : Int), .int .i64 (h : Int)] w fun e w' => e = .returned (.bool false) ∧ w = w' := by
  obtain rfl | rfl | rfl | rfl | rfl | rfl | rfl : h = 0 ∨ h = 1 ∨ h = 2 ∨ h = 3 ∨ h = 4 ∨ h = 5 ∨ h = 6 := by omega
  all_goals
    simp only [Nat.reducePow, Nat.not_lt] at hi
    go_enter Tryd.func42, Tryd.ntmps42
    go_wp2
    go_ret
    exact ⟨ret_no (by omega), rfl⟩
end Go.Proofs.YtaoegpmjogladaaDoor

/-
  sign.first, sign.start.
-/
namespace Go.Proofs.YtaoegpmjogladaaDoor
open Go.RowKit WM

def z16 : List UInt8 := List.replicate 16 0
theorem Tryd.zero29 (W : World) : (zeroValue 29).run Tryd.prog W = .ok (.agg (bs z16).toArray) W := by kernel_rfl
theorem z16_length : z16.length = 16 := rfl
theorem size16 {x : List UInt8} (h : x.length = 16) : (Tryd.prog.info? 29).map (·.size) = some (bs x).toArray.size := by rw [Tryd.size29]; simp [bs, h]
theorem sz16 {x : List UInt8} (h : x.length = 16) : (bs x).toArray.size = 16 := by simp [bs, h]
theorem seg16 (x : List UInt8) (h : x.length = 16) : seg (bs z16) 0 (bs x) = bs x := by
  unfold seg
  rw [List.take_zero, List.nil_append, List.drop_eq_nil_of_le (by rw [bs_length, bs_length, h]; decide), List.append_nil]

set_option maxRecDepth 100000 in
set_option maxHeartbeats 1000000 in
theorem first16 (s : ByteArray) (hs : 16 ≤ s.size) (hm : s.size ≤ 9223372036854775807) (w : World) :
    Calls Tryd.prog 53 #[.string s] w fun e w' => e = .returned (.agg (bs (s.data.toList.take 16)).toArray) ∧ Below w.heap.size w w' := by
  obtain ⟨x, hx⟩ : ∃ x, x = s.data.toList.take 16 := ⟨_, rfl⟩
  have hxl : x.length = 16 := by rw [hx, List.length_take, size_list]; omega
  rw [← hx]
  have HX := Lib.hid hx
  have HXL := Lib.hid hxl
  have HS := Lib.hid (size16 hxl)
  have hz := Tryd.zero29
  have hsl := fun g => slice44 g
  clear hx hxl
  go_enter Tryd.func53, Tryd.ntmps53
  go_wp2_with (first
    | (refine wpList_copy_str _ rfl (.tmp 4) (.tmp 5) 26 9 5 rfl Tryd.underlying26 Tryd.size5 (w.heap.size + 1) 0 16 16 rfl s rfl 16 (by omega) 29 (bs z16) (Blk.new_at _ 29 (by simp) rfl) (by rw [bs_length]; decide) ?_
       intro w1 hw1
       have HG1 : Hid (Blk w1 (w.heap.size + 1) 29 (bs x).toArray) := by
         rw [hw1, ← HX.out, seg16 x HXL.out]
         exact (Blk.new_at _ 29 (by simp) (rfl : _ = (bs z16).toArray)).setRow _
       have HO1 : Hid (Blk w1 w.heap.size 29 (bs z16).toArray) := by
         rw [hw1]
         exact ((Blk.new w 29 _).alloc _).setRow_far (by omega) _
       have HB1 : Hid (Below w.heap.size w w1) := by rw [hw1]; exact below_setRow (ba (below_new _ _) _) (by omega) _
       clear hw1)
    | (refine wpList_load_row rfl 29 (.tmp 3) rfl (w.heap.size + 1) rfl 29 (bs x).toArray (0, 0) _ HG1.out Tryd.underlying29 rfl HS.out ?_)
    | (refine wpList_store_row rfl 29 (.tmp 2) (.tmp 7) rfl w.heap.size (bs x).toArray rfl rfl 29 _ HO1.out HS.out (by rw [sz16 HXL.out, sz16 z16_length]) (all_oneCell_toArray (bs_one _)) ?_))
  refine bodyPost_ret (results_cell_row Tryd.results53 _ _ w.heap.size 29 (bs x).toArray (0, 0) _ rfl (HO1.out.setRow _) Tryd.underlying29 rfl HS.out) rfl ⟨rfl, below_setRow HB1.out (Nat.le_refl _) _⟩
theorem first_is (m : List UInt8) (hm : 16 ≤ m.length) (hm2 : m.length ≤ 9223372036854775807) (x : List UInt8) (hx : m.take 16 = x) (w : World) :
    Calls Tryd.prog 53 #[.string (str m)] w fun e w' => e = .returned (.agg (bs x).toArray) ∧ Below w.heap.size w w' := by
  subst hx
  exact first16 (str m) (by rw [str_size]; exact hm) (by rw [str_size]; exact hm2) w

/-- A row of integers just made. -/
theorem reads_is {w : World} {l : List Int} {cs : Array Value} {n g : Nat} (hg : g = w.heap.size) (h : (is l).toArray = cs) (hn : l.length = n) : Reads (w.alloc (.cells cs 3)) (w.alloc (.cells cs 3)).heap.size 1 (some ⟨g, 0, none⟩) n (is l) := by
  subst h hn hg
  exact ⟨by simp [is], fun _ => ⟨_, rfl, by simp, cells_new w (is l) 3⟩⟩
theorem ints_is (l : List Int) (A : Option Addr) (n c : Nat) (w : World) (hn : l.length = n) (ha : Reads w w.heap.size 1 A n (is l)) (hr : ∀ x ∈ l, inRange x) (hb : (encI l).length ≤ 1000) (hl : n ≤ 1000) :
    Calls Tryd.prog 67 #[.slice A n c] w fun e w' => ∃ A c, e = .returned (.slice A (encI l).length c) ∧ Reads w' w'.heap.size 1 A (encI l).length (bs (encI l)) ∧ Below w.heap.size w w' := by
  subst hn
  exact (encInts A l c w ha hr (by unfold encI at hb; omega) (by omega)).mono fun _ _ ⟨A, c, he, ho, hb⟩ => ⟨A, c, he, Reads.of_own ho, hb⟩

theorem range2 {a b : Int} (ha : inRange a) (hb : inRange b) : ∀ x ∈ [a, b], inRange x := by
  intro x hx
  simp only [List.mem_cons, List.not_mem_nil, or_false] at hx
  rcases hx with h | h
  · rw [h]; exact ha
  · rw [h]; exact hb
theorem range3 {a b c : Int} (ha : inRange a) (hb : inRange b) (hc : inRange c) : ∀ x ∈ [a, b, c], inRange x := by
  intro x hx
  simp only [List.mem_cons, List.not_mem_nil, or_false] at hx
  rcases hx with h | h | h
  · rw [h]; exact ha
  · rw [h]; exact hb
  · rw [h]; exact hc

set_option maxRecDepth 100000 in
set_option maxHeartbeats 1000000 in
theorem start (seed : ByteArray) (i c : Int) (w : World) (hk : KT 0 w) (hs : seed.size ≤ 1000) (hi : inRange i) (hc : inRange c) :
    Calls Tryd.prog 45 #[.string seed, .int .i64 i, .int .i64 c] w fun e w' => e = .returned (.agg (bs (startB seed.data.toList i c)).toArray) ∧ Below w.heap.size w w' := by
  obtain ⟨x, hx⟩ : ∃ x, x = startB seed.data.toList i c := ⟨_, rfl⟩
  rw [← hx]
  have hxl : x.length = 16 := by rw [hx]; exact startB_16 _ _ _
  obtain ⟨m, hm⟩ : ∃ m, m = macB seed.data.toList (chainText i c) := ⟨_, rfl⟩
  have hml : m.length = 32 := by rw [hm]; exact macB_length _ _
  have hmx : m.take 16 = x := by rw [hm, hx]; rfl
  have hms : str (macB seed.data.toList ((⟨#[99, 104, 97, 105, 110]⟩ : ByteArray) ++ str (encI [i, c])).data.toList) = str m := by
    rw [hm]
    congr 2
  have hle := encI_2_le hi hc
  have hsz : ((⟨#[99, 104, 97, 105, 110]⟩ : ByteArray).size : Int) + ((str (encI [i, c])).size : Int) ≤ 140737488355328 := by rw [str_size]; show (5 : Int) + _ ≤ _; omega
  have HR := Lib.hid (range2 hi hc)
  have HS16 := Lib.hid (size16 hxl)
  have HXL := Lib.hid hxl
  have HMX := Lib.hid hmx
  have HML := Lib.hid hml
  have HMS := Lib.hid hms
  have HK := Lib.hid hk
  have HLE := Lib.hid hle
  have HTL := Lib.hid (show ((⟨#[99, 104, 97, 105, 110]⟩ : ByteArray) ++ str (encI [i, c])).size ≤ 137438953472 by rw [ByteArray.size_append, str_size]; show 5 + _ ≤ _; omega)
  have hz := Tryd.zero29
  clear hx hxl hm hml hmx hms hle hk
  go_enter Tryd.func45, Tryd.ntmps45
  go_wp2_with (first
    | (go_at_call 67; refine (ints_is [i, c] (some ⟨w.heap.size + 1, 0, none⟩) 2 2 _ rfl (reads_is (size_alloc _ _).symm rfl rfl) HR.out (by have := HLE.out; omega) (by omega)).mono ?_; rintro e w1 ⟨A1, c1, rfl, hr1, hb1⟩; have HB1 := Lib.hid (bt (ba (below_new _ _) _) hb1); have HO1 := Lib.hid (blk_past hb1 ((Blk.new w 29 _).alloc _)); have hcv := conv_str (c := c1) hr1; clear hr1 hb1)
    | (go_at_call 30; refine (mac_is seed _ _ (HK.out.below HB1.out) (by omega) HTL.out (str m) HMS.out).mono ?_; rintro e w2 ⟨rfl, hb2⟩; have HB2 := Lib.hid (bt HB1.out hb2); have HO2 := Lib.hid (blk_past hb2 HO1.out); clear hb2)
    | (go_at_call 53; refine (first_is m (by rw [HML.out]; decide) (by rw [HML.out]; decide) x HMX.out _).mono ?_; rintro e w3 ⟨rfl, hb3⟩; have HB3 := Lib.hid (bt HB2.out hb3); have HO3 := Lib.hid (blk_past hb3 HO2.out); clear hb3)
    | (refine wpList_store_row rfl 29 (.tmp 6) (.tmp 15) rfl w.heap.size (bs x).toArray rfl rfl 29 _ HO3.out HS16.out (by rw [sz16 HXL.out, sz16 z16_length]) (all_oneCell_toArray (bs_one _)) ?_))
  refine bodyPost_ret (results_cell_row Tryd.results45 _ _ w.heap.size 29 (bs x).toArray (0, 0) _ rfl (HO3.out.setRow _) Tryd.underlying29 rfl HS16.out) rfl ⟨rfl, below_setRow HB3.out (Nat.le_refl _) _⟩
end Go.Proofs.YtaoegpmjogladaaDoor
