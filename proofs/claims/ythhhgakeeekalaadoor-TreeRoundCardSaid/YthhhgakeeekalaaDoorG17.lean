/-
  Laws of the fenced walk that are lacking: a load of a whole row out of the middle of a block; a plain value.
-/
import Derived.OwnWalkIn
import Derived.TacticsInMore
import Derived.Deep.MidRow
import Derived.Deep.RegionHeldLaw
import Derived.OrdersIn
import Derived.RangeFuncBound
import Derived.Test.YthhhgakeeekalaaDoorG15
import Derived.Test.YthhhgakeeekalaaDoorG16
import Derived.Test.YthhhgakeeekalaaDoorG04
import Derived.WalkSmall
import Derived.Laws.EntriesVeiled
set_option linter.unusedVariables false
namespace Go.Proofs.YthhhgakeeekalaaDoor
open Go.RowKit

theorem wpListIn_value {F : Fence} {n : Nat} {P : Program} {w w' : World} {ops : Array Oper} {rest : List Oper} {o : Oper} {a : Act} {Q : Exit → Act → World → Prop}
    (hg : o.guard = none) (hnd : ∀ c, o.op ≠ .defer c) (hab : o.about P w a.eval = none) (v : Value) (hrun : (execOp a.eval o).run P w = .ok (.value v) w') (h : wpListIn F n P ops Q rest (a.put o.dst v) w') : wpListIn F n P ops Q (o :: rest) a w := by
  refine wpListIn_plain hg fun K hK => ?_
  unfold Oper.wpIn
  refine ⟨fun f hf => absurd hf (by rw [hab]; exact fun h => nomatch h), ?_⟩
  rw [Oper.semAt_plain F _ _ hnd, hrun]
  exact hK _ _ h
theorem wpListIn_load_mid {F : Fence} {n : Nat} {P : Program} {w : World} {ops : Array Oper} {rest : List Oper} {op : Oper} {a : Act} {Q : Exit → Act → World → Prop} (hgd : op.guard = none) (ty : TypeId) (x : Operand) (ho : op.op = .load ty x)
    (b o : Nat) (hx : a.eval x = .pointer (some ⟨b, o, none⟩)) (cs : List Value) (d : TypeDesc) (hc : w.rangeAt b o cs)
    (hu : P.underlying ty = some d) (hd : d.isRow = true) (hi : (P.info? ty).map (·.size) = some cs.length)
    (h : wpListIn F n P ops Q rest (a.put op.dst (.agg cs.toArray)) w) : wpListIn F n P ops Q (op :: rest) a w :=
  wpListIn_value hgd (fun c => by rw [ho]; intro h; cases h) (by simp [Oper.about, ho]) (.agg cs.toArray) (by
    unfold execOp
    simp only [ho, hx, Instr.loadAt, Instr.sureAddr, Sem.run_bind, Sem.run_pure, Result.andThen_ok, run_loadVar_mid w b o ty cs d hc hu hd hi]) h

/-! What is shown of an operation or a region without a fence serves in a round of a loop over an iterator. -/
section
variable {P : Program} {ops : Array Oper} {Q : Exit → Act → World → Prop} {n l : Nat}
theorem wpIn_of_wp {o : Oper} {a : Act} {w : World} {K : Act → World → Prop} (hnd : ∀ c, o.op ≠ .defer c) (h : o.wp P a w K Q) : o.wpIn (Fence.wide.inRound l) n P a w K Q := by
  refine ⟨fun _ _ => trivial, ?_⟩
  rw [Oper.semAt_eq _ _ _ hnd]
  unfold Oper.wp at h
  generalize (execOp a.eval o).run P w = r at h ⊢
  cases r with
  | ok nx w' =>
    cases nx
    case value v => exact h
    case skip => exact h
    case defer d => exact h
    case enter f args => exact ⟨fun hd => (nomatch (show false = true from hd)), (callsIn_wide (n := n - 1)).2 h⟩
    case row row args => exact ⟨fun hd => (nomatch (show false = true from hd)), fun c cs _ => (let ⟨v, w', r, s⟩ := h c cs; ⟨v, w', r, stepsIn_wide.2 s⟩)⟩
    all_goals exact h.elim
  | halt x w' => cases x <;> first | exact h | exact h.elim
theorem wpOpIn_of_wpOp {i : Nat} {K K' : Act → World → Prop} {a : Act} {w : World} (hnd : ∀ (i : Nat) o, ops[i]? = some o → ∀ c, o.op ≠ .defer c) (hQ : ¬ LetsOut Q) (hK : ∀ a w, K a w → K' a w) (h : wpOp P ops Q i K a w) : wpOpIn (Fence.wide.inRound l) n P ops Q i K' a w := by
  unfold wpOp at h
  unfold wpOpIn
  cases ho : ops[i]? with
  | none => rw [ho] at h; exact hK _ _ h
  | some o =>
    rw [ho] at h
    simp only at h ⊢
    split
    · rename_i hw
      rw [if_pos hw] at h
      rcases h with h | h
      · exact Oper.wpIn_mono hK (wpIn_of_wp (hnd i o ho) h)
      · exact absurd h.2 hQ
    · rename_i hw
      rw [if_neg hw] at h
      exact ⟨fun _ _ => trivial, hK _ _ h⟩
theorem wpAnyIn_of_wpAny {md : Region.Mode} (hnd : ∀ (i : Nat) o, ops[i]? = some o → ∀ c, o.op ≠ .defer c) (hQ : ¬ LetsOut Q) : ∀ (fuel : Nat) (listed : Array Bool) (a : Act) (w : World), wpAny P md ops Q fuel listed a w → wpAnyIn (Fence.wide.inRound l) n P md ops Q fuel listed a w
  | 0, _, _, _, h => h
  | fuel + 1, _, _, _, h => ⟨h.1, fun i hi => wpOpIn_of_wpOp hnd hQ (fun a w h => wpAnyIn_of_wpAny hnd hQ fuel _ a w h) (h.2 i hi)⟩
theorem wpListIn_of_wpList (hQ : ¬ LetsOut Q) : ∀ {rest : List Oper} {a : Act} {w : World}, (∀ o ∈ rest, ∀ c, o.op ≠ .defer c) → wpList P ops Q rest a w → wpListIn (Fence.wide.inRound l) n P ops Q rest a w
  | [], _, _, _, h => h
  | o :: rest, a, w, hnd, h => by
    unfold wpList at h
    unfold wpListIn
    split
    · rename_i hw
      rw [if_pos hw] at h
      rcases h with h | h
      · exact Oper.wpIn_mono (fun a w h => wpListIn_of_wpList hQ (fun o ho => hnd o (List.mem_cons_of_mem _ ho)) h) (wpIn_of_wp (hnd o (List.mem_cons_self ..)) h)
      · exact absurd h.2 hQ
    · rename_i hw
      rw [if_neg hw] at h
      exact ⟨fun _ _ => trivial, wpListIn_of_wpList hQ (fun o ho => hnd o (List.mem_cons_of_mem _ ho)) h⟩
/-- No operation is a defer statement. -/
def noDefer (o : Oper) : Bool := match o.op with | .defer _ => false | _ => true
theorem noDefer_all (h : ops.all noDefer = true) : ∀ (i : Nat) o, ops[i]? = some o → ∀ c, o.op ≠ .defer c := fun i o ho c hc => by
  obtain ⟨hi, e⟩ := Array.getElem?_eq_some_iff.1 ho
  have h1 := (Array.all_eq_true.1 h) i hi
  rw [e] at h1
  unfold noDefer at h1
  rw [hc] at h1
  cases h1
/-- A region that draws its order, in a round, by the laws without a fence. -/
theorem wpIn_region_held {S : World → Prop} {id : Nat} {a : Act} {w : World} (hm : P.follows .mixedOrders = true) (hnd : ops.all noDefer = true) (hQ : ¬ LetsOut Q)
    (hS : S w.drew) (h : S w.drew → wpAnyH P .any ops Q S ops.size (Array.replicate ops.size false) a w.drew) : (Code.region id ops true).wpIn (Fence.wide.inRound l) n P Q a w :=
  wpIn_region_any hm (wpAnyIn_of_wpAny (noDefer_all hnd) hQ _ _ _ _ (wpAny_of_held _ _ _ _ (h hS)))
/-- A region in its own order, in a round, by the laws without a fence. -/
theorem wpIn_region_plain {id : Nat} {a : Act} {w : World} (hQ : ¬ LetsOut Q) {rest : List Oper} (hnd : ∀ o ∈ rest, ∀ c, o.op ≠ .defer c) (h : wpList P rest.toArray Q rest a w) : (Code.region id rest.toArray false).wpIn (Fence.wide.inRound l) n P Q a w :=
  wpIn_region_lit (wpListIn_of_wpList hQ hnd h)
end
end Go.Proofs.YthhhgakeeekalaaDoor

/-
  The reference's Paths, walked.
-/
namespace Go.Proofs.YthhhgakeeekalaaDoor
open Go.RowKit WM TR

theorem ps_int_info : (Tryd.prog.info? 3).map (fun i => (i.zero, i.size, i.bytes)) = some (some (.int .i64 0), 1, 8) := by kernel_rfl
theorem ps_ints_info : (Tryd.prog.info? 22).map (fun i => (i.zero, i.size, i.bytes)) = some (some (.slice none 0 0), 1, 24) := by kernel_rfl
theorem ps_reads (w : World) (v : Value) : Reads (w.alloc (.cells #[v] 22)) (w.heap.size + 1) 1 (some ⟨w.heap.size, 0, none⟩) 1 [v] :=
  ⟨rfl, fun _ => ⟨_, rfl, Nat.lt_succ_self _, cells_new w [v] 22⟩⟩
theorem vi_one (l : List Int) : ∀ u ∈ vi l, u.oneCell' = true := by
  intro u hu
  obtain ⟨x, _, rfl⟩ := List.mem_map.1 hu
  rfl
theorem own_one (w : World) (x : Int) : (w.alloc (.cells #[.int .i64 x] 3)).ownsRow w.heap.size 3 1 (.slice (some ⟨w.heap.size, 0, none⟩) 1 1) 1 [.int .i64 x] :=
  own_lit (xs := [.int .i64 x]) (n := 1) (Nat.le_refl _) rfl (len_le (by omega))
theorem below_grown {w w' : World} {o : Obj} {row : Option Nat} (h : (w.alloc o).grownBy w' row) (hr : ∀ b, row = some b → w.heap.size ≤ b) : Below w.heap.size w w' :=
  have hb := below_new w o
  ⟨h.os.trans hb.os, h.tape.trans hb.tape, h.output.trans hb.output, Nat.le_trans hb.size h.size, fun i hi => (h.block i (Nat.lt_of_lt_of_le hi hb.size) (fun e => by have := hr i e.symm; omega)).trans (hb.block i hi)⟩

/-- The row begins with the empty place. -/
theorem PSt.first (w : World) : PSt w (w.alloc (.cells #[.slice none 0 0] 22)) (.slice (some ⟨w.heap.size, 0, none⟩) 1 1) [[]] [.slice none 0 0] := by
  refine ⟨own_lit (xs := [.slice none 0 0]) (n := 1) (Nat.le_refl _) rfl (len_le (by omega)), ⟨rfl, fun i p hp => ?_⟩, below_new _ _⟩
  have hi : i = 0 := by
    have := (List.getElem?_eq_some_iff.1 hp).1
    simp at this; omega
  subst hi
  simp only [List.getElem?_cons_zero, Option.some.injEq] at hp
  subst hp
  exact ⟨none, 0, rfl, Nat.le_refl _, Rd.none_⟩

set_option maxRecDepth 100000 in
set_option maxHeartbeats 4000000 in
theorem paths_is : ∀ (d : Nat) (t : T) (S : Nat → Prop) (A : Option Addr) (c : Nat) (w : World), Rep w S d t (nd t A c) → In S w.heap.size → size t ≤ 1000000 →
    Calls Tryd.prog 40 #[.agg #[.int .i64 t.k, .int .i64 t.n, .int .i64 t.m, .slice A t.kids.length c]] w (PathsPost t w)
  | 0, _, _, _, _, _, h, _, _ => h.elim
  | d + 1, t, S, A, c, w, ht, hin, hst => by
    have ih := paths_is d
    obtain ⟨l, hl⟩ : ∃ l, l = t.kids.length := ⟨_, rfl⟩
    have hkl : t.kids.length ≤ 1000000 := by have := kids_lt t; omega
    obtain ⟨i0, hi, hz0, hz1, hz2⟩ := info_parts ps_int_info
    obtain ⟨i1, gi, gz0, gz1, gz2⟩ := info_parts ps_ints_info
    rw [← hl] at hkl ⊢
    have HT := Lib.hid ht
    have HI := Lib.hid hin
    have HL := Lib.hid hl
    have HST := Lib.hid hst
    have HIH := Lib.hid ih
    clear ht hin hl ih
    go_enter Tryd.func40, Tryd.ntmps40
    go_wp2_with fail
    obtain ⟨W1, hW1⟩ : ∃ W1, W1 = w.alloc (.cells #[.int .i64 t.k, .int .i64 t.n, .int .i64 t.m, .slice A l c] 25) := ⟨_, rfl⟩
    have hz1' : W1.heap.size = w.heap.size + 1 := by rw [hW1]; exact size_alloc _ _
    have HB1 : Hid (Below w.heap.size w W1) := Lib.hid (by rw [hW1]; exact below_new _ _)
    have HC1 : Hid (Blk W1 w.heap.size 25 #[.int .i64 t.k, .int .i64 t.n, .int .i64 t.m, .slice A l c]) := Lib.hid (by rw [hW1]; exact Blk.new w _ _)
    rw [← hW1, ← hz1']
    clear hW1
    have HZ1 := Lib.hid hz1'
    clear hz1'
    go_loopw [3, 4] (fun s i wr => ∃ (j : Nat) (v : Value) (xs : List Value), j ≤ l ∧ v = s ∧ i = .int .i64 j ∧ Hid (PSt W1 wr v ([] :: rows t.kids j) xs)) (fun _ i _ => l - (intOf i).toNat)
    case atStart => exact ⟨0, _, _, Nat.zero_le _, rfl, rfl, PSt.first W1⟩
    case round =>
      obtain ⟨j, v, xs, hj, rfl, rfl, HP⟩ := hrel
      have hBW : Below w.heap.size w wr := bt HB1.out HP.out.below
      have hc3 : wr.cell? ⟨w.heap.size, 3, none⟩ = some (.slice A l c) := (HC1.out.below HP.out.below HC1.out.lt).cell 3
      by_cases hlt : j < l
      · obtain ⟨u, hu⟩ : ∃ u, t.kids[j]? = some u := ⟨_, List.getElem?_eq_getElem (by rw [← HL.out]; omega)⟩
        have hrr := HT.out.later HI.out hBW
        obtain ⟨b2, o2, A2, c2, hA2, hb2, hcells, hru⟩ := hrr.kid hu
        subst hA2
        have hsu := size_kid hu
        obtain ⟨z, hz⟩ : ∃ z, z = size u := ⟨_, rfl⟩
        have hz3 : z ≤ 1000000 := by omega
        have HZ := Lib.hid hz.symm
        have HNX := Lib.hid (rows_next hu)
        have HR := Lib.hid hru
        have HCL := Lib.hid hcells
        have HIW : Hid (In S wr.heap.size) := Lib.hid (HI.out.more hBW.size)
        have hij : (0 : Int) ≤ j ∧ (j : Int) < l := ⟨by omega, by omega⟩
        have HRN : Hid ((rows t.kids j).length ≤ 1000000) := Lib.hid (by
          have h1 := rows_length (l := t.kids) (fun u _ => paths_length u) j (by rw [← HL.out]; omega)
          have h2 := sizes_le t.kids j
          have h3 := size_eq t
          omega)
        have HUL : Hid ((paths u).length = z) := Lib.hid (by rw [paths_length, hz])
        have HUP : Hid (∀ p ∈ paths u, p.length ≤ 1000000) := Lib.hid (fun p hp => by have := path_le u p hp; omega)
        have HBW := Lib.hid hBW
        clear hrr hcells hru hu hsu hz hb2 hBW
        go_wp2_with (first
          | (refine wpList_load_mid rfl 25 (.tmp 18) rfl b2 (o2 + j * 4) rfl [.int .i64 u.k, .int .i64 u.n, .int .i64 u.m, .slice A2 u.kids.length c2] _ HCL.out Tryd.underlying25 rfl (by rw [size_node]; rfl) ?_)
          | (go_at_call 40; refine (HIH.out u S A2 c2 _ HR.out HIW.out (by rw [HZ.out]; exact hz3)).mono ?_; rintro e w5 ⟨A5, c5, rfl, hcap5, hps5, hbw5⟩; rw [HZ.out] at hcap5 ⊢; have HPS := Lib.hid hps5; have HP5 := Lib.hid (HP.out.later hbw5); have HBW5 := Lib.hid hbw5; have HV5 := Lib.hid HP.out.own.lt; clear hps5 hbw5))
        obtain ⟨B1, hB1⟩ : ∃ B1, B1 = wr.heap.size := ⟨_, rfl⟩
        obtain ⟨B2, hB2⟩ : ∃ B2, B2 = w5.heap.size := ⟨_, rfl⟩
        have HPS2 : Hid (Ps w5 (fun b => B1 ≤ b ∧ b < B2) A5 (paths u)) := by rw [hB1, hB2]; exact HPS
        have HV2 : Hid (B2 ≤ w5.heap.size ∧ ∀ b, B1 ≤ b → b < B2 → v.ownBlock ≠ some b) := Lib.hid ⟨by omega, fun b h1 _ e => by have := (HV5.out b e).2; omega⟩
        clear hB1 hB2 HPS HV5
        go_loopw [3, 6] (fun s i wq => ∃ (k : Nat) (v : Value) (ys : List Value), k ≤ z ∧ v = s ∧ i = .int .i64 k ∧ Hid (PSt W1 wq v (([] :: rows t.kids j) ++ ((paths u).take k).map (fun p => (j : Int) :: p)) ys) ∧ Hid (Keeps (fun b => B1 ≤ b ∧ b < B2) w5 wq) ∧ Hid (B2 ≤ wq.heap.size ∧ ∀ b, B1 ≤ b → b < B2 → v.ownBlock ≠ some b)) (fun _ i _ => z - (intOf i).toNat)
        case atStart => exact ⟨0, _, xs, Nat.zero_le _, rfl, rfl, by simpa using HP5, Keeps.refl _ _, HV2⟩
        case round =>
          obtain ⟨k, v2, ys, hk, rfl, rfl, HQ, HK, HS⟩ := hrel
          by_cases hlt2 : k < z
          · obtain ⟨p, hp⟩ : ∃ p, (paths u)[k]? = some p := ⟨_, List.getElem?_eq_getElem (by rw [HUL.out]; exact hlt2)⟩
            have hpl : p.length ≤ 1000000 := HUP.out p (List.mem_of_getElem? hp)
            obtain ⟨b5, o5, A6, c6, hA5, hs5, hc5, _, hr6⟩ := (HPS2.out.keep HK.out).at_ hp
            subst hA5
            have hb5 : b5 < wr.heap.size := Nat.lt_of_lt_of_le hs5.2 HS.out.1
            have hcx : (wr.alloc (.cells #[.int .i64 (j : Int)] 3)).cell? ⟨b5, o5 + k, none⟩ = some (Value.slice A6 p.length c6) := ((below_new wr _).cell (p := ⟨b5, o5 + k, none⟩) hb5).trans hc5
            have HIN : Hid (In (fun b => B1 ≤ b ∧ b < B2) wr.heap.size) := Lib.hid (fun b hb => Nat.lt_of_lt_of_le hb.2 HS.out.1)
            have HRD : Hid (Reads (wr.alloc (.cells #[.int .i64 (j : Int)] 3)) (wr.heap.size + 1) 1 A6 p.length (vi p)) := Lib.hid ((hr6.keep (Keeps.below HIN.out (below_new wr _))).reads (HIN.out.more (Nat.le_succ _)))
            obtain ⟨ps, hps⟩ : ∃ ps, ps = ([] :: rows t.kids j) ++ ((paths u).take k).map (fun p => (j : Int) :: p) := ⟨_, rfl⟩
            have hpsl : ps.length ≤ 2000001 := by
              have h1 := HRN.out
              rw [hps, List.length_append, List.length_cons, List.length_map, List.length_take]
              omega
            have HPE : Hid (([] :: rows t.kids j) ++ ((paths u).take (k + 1)).map (fun p => (j : Int) :: p) = ps ++ [(j : Int) :: p]) := Lib.hid (by rw [List.take_add_one, hp, hps]; simp)
            have HQ2 : Hid (PSt W1 wr v2 ps ys) := by rw [hps]; exact HQ
            have hi1 : (0 : Int) ≤ k ∧ (k : Int) < z := ⟨by omega, by omega⟩
            have hW1 : W1.heap.size ≤ wr.heap.size := HQ2.out.below.size
            clear HQ hps hp hs5 hc5 hr6
            go_wp2_with (at_builtin; first
              | (refine wpList_append_any _ rfl (.tmp 29) (.tmp 33) 22 rfl wr.heap.size 3 i0 _ 1 8 Tryd.underlying22 hi hz0 hz1 hz2 rfl (by omega) _ _ _ rfl (own_one wr j) _ A6 p.length c6 (vi p) rfl HRD.out (vi_one p) (len_le (by omega)) (by omega) (by simp) ?_; intro v7 w7 hown7 hgrow7 _; obtain ⟨A7, c7, hv7, hcap7⟩ := own_len hown7; subst hv7; have HO7 := Lib.hid hown7; have HB7 : Hid (Below wr.heap.size wr w7) := Lib.hid (below_grown hgrow7 (fun b hb => Nat.le_of_eq (Option.some.inj hb))); have HOW7 : Hid ((w7.alloc (.cells #[.slice A7 (1 + p.length) c7] 22)).ownsRow W1.heap.size 22 1 v2 ps.length ys) := Lib.hid (ownsRow_below (ownsRow_below HQ2.out.own HB7.out) (below_new _ _)); clear hown7 hgrow7)
              | (go_loud (refine wpList_append_any _ rfl (.tmp 27) (.tmp 35) 60 rfl W1.heap.size 22 i1 _ 1 24 Tryd.underlying60 gi gz0 gz1 gz2 rfl (by omega) _ _ _ rfl HOW7.out _ (some ⟨w7.heap.size, 0, none⟩) 1 1 [.slice A7 (1 + p.length) c7] rfl (ps_reads w7 _) (by simp [Value.oneCell']) (len_le (by omega)) (by omega) (by have := HB7.out.size; simp; omega) ?_); intro v8 w8 hown8 hgrow8 hnew8; have HO8 := Lib.hid hown8; have HG8 := Lib.hid hgrow8; have HN8 := Lib.hid hnew8; clear hown8 hgrow8 hnew8))
            go_roundw
            case rel =>
              have h7 : w7.ownsRow wr.heap.size 3 1 (.slice A7 (1 + p.length) c7) ((j : Int) :: p).length (vi ((j : Int) :: p)) := by
                rw [List.length_cons, Nat.add_comm p.length 1]
                exact HO7.out
              have hs7 := HB7.out.size
              have hs2 := HS.out
              have hs8 := HG8.out.size
              have hsa := size_alloc w7 (.cells #[.slice A7 (1 + p.length) c7] 22)
              refine ⟨k + 1, v8, ys ++ [.slice A7 (1 + p.length) c7], by omega, rfl, by go_num, ?_, ?_, ?_, ?_⟩
              · rw [HPE.out]
                exact HQ2.out.next h7 HB7.out HO8.out HG8.out HN8.out
              · refine (((HK.out.trans (Keeps.below HIN.out HB7.out)).trans (Keeps.below (HIN.out.more hs7) (below_new _ _))).grown (HIN.out.more (by omega)) HG8.out ?_)
                intro b hb hS
                exact hs2.2 b hS.1 hS.2 hb
              · omega
              · intro b h1 h2 e
                rcases HN8.out with hn | hn
                · exact hs2.2 b h1 h2 (hn ▸ e)
                · rw [hn] at e; have := Option.some.inj e; omega
            case measure => simp [intOf]; omega
          · have hkz : k = z := by omega
            have HQ2 : Hid (PSt W1 wr v2 ([] :: rows t.kids (j + 1)) ys) := by
              have h := HQ.out
              rw [List.take_of_length_le (Nat.le_of_eq (HUL.out.trans hkz.symm)), List.cons_append, ← HNX.out] at h
              exact h
            clear HQ hkz
            go_wp2_with fail
            go_roundw
            case rel => exact ⟨j + 1, _, ys, by omega, rfl, by go_num, HQ2.out⟩
            case measure => simp [intOf]; omega
      · have hjl : j = l := by omega
        have HN : Hid (([] :: rows t.kids j : List (List Int)) = paths t) := Lib.hid (by rw [hjl, HL.out, ← paths_rows])
        have HP2 : Hid (PSt W1 wr v (paths t) xs) := Lib.hid (by rw [← HN.out]; exact HP.out)
        obtain ⟨A9, c9, hv, hcap⟩ := own_len HP2.out.own
        rw [paths_length] at hv hcap
        subst hv
        have HBW := Lib.hid hBW
        clear hjl hBW
        go_wp2_with fail
        go_ret
        refine ⟨A9, c9, rfl, hcap, ⟨xs, ?_, ?_⟩, HBW.out⟩
        · have h := HP2.out.own
          rw [paths_length] at h ⊢
          exact (Rd.of_own h).mono fun b hb => ⟨by have := HZ1.out; omega, hb.2⟩
        · exact (HP2.out.cells.mono fun b hb => ⟨by have := HZ1.out; omega, hb.2.1⟩).2
end Go.Proofs.YthhhgakeeekalaaDoor

/-
  The program's iterator over a tree: its inner function 'visit'.
-/
namespace Go.Proofs.YthhhgakeeekalaaDoor
open Go.RowKit WM TR

/-- What 'visit' leaves. -/
def VisPost (z l : Nat) (S0 : Nat → Prop) (W0 : World) (J Jx : List (List Int × T) → (Nat → Prop) → World → Prop) (pre : List (List Int × T)) (p : List Int) (t : T) (S : Nat → Prop) (W : World) (v : Value) (e : Ending) (W' : World) : Prop :=
  ∃ S' v', VMv z S W v S' W' v' ∧ ((e = .returned (.bool true) ∧ J (pre ++ walk p t) S' W' ∧ VSt z l S0 W0 S' W' v' p) ∨ (e = .returned (.bool false) ∧ ∃ q, q <+: walk p t ∧ Jx (pre ++ q) S' W'))

theorem pre_snoc {α : Type} {a b c : List α} {x : α} (h : a ++ (x :: b) <+: c) : a ++ [x] <+: c := by
  refine List.IsPrefix.trans ⟨b, ?_⟩ h
  simp

set_option maxRecDepth 100000 in
set_option maxHeartbeats 4000000 in
theorem visit_is (l z m : Nat) (xs : List (List Int × T)) (J Jx : List (List Int × T) → (Nat → Prop) → World → Prop) (S0 : Nat → Prop) (W0 : World) (hz : z = W0.heap.size) (hS0 : ∀ b, S0 b → b < W0.heap.size) (hJ : Abide J) (hJx : Abide Jx)
    (Tr : Nat → Prop) (hTr : ∀ b, Tr b → b < W0.heap.size ∧ ¬ S0 b)
    (hY : ∀ pre x vs S1 W1, J pre S1 W1 → pre ++ [x] <+: xs → AtT x vs S1 W1 → Mov S0 W0 S1 W1 → YieldAt Fence.wide m Tryd.prog l vs W1 fun e W' =>
      ∃ S', Mov S1 W1 S' W' ∧ ((e = .returned (.bool true) ∧ J (pre ++ [x]) S' W') ∨ (e = .returned (.bool false) ∧ Jx (pre ++ [x]) S' W'))) :
    ∀ (d : Nat) (t : T) (A : Option Addr) (c : Nat) (S : Nat → Prop) (W : World) (v : Value) (p : List Int) (pre : List (List Int × T)), Rep W0 Tr d t (nd t A c) → VSt z l S0 W0 S W v p → J pre S W → pre ++ walk p t <+: xs → size t ≤ 1000000 → p.length + depth t ≤ 1000000 →
    Calls Tryd.prog 79 #[.agg #[.int .i64 t.k, .int .i64 t.n, .int .i64 t.m, .slice A t.kids.length c], .pointer (some ⟨z, 0, none⟩), .pointer (some ⟨z + 1, 0, none⟩), .pointer (some ⟨z + 2, 0, none⟩)] W
      (VisPost z l S0 W0 J Jx pre p t S W v)
  | 0, _, _, _, _, _, _, _, _, h, _, _, _, _, _ => h.elim
  | d + 1, t, A, c, S, W, v, p, pre, ht, hst, hj, hpre, hsz, hdp => by
    have ih := visit_is l z m xs J Jx S0 W0 hz hS0 hJ hJx Tr hTr hY d
    obtain ⟨len, hlen⟩ : ∃ len, len = t.kids.length := ⟨_, rfl⟩
    have hkl : t.kids.length ≤ 1000000 := by have := kids_lt t; omega
    have hcap := ht.cap
    obtain ⟨i0, hi, hz0, hz1, hz2⟩ := info_parts ps_int_info
    rw [← hlen] at hkl hcap ⊢
    -- the world with the node's box
    obtain ⟨W1, hW1⟩ : ∃ W1, W1 = W.alloc (.cells #[.int .i64 t.k, .int .i64 t.n, .int .i64 t.m, .slice A len c] 25) := ⟨_, rfl⟩
    have hBX : Blk W1 W.heap.size 25 #[.int .i64 t.k, .int .i64 t.n, .int .i64 t.m, .slice A len c] := by rw [hW1]; exact Blk.new W _ _
    have hb1 : Below W.heap.size W W1 := by rw [hW1]; exact below_new _ _
    have hs1 : W1.heap.size = W.heap.size + 1 := by rw [hW1]; exact size_alloc _ _
    have hin := hst.in_ hS0
    have hm1 : OMv z W v W1 v := OMv.below hb1
    obtain ⟨hst1, hsy1⟩ := hst.step hz hS0 hm1 (hst.pl.below hb1 hst.pl.lt) (ownsRow_below hst.own hb1)
    have hj1 : J pre S W1 := hJ _ _ _ _ hj hsy1
    rw [walk_walks] at hpre
    -- the round at this node
    have hat : AtT (p, t) #[v, .agg #[.int .i64 t.k, .int .i64 t.n, .int .i64 t.m, .slice A len c]] S W1 := by
      obtain ⟨A', c', rfl, hc'⟩ := own_len hst1.own
      refine ⟨A', c', A, c, d + 1, by rw [hlen], hc', ?_, ?_⟩
      · exact Rd.of_own_out hst1.own hst1.row
      · refine (ht.keep ?_).mono ?_
        · intro b hb
          exact (hst1.mov.same b (hTr b hb).1 (hTr b hb).2)
        · intro b hb
          exact ⟨Nat.lt_of_lt_of_le (hTr b hb).1 hst1.mov.size, fun h => (hst1.mov.new b h).elim (hTr b hb).2 (fun h2 => by have := (hTr b hb).1; omega)⟩
    obtain ⟨fn, tmps, assign, body, hy, hR⟩ := YieldAt.deep (9 - 1) (hY pre (p, t) _ S W1 hj1 (pre_snoc hpre) hat hst1.mov)
    have hcy := hst1.y
    have hcp : W1.cell? ⟨z + 1, 0, none⟩ = some v := hst1.pl.cell 0
    have HZ := Lib.hid hz
    have HLEN := Lib.hid hlen
    have HIH := Lib.hid ih
    have HP := Lib.hid hpre
    have HT := Lib.hid ht
    have HS1 := Lib.hid hst1
    have HBX := Lib.hid hBX
    have HM1 := Lib.hid hm1
    have HJ := Lib.hid hJ
    have HTR := Lib.hid hTr
    have HIN := Lib.hid hin
    have HVL : Hid (∀ g, v.ownBlock = some g → g < W.heap.size) := Lib.hid (fun g hg => (hst.own.lt g hg).2)
    have HZW : Hid (z + 3 ≤ W.heap.size) := Lib.hid hst.three
    have HS0 := Lib.hid hS0
    have hcx : ∀ i x, [Value.int .i64 t.k, .int .i64 t.n, .int .i64 t.m, .slice A len c][i]? = some x → W1.cell? ⟨W.heap.size, 0 + i, none⟩ = some x := fun i x hx => by
      have h := HBX.out.cell (0 + i)
      rw [h, Nat.zero_add]; simpa using hx
    have HCX := Lib.hid hcx
    clear hcx hin hS0
    clear hz hlen ih hpre ht hst hst1 hsy1 hBX hm1 hat hY hTr hJx hJ
    go_enter Tryd.func79, Tryd.ntmps79
    apply wp_seq_k
    intro K0 hK0
    replace hK0 := Lib.hid hK0
    go_wp2
    refine hK0.out _ _ ?_
    clear hK0
    rw [← hW1]
    have HW1 := Lib.hid hW1
    clear hW1
    apply wp_seq_k
    intro K1 hK1
    apply wp_seq_k
    intro K2 hK2
    refine (wpIn_wide (n := 9)).1 ?_
    gi_wp2_with (first
      | (refine wpListIn_load_mid rfl 25 (.tmp 4) rfl W.heap.size 0 rfl [.int .i64 t.k, .int .i64 t.n, .int .i64 t.m, .slice A len c] _ HCX.out Tryd.underlying25 rfl (by rw [size_node]; rfl) ?_)
      | ((try refine ⟨fun h => (by cases h), ?_⟩); refine hR.mono ?_; clear hR; rintro e W2 ⟨S2, hm2, (⟨rfl, hj2⟩ | ⟨rfl, hx2⟩)⟩))
    · -- the round goes on
      have hst2 := HS1.out.round hm2
      have hW12 : VMv z S W v S2 W2 v := (HM1.out.lift S).trans (VMv.of_mov hm2)
      have hBX2 : Blk W2 W.heap.size 25 #[.int .i64 t.k, .int .i64 t.n, .int .i64 t.m, .slice A len c] := (hm2.same _ (by omega) (fun h => Nat.lt_irrefl _ (HIN.out _ h))).trans HBX.out
      have hcp2 : W2.cell? ⟨z + 1, 0, none⟩ = some v := hst2.pl.cell 0
      have HOWN : Hid ((W2.alloc (.cells #[.int .i64 0] 3)).ownsRow (z + 3) 3 1 v p.length (vi p)) := Lib.hid (ownsRow_below hst2.own (below_new _ _))
      have h3 := hst2.three
      have HS2 := Lib.hid hst2
      have HW12 := Lib.hid hW12
      have HB2 := Lib.hid hBX2
      have hpl : p.length ≤ 1000000 := by omega
      clear hst2 hW12 hBX2 hj1 hm2 hcy hcp hy
      go_wp2_with (at_builtin; refine wpList_append_any _ rfl (.tmp 14) (.tmp 15) 22 rfl (z + 3) 3 i0 _ 1 8 Tryd.underlying22 hi hz0 hz1 hz2 rfl (by omega) _ _ _ rfl HOWN.out _ (some ⟨W2.heap.size, 0, none⟩) 1 1 [.int .i64 0] rfl (Rd.reads (S := fun b => b < W2.heap.size + 1) ⟨rfl, fun _ => ⟨_, rfl, Nat.lt_succ_self _, one_new W2 _ _⟩⟩ (fun _ h => h)) (int_one _ _) (len_le (by omega)) (by omega) (by simp; omega) ?_; intro v3 w3 hown3 hgrow3 hnew3; obtain ⟨hc3, hf3⟩ := HS2.out.boxed hgrow3; obtain ⟨A3, c3, rfl, hcap3⟩ := own_len hown3; have HO3 := Lib.hid hown3; have HG3 : Hid ((W2.alloc (.cells #[.int .i64 0] 3)).grownBy w3 v.ownBlock) := Lib.hid hgrow3; have HN3 : Hid ((Value.slice A3 (p.length + 1) c3).ownBlock = v.ownBlock ∨ (Value.slice A3 (p.length + 1) c3).ownBlock = some (W2.alloc (.cells #[.int .i64 0] 3)).heap.size) := Lib.hid hnew3; clear hown3 hgrow3 hnew3; have HA4 := Lib.hid (HS2.out.append HO3.out HG3.out HN3.out); have HX4 : Hid (Blk (w3.setCell ⟨z + 1, 0, none⟩ (.slice A3 (p.length + 1) c3)) W.heap.size 25 #[.int .i64 t.k, .int .i64 t.n, .int .i64 t.m, .slice A len c]) := Lib.hid ((HA4.out.1.same _ HB2.out.lt (fun h => h) (by have := HZW.out; omega) (fun e => Nat.lt_irrefl _ (HVL.out _ e))).trans HB2.out); have hc4 := HX4.out.cell 3; have hc4p : (w3.setCell ⟨z + 1, 0, none⟩ (.slice A3 (p.length + 1) c3)).cell? ⟨z + 1, 0, none⟩ = some (.slice A3 (p.length + 1) c3) := HA4.out.2.1.cell 0)
      have hst4 := HS2.out.step HZ.out HS0.out HA4.out.1 HA4.out.2.1 HA4.out.2.2
      have HJ4 : Hid (J (pre ++ (p, t) :: walks p t.kids 0) S2 (w3.setCell ⟨z + 1, 0, none⟩ (.slice A3 (p.length + 1) c3))) := Lib.hid (by rw [walks_zero]; exact HJ.out _ _ _ _ hj2 hst4.2)
      have HM4 : Hid (VMv z S W v S2 (w3.setCell ⟨z + 1, 0, none⟩ (.slice A3 (p.length + 1) c3)) (.slice A3 (p.length + 1) c3)) := Lib.hid (HW12.out.trans (HA4.out.1.lift S2))
      have HS4 := Lib.hid hst4.1
      clear hst4 hc4 hc4p hc3 hf3 hj2 hcp2 HX4 HA4 HO3 HG3 HN3 HOWN HB2 HS2 HW12 h3
      go_loopw [23] (fun i wr => ∃ (j : Nat) (S' : Nat → Prop) (v' : Value) (x : Int), j ≤ len ∧ i = .int .i64 j ∧ Hid (VMv z S W v S' wr v') ∧ Hid (VSt z l S0 W0 S' wr v' (p ++ [x])) ∧ Hid (J (pre ++ (p, t) :: walks p t.kids j) S' wr)) (fun i _ => len - (intOf i).toNat)
      case atStart => exact ⟨0, S2, _, 0, Nat.zero_le _, rfl, HM4, HS4, HJ4⟩
      case round =>
        clear HM4 HS4 HJ4
        obtain ⟨j, S5, v5, x, hj, rfl, HM, HST, HJ5⟩ := hrel
        obtain ⟨g, c5, hv5⟩ := ownsRow_succ (by have h := HST.out.own; rw [List.length_append, List.length_singleton] at h; exact h)
        subst hv5
        by_cases hlt : j < len
        · obtain ⟨u, hu⟩ : ∃ u, t.kids[j]? = some u := ⟨_, List.getElem?_eq_getElem (by rw [← HLEN.out]; exact hlt)⟩
          obtain ⟨b, off, A', c', hA, hb, hcells, hru⟩ := HT.out.kid hu
          subst hA
          have HCL : Hid (∀ i y, (nd u A' c')[i]? = some y → wr.cell? ⟨b, off + j * 4 + i, none⟩ = some y) := Lib.hid (fun i y hy => (World.cell?_of_block (HST.out.mov.same b (HTR.out b hb).1 (HTR.out b hb).2)).trans (hcells i y hy))
          have hb5 := below_new wr (.cells #[.int .i64 u.k, .int .i64 u.n, .int .i64 u.m, .slice A' u.kids.length c'] 25)
          have hm5 : OMv z wr (.slice (some ⟨g, 0, none⟩) (p.length + 1) c5) (wr.alloc (.cells #[.int .i64 u.k, .int .i64 u.n, .int .i64 u.m, .slice A' u.kids.length c'] 25)) (.slice (some ⟨g, 0, none⟩) (p.length + 1) c5) := OMv.below hb5
          obtain ⟨hst5, hsy5⟩ := HST.out.step HZ.out HS0.out hm5 (HST.out.pl.below hb5 HST.out.pl.lt) (ownsRow_below HST.out.own hb5)
          have hj5 := HJ.out _ _ _ _ HJ5.out hsy5
          have hc5p := hst5.pl.cell 0
          have ho5 := hst5.own
          rw [List.length_append, List.length_singleton] at ho5
          have hc5g := (ho5.cellAt p.length (by omega)).trans (by rw [vi_append, List.getElem?_append_right (by rw [vi_length]; exact Nat.le_refl _), vi_length, Nat.sub_self]; rfl : (vi (p ++ [x]))[p.length]? = some (.int .i64 x))
          have hf5g := ho5.frozenAt p.length
          have h56 := hst5.store rfl (j : Int)
          obtain ⟨hst6, hsy6⟩ := hst5.step HZ.out HS0.out h56.1 h56.2.1 h56.2.2
          have hj6 := HJ.out _ _ _ _ hj5 hsy6
          have hm6 : VMv z S W v S5 _ _ := HM.out.trans ((hm5.lift S5).trans (h56.1.lift S5))
          have hc6v := hst6.vf
          have hX6 := (Blk.new wr 25 #[.int .i64 u.k, .int .i64 u.n, .int .i64 u.m, .slice A' u.kids.length c']).far (p := ⟨g, p.length, none⟩) (by have := (HST.out.own.lt g rfl).2; show wr.heap.size ≠ g; omega) (.int .i64 (j : Int))
          have HC6 : Hid (∀ i y, [Value.int .i64 u.k, .int .i64 u.n, .int .i64 u.m, .slice A' u.kids.length c'][i]? = some y → ((wr.alloc (.cells #[.int .i64 u.k, .int .i64 u.n, .int .i64 u.m, .slice A' u.kids.length c'] 25)).setCell ⟨g, p.length, none⟩ (.int .i64 (j : Int))).cell? ⟨wr.heap.size, 0 + i, none⟩ = some y) := Lib.hid (fun i y hy => by
            have h := hX6.cell (0 + i)
            rw [h, Nat.zero_add]; simpa using hy)
          have hpre6 : (pre ++ (p, t) :: walks p t.kids j) ++ walk (p ++ [(j : Int)]) u <+: xs := by
            refine List.IsPrefix.trans ?_ HP.out
            have e : (pre ++ (p, t) :: walks p t.kids j) ++ walk (p ++ [(j : Int)]) u = pre ++ (p, t) :: walks p t.kids (j + 1) := by rw [walks_next hu]; simp
            rw [e]
            exact (List.prefix_append_right_inj pre).2 ((List.prefix_cons_inj _).2 (walks_take p t.kids (j + 1)))
          have hsu := size_kid hu
          have hdu := depth_kid hu
          have HIH6 := Lib.hid (HIH.out u A' c' S5 _ _ (p ++ [(j : Int)]) _ hru hst6 hj6 hpre6 (by omega) (by rw [List.length_append, List.length_singleton]; omega))
          have HM6 := Lib.hid hm6
          have HWN := Lib.hid (walks_next (p := p) hu)
          have hij : (0 : Int) ≤ p.length ∧ (p.length : Int) < ((p.length + 1 : Nat) : Int) := ⟨by omega, by omega⟩
          have hjj : (0 : Int) ≤ j ∧ (j : Int) < len := ⟨by omega, by omega⟩
          clear hst5 hsy5 hj5 ho5 h56 hst6 hsy6 hj6 hm6 hX6 hpre6 hsu hdu hru hcells hb hm5 hb5
          go_wp2_with (first
            | (refine wpList_load_mid rfl 25 (.tmp 26) rfl b (off + j * 4) rfl [.int .i64 u.k, .int .i64 u.n, .int .i64 u.m, .slice A' u.kids.length c'] _ HCL.out Tryd.underlying25 rfl (by rw [size_node]; rfl) ?_)
            | (refine wpList_store_new rfl 25 (.tmp 8) (.tmp 27) rfl wr _ _ rfl rfl (by rw [size_node]; rfl) rfl rfl ?_)
            | (refine wpList_load_mid rfl 25 (.tmp 8) rfl wr.heap.size 0 rfl [.int .i64 u.k, .int .i64 u.n, .int .i64 u.m, .slice A' u.kids.length c'] _ HC6.out Tryd.underlying25 rfl (by rw [size_node]; rfl) ?_)
            | (go_at_call 79; refine HIH6.out.mono ?_; rintro e w7 ⟨S7, v7, hm7, (⟨rfl, hj7, hst7⟩ | ⟨rfl, q, hq, hx7⟩)⟩))
          · go_roundw
            case rel => exact ⟨j + 1, S7, v7, j, by omega, by go_num, HM6.out.trans hm7, hst7, by rw [HWN.out]; exact Lib.hid (by simpa using hj7)⟩
            case measure => simp [intOf]; omega
          · go_ret
            refine ⟨S7, v7, HM6.out.trans hm7, .inr ⟨rfl, (p, t) :: (walks p t.kids j ++ q), ?_, by simpa using hx7⟩⟩
            rw [walk_walks]
            refine (List.prefix_cons_inj _).2 (List.IsPrefix.trans ?_ (walks_take p t.kids (j + 1)))
            rw [HWN.out]
            exact (List.prefix_append_right_inj _).2 hq
        · have hjl : j = len := by omega
          have hcp := HST.out.pl.cell 0
          have hfp := HST.out.pl.frozen 0
          have hpp := HST.out.pop rfl
          obtain ⟨hst9, hsy9⟩ := HST.out.step HZ.out HS0.out hpp.1 hpp.2.1 hpp.2.2
          have hj9 : J (pre ++ walk p t) S5 _ := HJ.out _ _ _ _ (by rw [walk_walks, ← HLEN.out, ← hjl]; exact HJ5.out) hsy9
          have HJ9 := Lib.hid hj9
          have HS9 := Lib.hid hst9
          have HM9 : Hid (VMv z S W v S5 _ _) := Lib.hid (HM.out.trans (hpp.1.lift S5))
          have hcc : p.length + 1 ≤ c5 := by
            obtain ⟨A9, c9, e, h9⟩ := own_len HST.out.own
            rw [List.length_append, List.length_singleton] at e h9
            have := congrArg (fun v => match v with | Value.slice _ _ c => c | _ => 0) e
            simp only at this
            omega
          have hce : (0 : Int) ≤ p.length ∧ (p.length : Int) ≤ c5 := ⟨by omega, by omega⟩
          clear hj9 hst9 hsy9 hpp
          go_wp2
          go_ret
          exact ⟨S5, _, HM9.out, .inl ⟨rfl, HJ9.out, HS9.out⟩⟩
    · go_wp2
      go_ret
      exact ⟨S2, v, (HM1.out.lift S).trans (VMv.of_mov hm2), .inr ⟨rfl, [(p, t)], by rw [walk_walks]; exact ⟨_, rfl⟩, hx2⟩⟩
end Go.Proofs.YthhhgakeeekalaaDoor

/-
  The program's iterator over a tree: 'places' and what it hands back.
-/
namespace Go.Proofs.YthhhgakeeekalaaDoor
open Go.RowKit WM TR

theorem places_is (k n m : Int) (A : Option Addr) (len c : Nat) (w : World) :
    Calls Tryd.prog 45 #[.agg #[.int .i64 k, .int .i64 n, .int .i64 m, .slice A len c]] w fun e w' => e = .returned (.func (.func 78) #[] #[.pointer (some ⟨w.heap.size, 0, none⟩)]) ∧ w' = w.alloc (.cells #[.int .i64 k, .int .i64 n, .int .i64 m, .slice A len c] 25) := by
  go_enter Tryd.func45, Tryd.ntmps45
  go_wp2
  go_ret
  exact ⟨rfl, rfl⟩

set_option maxRecDepth 100000 in
set_option maxHeartbeats 4000000 in
theorem iter_is (n d B : Nat) (t : T) (A : Option Addr) (c : Nat) (Tr : Nat → Prop) (w : World) (ht : Rep w Tr d t (nd t A c)) (hB : Blk w B 25 #[.int .i64 t.k, .int .i64 t.n, .int .i64 t.m, .slice A t.kids.length c]) (hTr : ∀ b, Tr b → b < w.heap.size)
    (hsz : size t ≤ 1000000) :
    SeqT Fence.wide n Tryd.prog 78 #[.pointer (some ⟨B, 0, none⟩)] (fun b => Tr b ∨ b = B) AtT (walk [] t) w := by
  intro l J Jx S W hW hS hJ hJx hY h0
  refine callsIn_wide.2 ?_
  simp only [List.append_toArray, List.nil_append, List.cons_append]
  have ht2 : Rep W Tr d t (nd t A c) := ht.later hTr hW
  have hB2 := hB.below hW hB.lt
  have hBS : ¬ S B := fun h => (hS B h).2 (.inr rfl)
  obtain ⟨W3, hW3⟩ : ∃ W3, W3 = ((W.alloc (.cells #[.func (.yield l) #[] #[]] 106)).alloc (.cells #[.slice none 0 0] 22)).alloc (.cells #[.func (.func 79) #[] #[.pointer (some ⟨W.heap.size, 0, none⟩), .pointer (some ⟨W.heap.size + 1, 0, none⟩), .pointer (some ⟨W.heap.size + 1 + 1, 0, none⟩)]] 34) := ⟨_, rfl⟩
  have hz3 : W3.heap.size = W.heap.size + 3 := by rw [hW3, size_alloc, size_alloc, size_alloc]
  have hb3 : Below W.heap.size W W3 := by rw [hW3]; exact ba (ba (below_new _ _) _) _
  have hblk1 : Blk W3 W.heap.size 106 #[.func (.yield l) #[] #[]] := by rw [hW3]; exact ((Blk.new W _ _).alloc _).alloc _
  have hblk2 : Blk W3 (W.heap.size + 1) 22 #[.slice none 0 0] := by rw [hW3]; exact (Blk.new_at _ _ (by rw [size_alloc]) rfl).alloc _
  have hblk3 : Blk W3 (W.heap.size + 2) 34 #[.func (.func 79) #[] #[.pointer (some ⟨W.heap.size, 0, none⟩), .pointer (some ⟨W.heap.size + 1, 0, none⟩), .pointer (some ⟨W.heap.size + 2, 0, none⟩)]] := by rw [hW3]; exact Blk.new_at _ _ (by rw [size_alloc, size_alloc]) rfl
  have hst : VSt W.heap.size l S W S W3 (.slice none 0 0) [] :=
    ⟨Mov.of_below hb3, hblk1.cell 0, hblk2, hblk3.cell 0, World.ownsRow_nil _ _ _ _, fun b hb => .inl (hS b hb).1, fun g hg => (by cases hg), by omega⟩
  have hj : J [] S W3 := hJ _ _ _ _ h0 ⟨hb3.os, hb3.tape, hb3.output, hb3.size, fun b hb => hb3.block b (hS b hb).1⟩
  have hdt := depth_le_size t
  have HV := Lib.hid (visit_is l W.heap.size (n - 1) (walk [] t) J Jx S W rfl (fun b hb => (hS b hb).1) hJ hJx Tr (fun b hb => ⟨Nat.lt_of_lt_of_le (hTr b hb) hW.size, fun h => (hS b h).2 (.inl hb)⟩) hY d t A c S W3 (.slice none 0 0) [] [] ht2 hst hj (List.prefix_refl _) hsz (by simp only [List.length_nil]; omega))
  have HST := Lib.hid hst
  have HX : Hid (∀ i y, [Value.int .i64 t.k, .int .i64 t.n, .int .i64 t.m, .slice A t.kids.length c][i]? = some y → W3.cell? ⟨B, 0 + i, none⟩ = some y) := Lib.hid (fun i y hy => by
    rw [(hB2.below hb3 hB2.lt).cell (0 + i), Nat.zero_add]; simpa using hy)
  have HW3 := Lib.hid hW3
  clear hW3 hY hS hJ hJx h0 ht ht2 hB hB2 hBS hst hj hblk1 hblk2 hblk3 hW hb3 hTr
  go_enter Tryd.func78, Tryd.ntmps78
  go_wp2_with (first
    | (refine wpList_load_mid rfl 25 (.tmp 1) rfl B 0 rfl [.int .i64 t.k, .int .i64 t.n, .int .i64 t.m, .slice A t.kids.length c] _ (by rw [← HW3.out]; exact HX.out) Tryd.underlying25 rfl (by rw [size_node]; rfl) ?_)
    | (go_at_call 79; rw [← HW3.out]; refine HV.out.mono ?_; rintro e W4 ⟨S4, v4, hm4, (⟨rfl, hj4, hst4⟩ | ⟨rfl, q, hq, hx4⟩)⟩))
  · go_end0
    exact ⟨⟨_, rfl⟩, S4, HST.out.mov_of rfl hm4, .inl (by simpa using hj4)⟩
  · go_end0
    exact ⟨⟨_, rfl⟩, S4, HST.out.mov_of rfl hm4, .inr ⟨q, hq, by simpa using hx4⟩⟩
end Go.Proofs.YthhhgakeeekalaaDoor
