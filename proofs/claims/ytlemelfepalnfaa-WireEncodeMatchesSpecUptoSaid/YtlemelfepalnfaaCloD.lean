/-
  THE CLOSURE that decodes one digest, by its contract.
-/
import Derived.Test.YtlemelfepalnfaaClo
import Derived.Laws.CopyOwn
namespace Go.Proofs.Ytlemelfepalnfaa
open Go.RowKit WM

theorem wpList_copy_new {P : Program} {w : World} {ops : Array Oper} {rest : List Oper} {o : Oper} {a : Act} {Q : Exit → Act → World → Prop} (hgd : o.guard = none) (d s : Operand) (dT sT : TypeId)
    (ho : o.op = .call { callee := .builtin .copy, args := #[d, s], argTypes := #[dT, sT] }) (elem : TypeId) (hu : P.underlying dT = some (.slice elem)) (hsz : (P.info? elem).map (·.size) = some 1)
    (zs : Array Value) (t : TypeId) (k dCap : Nat) (b off : Nat) (sLen sCap : Nat) (hd : a.eval d = .slice (some ⟨w.heap.size, 0, none⟩) k dCap) (hs : a.eval s = .slice (some ⟨b, off, none⟩) sLen sCap) (hzs : zs.size = k)
    (cs : List Value) (hn : cs.length = k) (hle : k ≤ sLen) (hb : b < w.heap.size) (hsrc : ∀ j u, cs[j]? = some u → w.cell? ⟨b, off + j, none⟩ = some u) (h1 : ∀ u ∈ cs, u.oneCell' = true)
    (h : wpList P ops Q rest (a.put o.dst (goInt k)) (w.alloc (.cells cs.toArray t))) : wpList P ops Q (o :: rest) a (w.alloc (.cells zs t)) := by
  refine wpList_copy_own hgd d s dT sT ho elem hu hsz w.heap.size 0 k dCap ⟨b, off, none⟩ sLen sCap hd hs zs t (heap_alloc_last w _) cs (by rw [hn]; exact (Nat.min_eq_right hle).symm) ?_ (by omega) h1 ?_
  · intro j u hu
    rw [Addr.add_lit, World.cell?_alloc_lt _ _ _ (by simpa using hb)]
    exact hsrc j u hu
  · rw [World.setRow_alloc_new, hn]
    have e : (zs.toList.take 0 ++ (cs ++ zs.toList.drop (0 + k))).toArray = cs.toArray := by
      rw [List.drop_of_length_le (by simp; omega)]; simp
    rw [e]
    exact h

theorem fold_set : ∀ (cs : List Value) (pre : List Value) (zs : List Value), zs.length = cs.length →
    (cs.zipIdx pre.length).foldl (fun (a : Array Value) x => a.setIfInBounds x.snd x.fst) (pre ++ zs).toArray = (pre ++ cs).toArray := by
  intro cs
  induction cs with
  | nil => intro pre zs h; have : zs = [] := List.eq_nil_of_length_eq_zero (by simpa using h); subst this; rfl
  | cons c cs ih =>
    intro pre zs h
    match zs, h with
    | z :: zs, h =>
      rw [List.zipIdx_cons, List.foldl_cons]
      have e : (pre ++ z :: zs).toArray.setIfInBounds pre.length c = ((pre ++ [c]) ++ zs).toArray := by simp
      have h2 := ih (pre ++ [c]) zs (by simpa using h)
      rw [List.length_append] at h2
      simp only [e]
      simpa using h2
theorem fold_cells (cs : List Value) (h : cs.length = 16) (a0 a1 a2 a3 a4 a5 a6 a7 a8 a9 b0 b1 b2 b3 b4 b5 : Value) :
    cs.zipIdx.foldl (fun (a : Array Value) x => a.setIfInBounds x.snd x.fst) #[a0, a1, a2, a3, a4, a5, a6, a7, a8, a9, b0, b1, b2, b3, b4, b5] = cs.toArray :=
  fold_set cs [] [a0, a1, a2, a3, a4, a5, a6, a7, a8, a9, b0, b1, b2, b3, b4, b5] (by simp [h])
theorem cells_new2 (w : World) (o : Obj) (cs : List Value) (t : TypeId) : ∀ j u, cs[j]? = some u → ((w.alloc o).alloc (.cells cs.toArray t)).cell? ((⟨w.heap.size + 1, 0, none⟩ : Addr).add j) = some u := by
  have := cells_new (w.alloc o) cs t
  rwa [World.size_alloc] at this

theorem Try.info5s : (Try.prog.info? 5).map (·.size) = some 1 := by kernel_rfl
theorem Try.info57f : (Try.prog.info? 57).map (fun i => (i.zero, i.size, i.bytes)) = some (some (.agg #[.int .u8 0, .int .u8 0, .int .u8 0, .int .u8 0, .int .u8 0, .int .u8 0, .int .u8 0, .int .u8 0, .int .u8 0, .int .u8 0, .int .u8 0, .int .u8 0, .int .u8 0, .int .u8 0, .int .u8 0, .int .u8 0]), 16, 16) := by kernel_rfl

set_option maxHeartbeats 400000 in
theorem clo45 (B gl : Nat) (A : Option Addr) (c j : Nat) (l : List UInt8) (v : Value) (xs : List Value) (w : World) (ha : Reads w w.heap.size 1 A l.length (bs l)) (h16 : 16 ≤ l.length) (hl : l.length ≤ 1000000)
    (hv : w.heap[gl]? = some (.cells #[v] 24 (0, 0))) (hown : w.ownsRow B 57 16 v j xs) (hj : j ≤ 1000000) (hBg : B ≤ gl) :
    Calls Try.prog 45 #[.slice A l.length c, .pointer (some ⟨gl, 0, none⟩)] w (CPost 24 57 16 B gl bs j xs w (gDig l)) := by
  have hcell := cell_of_one hv
  have hlt := lt_of_block hv
  obtain ⟨b, off, rfl, hb, hc⟩ := ha.lit (by omega)
  obtain ⟨cs, hcs⟩ : ∃ cs, cs = bs (l.take 16) := ⟨_, rfl⟩
  have hcl : cs.length = 16 := by rw [hcs, bs_length, List.length_take]; omega
  have hsrc : ∀ j u, cs[j]? = some u → w.cell? ⟨b, off + j, none⟩ = some u := fun j u hu => by
    rw [hcs, ← bs_take, List.getElem?_take] at hu
    split at hu
    · exact hc j u hu
    · cases hu
  have hone : ∀ u ∈ cs, u.oneCell' = true := by rw [hcs]; exact bs_one _
  have HCL := Lib.hid hcl
  have hcl1 : cs.length ≤ 16 := by omega
  have hcl2 : 16 ≤ cs.length := by omega
  have HS := Lib.hid hsrc
  have H1 := Lib.hid hone
  have HCS := Lib.hid hcs
  have hsl := slice57 w.heap.size
  have hr : (w.alloc (.cells cs.toArray 57)).rangeAt w.heap.size 0 cs := fun j u hu => by
    have := cells_new w cs 57 j u hu
    rwa [Addr.add_lit] at this
  have HR := Lib.hid hr
  have hfold := fold_cells cs hcl (.int .u8 0) (.int .u8 0) (.int .u8 0) (.int .u8 0) (.int .u8 0) (.int .u8 0) (.int .u8 0) (.int .u8 0) (.int .u8 0) (.int .u8 0) (.int .u8 0) (.int .u8 0) (.int .u8 0) (.int .u8 0) (.int .u8 0) (.int .u8 0)
  have hv2 := Blk.alloc hv (.cells cs.toArray 57)
  have HO := Lib.hid (hown.alloc (.cells cs.toArray 57))
  have KG := Lib.hid (fun (w1 : World) (o : Obj) (v1 : Value) (m : Nat) (ys : List Value) (hg : ((w.alloc (.cells cs.toArray 57)).alloc o).grownBy w1 v.ownBlock) (h1 : w1.ownsRow B 57 16 v1 m ys) => keep_gathered hv2 (hown.alloc _) (by decide) hBg hg h1)
  obtain ⟨i0, hi, hz0, hz1, hz2⟩ := info_parts Try.info57f
  have HB0 := Lib.hid ((Below.refl B w).alloc (show B ≤ w.heap.size by omega) (.cells cs.toArray 57))
  clear ha hc hcs hcl hsrc hone hr hv2 hv hown
  go_enter Try.func45, Try.ntmps45
  go_wp2_with (first
    | (with_reducible refine wpList_copy_new rfl (.tmp 7) (.tmp 8) 28 28 rfl 5 Try.underlying28 Try.info5s _ 57 16 16 b off l.length c rfl rfl rfl cs HCL.out h16 hb HS.out H1.out ?_)
    | (with_reducible refine wpList_load_mid rfl 57 (.tmp 5) rfl w.heap.size 0 rfl cs _ HR.out Try.arr57 rfl (by rw [HCL.out]; exact Try.info57) ?_)
    | (at_builtin; refine wpList_append_own _ rfl (.tmp 10) (.tmp 12) 24 rfl B 57 i0 _ 16 16 Try.underlying24 hi hz0 hz1 hz2 rfl (by decide) v j xs rfl (HO.out.alloc _) ⟨w.heap.size + 1, 0, none⟩ 1 1 cs rfl (by rw [HCL.out]) (cells_new2 _ _ _ _) H1.out (len_le (by omega)) (by omega) (by simp; omega) ?_; intro v1 w1 hown1 hgrow1 _; obtain ⟨A1, ca1, rfl, _⟩ := own_form hown1; obtain ⟨hk1, hk2, hk3, hk4, hk5, hk6⟩ := KG.out w1 _ _ _ _ hgrow1 hown1; have K4 := Lib.hid hk4; have K5 := Lib.hid hk5; have K6 := Lib.hid hk6; clear hown1 hgrow1 hk3 hk4 hk5 hk6))
  go_ret2
  exact ⟨rfl, HB0.out.trans K6.out, _, K4.out, by have := K5.out; rwa [HCS.out] at this⟩
end Go.Proofs.Ytlemelfepalnfaa
