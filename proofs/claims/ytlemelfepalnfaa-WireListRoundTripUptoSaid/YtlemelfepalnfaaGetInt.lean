/-
  wire.GetInt, whole: for every byte sequence it answers what P1.2 says; getLength and GetBytes.
-/
import Derived.Test.YtlemelfepalnfaaGet
namespace Go.Proofs.Ytlemelfepalnfaa
open Go.RowKit WM

theorem head_take (t : List UInt8) (k : Nat) (hk : 0 < k) : (t.take k).head? = t.head? := by
  cases t with
  | nil => simp
  | cons a t => cases k with
    | zero => omega
    | succ k => rfl

theorem getInt (B : Nat) (A : Option Addr) (c : Nat) (l : List UInt8) (w : World) (ha : Reads w B 1 A l.length (bs l)) (hlc : l.length ≤ c) (hl : l.length ≤ 140737488355328) :
    Calls Try.prog 24 #[.slice A l.length c] w fun e w' => e = .returned (dInt (gInt l)) ∧ w = w' := by
  match l, ha, hlc, hl with
  | [], _, _, _ => exact getInt_nil A c w
  | x :: t, ha, hlc, hl =>
    obtain ⟨b, off, rfl, _, hcell⟩ := ha.lit (by simp)
    have hc0 : w.cell? ⟨b, off + 0, none⟩ = some (.int .u8 (x.toNat : Int)) := hcell 0 _ rfl
    rw [Nat.add_zero] at hc0
    have hx2 := x.toNat_lt
    have hn : 0 < (x :: t).length := by simp
    have hlen : (x :: t).length - 1 = t.length := by simp
    have hct : ∀ j u, (bs t)[j]? = some u → w.cell? ⟨b, off + 1 + j, none⟩ = some u := by
      intro j u hu
      have := hcell (j + 1) u (by rw [bs_cons, List.getElem?_cons_succ]; exact hu)
      rwa [show off + (j + 1) = off + 1 + j by omega] at this
    by_cases hbig : 128 ≤ x.toNat
    · have hk : kOf x = x.toNat - 128 := by unfold kOf; rw [if_pos hbig]
      have hu : ∀ l, unm x l = l := fun l => by unfold unm; rw [if_pos hbig]
      have hs : ∀ m, sgn x m = (m : Int) := fun m => by unfold sgn; rw [if_pos hbig]
      by_cases h8 : 136 < x.toNat
      · have hg : gInt (x :: t) = .form := by simp only [gInt]; rw [if_pos (by omega)]
        rw [hg]
        exact getInt_outP b off _ c _ w h8 hx2 hn hl hc0
      by_cases hsh : t.length < kOf x
      · have hg : gInt (x :: t) = .more := by simp only [gInt]; rw [if_neg (by omega), if_pos hsh]
        rw [hg]
        exact getInt_shortP b off _ c _ w hbig (by omega) hn hl hlc (by omega) hc0
      by_cases hk0 : kOf x = 0
      · have hx128 : x.toNat = 128 := by omega
        have hg : gInt (x :: t) = .ok 0 1 := by
          simp only [gInt, hk0, hu, hs, List.take_zero]
          rw [if_neg (by omega), if_neg (by omega), if_neg (by simp), if_neg (by simp [val])]
          rfl
        rw [hg]
        rw [hx128] at hc0
        exact getInt_oneP b off _ c w hn hl hlc hc0
      have hlt : (t.take (kOf x)).length = kOf x := by rw [List.length_take]; omega
      by_cases hz : t.head? = some 0
      · have hg : gInt (x :: t) = .form := by
          simp only [gInt, hu]
          rw [if_neg (by omega), if_neg hsh, if_pos (by rw [head_take _ _ (by omega)]; exact hz)]
        rw [hg]
        have hd := hct 0 (.int .u8 0) (by cases t with | nil => simp at hz | cons a t => simp at hz; subst hz; rfl)
        exact getInt_leadP b off _ c _ w hbig (by omega) (by omega) hn hl hlc (by omega) hc0 (by simpa using hd)
      · have hg : gInt (x :: t) = fits (val (t.take (kOf x))) (.ok (val (t.take (kOf x)) : Int) (kOf x + 1)) := by
          simp only [gInt, hu, hs]
          rw [if_neg (by omega), if_neg hsh, if_neg (by rw [head_take _ _ (by omega)]; exact hz)]
          rfl
        rw [hg]
        have := getInt_loopP b off _ c _ (t.take (kOf x)) (t.take (kOf x)) w hbig (by omega) (by omega) hn hl hlc (by omega) hc0 (by omega) (by simp)
          (fun j u hu => hct j u (by rw [← bs_take] at hu; rw [List.getElem?_take] at hu; split at hu; exact hu; cases hu))
          (fun z hz2 e => hz (by rw [head_take _ _ (by omega)] at hz2; rw [hz2]; congr 1; exact UInt8.toNat_inj.1 e))
        rwa [hlt] at this
    · have hk : kOf x = 127 - x.toNat := by unfold kOf; rw [if_neg hbig]
      have hu : ∀ l, unm x l = l.map flip := fun l => by unfold unm; rw [if_neg hbig]
      have hs : ∀ m, sgn x m = -1 - (m : Int) := fun m => by unfold sgn; rw [if_neg hbig]
      by_cases h8 : x.toNat < 119
      · have hg : gInt (x :: t) = .form := by simp only [gInt]; rw [if_pos (by omega)]
        rw [hg]
        exact getInt_outN b off _ c _ w h8 hx2 hn hl hc0
      by_cases hsh : t.length < kOf x
      · have hg : gInt (x :: t) = .more := by simp only [gInt]; rw [if_neg (by omega), if_pos hsh]
        rw [hg]
        exact getInt_shortN b off _ c _ w (by omega) (by omega) hn hl hlc (by omega) hc0
      by_cases hk0 : kOf x = 0
      · have hx128 : x.toNat = 127 := by omega
        have hg : gInt (x :: t) = .ok (-1) 1 := by
          simp only [gInt, hk0, hu, hs, List.take_zero]
          rw [if_neg (by omega), if_neg (by omega), if_neg (by simp), if_neg (by simp [val])]
          rfl
        rw [hg]
        rw [hx128] at hc0
        exact getInt_oneN b off _ c w hn hl hlc hc0
      have hlt : (t.take (kOf x)).length = kOf x := by rw [List.length_take]; omega
      have hfl : ∀ z : UInt8, flip z = 0 ↔ z.toNat = 255 := fun z => by
        rw [← UInt8.toNat_inj, flip_toNat]; have := z.toNat_lt; simp; omega
      by_cases hz : ∃ z, t.head? = some z ∧ z.toNat = 255
      · obtain ⟨z, hz1, hz2⟩ := hz
        have hg : gInt (x :: t) = .form := by
          simp only [gInt, hu]
          rw [if_neg (by omega), if_neg hsh, if_pos (by rw [List.head?_map, head_take _ _ (by omega), hz1]; simp [hfl, hz2])]
        rw [hg]
        have hd := hct 0 (.int .u8 255) (by cases t with | nil => simp at hz1 | cons a t => simp at hz1; subst hz1; rw [bs_cons, hz2]; rfl)
        exact getInt_leadN b off _ c _ w (by omega) (by omega) (by omega) hn hl hlc (by omega) hc0 (by simpa using hd)
      · have hg : gInt (x :: t) = fits (val ((t.take (kOf x)).map flip)) (.ok (-1 - (val ((t.take (kOf x)).map flip) : Int)) (kOf x + 1)) := by
          simp only [gInt, hu, hs]
          rw [if_neg (by omega), if_neg hsh, if_neg]
          · rfl
          · rw [List.head?_map, head_take _ _ (by omega)]
            intro e
            cases ht : t.head? with
            | none => rw [ht] at e; simp at e
            | some z => rw [ht] at e; simp at e; exact hz ⟨z, ht, (hfl z).1 e⟩
        rw [hg]
        have := getInt_loopN b off _ c _ (t.take (kOf x)) ((t.take (kOf x)).map flip) w (by omega) (by omega) (by omega) hn hl hlc (by omega) hc0 (by omega) rfl
          (fun j u hu => hct j u (by rw [← bs_take] at hu; rw [List.getElem?_take] at hu; split at hu; exact hu; cases hu))
          (fun z hz2 e => hz ⟨z, by rw [head_take _ _ (by omega)] at hz2; exact hz2, e⟩)
        rwa [hlt] at this

def dLen : Dec Nat → Value
  | .more => .tuple #[.int .i64 0, .int .i64 0, .int .i64 3]
  | .form => .tuple #[.int .i64 0, .int .i64 0, .int .i64 2]
  | .ok n u => .tuple #[.int .i64 (n : Int), .int .i64 (u : Int), .int .i64 0]

theorem getLen (B : Nat) (A : Option Addr) (c least : Nat) (l : List UInt8) (w : World) (ha : Reads w B 1 A l.length (bs l)) (hlc : l.length ≤ c) (hl : l.length ≤ 140737488355328) (h0 : 0 < least) (h1 : least ≤ 1000) :
    Calls Try.prog 40 #[.slice A l.length c, .int .i64 (least : Int)] w fun e w' => e = .returned (dLen (gLen least l)) ∧ w = w' := by
  have hc := getInt B A c l w ha hlc hl
  cases hg : gInt l with
  | more =>
    have hgl : gLen least l = .more := by unfold gLen; rw [hg]
    rw [hgl]
    rw [hg] at hc
    simp only [dInt] at hc
    have HC := Lib.hid hc
    clear hc ha hg hgl
    go_enter Try.func40, Try.ntmps40
    go_wp2_with (go_at_call 24; refine HC.out.mono ?_; rintro e w' ⟨rfl, rfl⟩)
    go_ret3
    exact ⟨rfl, rfl⟩
  | form =>
    have hgl : gLen least l = .form := by unfold gLen; rw [hg]
    rw [hgl]
    rw [hg] at hc
    simp only [dInt] at hc
    have HC := Lib.hid hc
    clear hc ha hg hgl
    go_enter Try.func40, Try.ntmps40
    go_wp2_with (go_at_call 24; refine HC.out.mono ?_; rintro e w' ⟨rfl, rfl⟩)
    go_ret3
    exact ⟨rfl, rfl⟩
  | ok n u =>
    obtain ⟨hr, t, he, hu⟩ := gInt_ok hg
    have hul : u ≤ l.length := by rw [he, hu, List.length_append]; omega
    have h9 := enc_len hr
    rw [← hu] at h9
    obtain ⟨hu1, hu9⟩ := h9
    obtain ⟨hr1, hr2⟩ := hr
    rw [hg] at hc
    simp only [dInt] at hc
    have HC := Lib.hid hc
    have HG := Lib.hid hg
    clear hc ha he hu hg
    by_cases hn : n < 0
    · have hgl : gLen least l = .form := by unfold gLen; rw [HG.out]; simp only []; rw [if_pos hn]
      rw [hgl]
      clear hgl
      go_enter Try.func40, Try.ntmps40
      go_wp2_with (go_at_call 24; refine HC.out.mono ?_; rintro e w' ⟨rfl, rfl⟩)
      go_ret3
      exact ⟨rfl, rfl⟩
    · obtain ⟨m, rfl⟩ := Int.eq_ofNat_of_zero_le (show 0 ≤ n by omega)
      by_cases hm : (l.length - u) / least < m
      · have hgl : gLen least l = .more := by unfold gLen; rw [HG.out]; simp only []; rw [if_neg hn, if_pos (by omega)]
        rw [hgl]
        have hq : ((l.length : Int) - (u : Int)) / (least : Int) < (m : Int) := by
          rw [show ((l.length : Int) - (u : Int)) = ((l.length - u : Nat) : Int) by omega]; omega
        clear hgl
        go_enter Try.func40, Try.ntmps40
        go_wp2_with (go_at_call 24; refine HC.out.mono ?_; rintro e w' ⟨rfl, rfl⟩)
        go_ret3
        exact ⟨rfl, rfl⟩
      · have hgl : gLen least l = .ok m u := by unfold gLen; rw [HG.out]; simp only []; rw [if_neg hn, if_neg (by omega)]; simp
        rw [hgl]
        have hq : ¬ ((l.length : Int) - (u : Int)) / (least : Int) < (m : Int) := by
          rw [show ((l.length : Int) - (u : Int)) = ((l.length - u : Nat) : Int) by omega]; omega
        clear hgl
        go_enter Try.func40, Try.ntmps40
        go_wp2_with (go_at_call 24; refine HC.out.mono ?_; rintro e w' ⟨rfl, rfl⟩)
        go_ret3
        exact ⟨rfl, rfl⟩
end Go.Proofs.Ytlemelfepalnfaa
