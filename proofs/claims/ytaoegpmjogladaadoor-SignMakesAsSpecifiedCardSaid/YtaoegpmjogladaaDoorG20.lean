/-
  The examples of the sanity check, computed by the kernel.
-/
import Derived.Test.YtaoegpmjogladaaDoorG19
import Derived.KernelRfl
set_option linter.unusedVariables false
namespace Go.Proofs.YtaoegpmjogladaaDoor
open Go Go.RowKit WM

def seed5 : List UInt8 := List.replicate 32 5
def seed5N : List Nat := List.replicate 32 5
theorem seed5_N : nat seed5 = seed5N := by kernel_rfl
def p5 : List UInt8 := [126, 214, 164, 69, 65, 247, 7, 203, 204, 240, 150, 81, 180, 250, 150, 19]
def dm5 : List Nat := [3, 3, 2, 1, 3, 1, 0, 0, 3, 3, 2, 1, 0, 0, 3, 2, 0, 0, 3, 0, 2, 2, 1, 2, 1, 2, 1, 0, 0, 1, 2, 1, 3, 2, 3, 0, 1, 1, 1, 0, 1, 3, 0, 1, 0, 0, 1, 2, 0, 2, 2, 2, 2, 3, 0, 2, 1, 2, 1, 2, 1, 2, 3, 3, 1, 2, 1, 0]
def dn5 : List Nat := [2, 0, 0, 2, 3, 3, 3, 0, 0, 0, 0, 0, 3, 3, 0, 3, 2, 1, 0, 2, 2, 0, 0, 0, 3, 0, 0, 3, 0, 0, 0, 3, 3, 3, 2, 2, 0, 0, 1, 1, 2, 2, 0, 2, 3, 3, 3, 1, 0, 2, 0, 2, 2, 0, 1, 1, 2, 1, 3, 1, 3, 2, 3, 1, 1, 2, 1, 2]
def getN : List Nat → Nat → Nat
  | [], _ => 0
  | x :: _, 0 => x
  | _ :: l, n + 1 => getN l n
theorem getN_D : ∀ (l : List Nat) (n : Nat), getN l n = l.getD n 0
  | [], _ => rfl
  | _ :: _, 0 => rfl
  | _ :: l, n + 1 => by rw [getN, getN_D l n]; rfl
theorem leaf0_N : leafN (catN (fun c => advN 0 c 0 3 (startN seed5N 0 c)) 0 68) = [23, 147, 42, 214, 174, 236, 43, 37, 12, 10, 19, 13, 94, 80, 95, 70] := by kernel_rfl
theorem leaf1_N : leafN (catN (fun c => advN 1 c 0 3 (startN seed5N 1 c)) 0 68) = [157, 115, 118, 135, 142, 193, 98, 105, 34, 15, 91, 44, 35, 38, 196, 164] := by kernel_rfl
theorem bad_N : leafN (catN (fun c => advN 1 c (getN dn5 c) (Nat.sub 3 (getN dn5 c)) (advN 1 c 0 (getN dm5 c) (startN seed5N 1 c))) 0 68) = [8, 222, 70, 229, 0, 226, 104, 94, 106, 62, 75, 188, 161, 241, 183, 195] := by kernel_rfl
theorem root_N : ofN 10 [[23, 147, 42, 214, 174, 236, 43, 37, 12, 10, 19, 13, 94, 80, 95, 70], [157, 115, 118, 135, 142, 193, 98, 105, 34, 15, 91, 44, 35, 38, 196, 164]] = [126, 214, 164, 69, 65, 247, 7, 203, 204, 240, 150, 81, 180, 250, 150, 19] := by kernel_rfl
theorem badroot_N : ofN 10 [[23, 147, 42, 214, 174, 236, 43, 37, 12, 10, 19, 13, 94, 80, 95, 70], [8, 222, 70, 229, 0, 226, 104, 94, 106, 62, 75, 188, 161, 241, 183, 195]] = [168, 201, 101, 241, 240, 117, 65, 131, 96, 41, 115, 62, 238, 177, 51, 37] := by kernel_rfl
theorem dgm_N : ofN 12 [[126, 214, 164, 69, 65, 247, 7, 203, 204, 240, 150, 81, 180, 250, 150, 19], encN 1, [109]] = [249, 208, 249, 14, 12, 166, 100, 25, 236, 84, 113, 6, 42, 178, 102, 111] := by kernel_rfl
theorem dgn_N : ofN 12 [[126, 214, 164, 69, 65, 247, 7, 203, 204, 240, 150, 81, 180, 250, 150, 19], encN 1, [110]] = [130, 252, 0, 243, 146, 128, 195, 3, 250, 5, 162, 253, 34, 133, 157, 237] := by kernel_rfl
theorem dg0_N : ofN 12 [[126, 214, 164, 69, 65, 247, 7, 203, 204, 240, 150, 81, 180, 250, 150, 19], encN 0, [109]] = [103, 10, 102, 124, 63, 183, 159, 17, 23, 109, 93, 91, 249, 111, 131, 95] := by kernel_rfl

theorem node_N (k : Nat) (hk : k < 65536) : nat (nodeB seed5 0 k) = leafN (catN (fun c => advN k c 0 3 (startN seed5N k c)) 0 68) := by
  refine leaf_N _ (topB_16 _ _) _ (fun c hc => ?_)
  show nat (topB seed5 k c) = _
  unfold topB
  rw [adv_N k c 0 hk (by omega) 3 _ (startB_16 _ _ _) (by omega), start_N seed5 k c (by decide) hk (by omega), seed5_N]
theorem root5 : rootB seed5 1 = p5 := by
  refine nat_inj ?_
  show nat (overB (nodeB seed5 0 0) (nodeB seed5 0 1)) = _
  rw [over_N _ _ (nodeB_16 _ _ _) (nodeB_16 _ _ _), node_N 0 (by omega), node_N 1 (by omega), leaf0_N, leaf1_N, root_N]
  rfl
theorem dgm5 : digestB p5 1 (str [109]) = [249, 208, 249, 14, 12, 166, 100, 25, 236, 84, 113, 6, 42, 178, 102, 111] := by
  refine nat_inj ?_
  have := digest_N p5 1 [109] rfl (by omega) (by decide)
  rw [show ((1 : Nat) : Int) = 1 from rfl] at this
  rw [this]
  exact dgm_N
theorem dgn5 : digestB p5 1 (str [110]) = [130, 252, 0, 243, 146, 128, 195, 3, 250, 5, 162, 253, 34, 133, 157, 237] := by
  refine nat_inj ?_
  have := digest_N p5 1 [110] rfl (by omega) (by decide)
  rw [show ((1 : Nat) : Int) = 1 from rfl] at this
  rw [this]
  exact dgn_N
theorem dg05 : digestB p5 0 (str [109]) = [103, 10, 102, 124, 63, 183, 159, 17, 23, 109, 93, 91, 249, 111, 131, 95] := by
  refine nat_inj ?_
  have := digest_N p5 0 [109] rfl (by omega) (by decide)
  rw [show ((0 : Nat) : Int) = 0 from rfl] at this
  rw [this]
  exact dg0_N
theorem dgs_differ : digestB p5 1 (str [109]) ≠ digestB p5 0 (str [109]) := by
  rw [dgm5, dg05]; decide
theorem dm5_is : digitsB (digestB p5 1 (str [109])) = dm5 := by rw [dgm5]; kernel_rfl
theorem dn5_is : digitsB (digestB p5 1 (str [110])) = dn5 := by rw [dgn5]; kernel_rfl
theorem dn3 (c : Nat) : getN dn5 c ≤ 3 := by rw [getN_D, ← dn5_is]; exact digitsB_getD _ _
theorem dm3 (c : Nat) : getN dm5 c ≤ 3 := by rw [getN_D, ← dm5_is]; exact digitsB_getD _ _
theorem bad5 : nat (leafB (endB (restB seed5 1 1 dm5) 1 dn5)) = [8, 222, 70, 229, 0, 226, 104, 94, 106, 62, 75, 188, 161, 241, 183, 195] := by
  rw [← bad_N]
  have hl : (restB seed5 1 1 dm5).length = 69 * 16 := restB_len _ _ _ _
  refine leaf_N _ (fun c => ?_) _ (fun c hc => ?_)
  · by_cases hc : c < 68
    · exact advB_16 _ _ _ _ _ (by rw [part_value _ _ _ _ _ hc]; exact valueB_len _ _ _ _)
    · unfold endB
      rw [List.getD_eq_getElem?_getD, List.getElem?_eq_none (show dn5.length ≤ c by have : dn5.length = 68 := rfl; omega)]
      exact stepB_16 _ _ _ _
  · have h1 := dn3 c
    have h2 := dm3 c
    unfold endB
    rw [part_value _ _ _ _ _ hc, ← getN_D]
    unfold valueB
    rw [← getN_D, show ((1 : Nat) : Int) = ((1 : Nat) : Int) from rfl, adv_N 1 c _ (by omega) (by omega) _ _ (advB_16 _ _ _ _ _ (startB_16 _ _ _)) (by omega), adv_N 1 c 0 (by omega) (by omega) _ _ (startB_16 _ _ _) (by omega),
      start_N seed5 1 c (by decide) (by omega) (by omega), seed5_N]
    rfl
theorem back_bad : backB p5 1 1 (str [110]) (restB seed5 1 1 dm5) ≠ p5 := by
  intro h
  have e : backB p5 1 1 (str [110]) (restB seed5 1 1 dm5) = overB (nodeB seed5 0 0) (leafB (endB (restB seed5 1 1 dm5) 1 dn5)) := by
    unfold backB
    rw [show ((1 : Nat) : Int) = 1 from rfl, dn5_is]
    show parentB _ (partB _ (68 + 0)) (1 >>> 0) = _
    rw [part_path seed5 1 1 dm5 0 (by omega)]
    rfl
  rw [e] at h
  have h2 := congrArg nat h
  rw [over_N _ _ (nodeB_16 _ _ _) (leafB_16 _), node_N 0 (by omega), leaf0_N, bad5, badroot_N] at h2
  exact absurd h2 (by decide)
theorem back_good : backB p5 1 1 (str [109]) (restB seed5 1 1 dm5) = p5 := by
  have := back_sig seed5 1 1 (str [109]) (by omega) (by omega)
  rw [root5, show ((1 : Nat) : Int) = 1 from rfl, dm5_is] at this
  exact this
theorem sig5 : sigB seed5 1 1 (str [109]) = enc 1 ++ restB seed5 1 1 dm5 := by
  have := sigB_rest seed5 1 1 (str [109])
  rw [root5, show ((1 : Nat) : Int) = 1 from rfl, dm5_is] at this
  exact this
theorem zero_digits : digitsB (List.replicate 16 0) = List.replicate 64 0 ++ [3, 0, 0, 0] := by kernel_rfl
end Go.Proofs.YtaoegpmjogladaaDoor
