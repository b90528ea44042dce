/- Texts joined. -/
import Derived.Test.YtkkenbalpnmfmaaDoorJ29
import Derived.Test.YtkkenbalpnmfmaaDoorJ30
import Derived.Test.YtkkenbalpnmfmaaDoorJ10
set_option linter.unusedVariables false
namespace Go.Proofs.YtkkenbalpnmfmaaDoor.TY
open TR

theorem sf_low (k:Int) (hk:k≠4):0≤sf k 1:=by
 by_cases h:k < 0∨30≤k
 ·have e:sf k 1 = 0:=by unfold sf; rw [shRow_out h]; rfl
  omega
 ·obtain ⟨j,rfl⟩:=Int.eq_ofNat_of_zero_le (show 0≤k by omega)
  have h2:(List.range 30).all (fun j=>decide ((j:Int) = 4) || decide (0≤sf (j:Nat) 1)) = true:=by decide +kernel
  have:=List.all_eq_true.1 h2 j (by simp; omega)
  simp only [Bool.or_eq_true,decide_eq_true_eq] at this
  rcases this with h3 | h3
  ·exact absurd h3 hk
  ·exact h3
structure NOk (x:T):Prop where
 n:x.k≠4→0≤x.n
 m:0≤x.m
 two:x.k = 9∨x.k = 15→x.kids.length = 2
 one:x.k = 10∨x.k = 7∨x.k = 19∨x.k = 20∨x.k = 24∨x.k = 22∨x.k = 14∨x.k = 16→x.kids.length = 1
 some_:x.k = 17∨x.k = 18→1≤x.kids.length
 par:x.k = 26→x.n≤(x.kids.length:Int) - 1
 len:x.kids.length≤10
theorem sf_kids (k:Int):sf k 5≤8∧sf k 7≤2:=by
 have:=row_bounds k
 omega
theorem nok_of {x:T} (h:Fit x):NOk x:=by
 obtain ⟨⟨h1,h2,h3,h4⟩,h5,h6⟩:=h.here.1
 have h7:=sf_kids x.k
 unfold listed at h5 h6
 refine ⟨fun hk=>?_,h3,fun hk=>?_,fun hk=>?_,fun hk=>?_,fun hk=>?_,by omega⟩
 ·have:=sf_low x.k hk
  omega
 ·rcases hk with hk | hk <;> rw [hk] at h5 h6
  ·have:=row9; omega
  ·have:=row15; omega
 ·rcases hk with hk | hk | hk | hk | hk | hk | hk | hk <;> rw [hk] at h5 h6
  ·have:=row10; omega
  ·have:=row7; omega
  ·have:=row19; omega
  ·have:=row20; omega
  ·have:=row24; omega
  ·have:=row22; omega
  ·have:=row14; omega
  ·have:=row16; omega
 ·rcases hk with hk | hk <;> rw [hk] at h5 h6
  ·have:=row17; omega
  ·have:=row18; omega
 ·have e:TR.params x = x.n:=by unfold TR.params; rw [if_pos hk]
  rw [e] at h5
  rw [hk] at h5 h6
  have:=row26
  omega
end Go.Proofs.YtkkenbalpnmfmaaDoor.TY
