/-
  A region that draws its order, where two or three operations may come up. No condition.
-/
import Derived.Test.YtelhdkidnhfnbabGreatDoorRegion
namespace Go.Proofs.YtelhdkidnhfnbabGreatDoor
open Go.RowKit

section
variable {P : Program} {ops : Array Oper} {Q : Exit → Act → World → Prop} {D : Nat → Prop}
theorem up_two {i j : Nat} {oi oj : Oper} {fuel : Nat} {listed : Array Bool} {a : Act} {w : World} (hi : ops[i]? = some oi) (hj : ops[j]? = some oj) (hr : Region.ready .any ops listed = [i, j])
    (h : ∀ K : Act → World → Prop, Shut (∀ a' w', Kept D w w' → Up P ops Q D fuel (listed.setIfInBounds i true) a' w' → K a' w') →
      if Region.wanted oi (yielded ops a.tmps) = true then Oper.wp P oi a w K Q else K (a.put oi.dst undef) w)
    (h' : ∀ K : Act → World → Prop, Shut (∀ a' w', Kept D w w' → Up P ops Q D fuel (listed.setIfInBounds j true) a' w' → K a' w') →
      if Region.wanted oj (yielded ops a.tmps) = true then Oper.wp P oj a w K Q else K (a.put oj.dst undef) w) : Up P ops Q D (fuel + 1) listed a w := by
  refine wpAnyH_ready (rs := [i, j]) hr (by simp) (AllReadyH.cons hi (fun K hK => h K (fun a' w' hb hu => hK.out a' w' hb fun _ => ?_)) (AllReadyH.cons hj (fun K hK => h' K (fun a' w' hb hu => hK.out a' w' hb fun _ => ?_)) AllReadyH.nil))
  · exact held_mono (fun W hW => hb.trans hW) _ _ _ _ hu
  · exact held_mono (fun W hW => hb.trans hW) _ _ _ _ hu
theorem up_three {i j k : Nat} {oi oj ok : Oper} {fuel : Nat} {listed : Array Bool} {a : Act} {w : World} (hi : ops[i]? = some oi) (hj : ops[j]? = some oj) (hk : ops[k]? = some ok) (hr : Region.ready .any ops listed = [i, j, k])
    (h : ∀ K : Act → World → Prop, Shut (∀ a' w', Kept D w w' → Up P ops Q D fuel (listed.setIfInBounds i true) a' w' → K a' w') →
      if Region.wanted oi (yielded ops a.tmps) = true then Oper.wp P oi a w K Q else K (a.put oi.dst undef) w)
    (h' : ∀ K : Act → World → Prop, Shut (∀ a' w', Kept D w w' → Up P ops Q D fuel (listed.setIfInBounds j true) a' w' → K a' w') →
      if Region.wanted oj (yielded ops a.tmps) = true then Oper.wp P oj a w K Q else K (a.put oj.dst undef) w)
    (h'' : ∀ K : Act → World → Prop, Shut (∀ a' w', Kept D w w' → Up P ops Q D fuel (listed.setIfInBounds k true) a' w' → K a' w') →
      if Region.wanted ok (yielded ops a.tmps) = true then Oper.wp P ok a w K Q else K (a.put ok.dst undef) w) : Up P ops Q D (fuel + 1) listed a w := by
  refine wpAnyH_ready (rs := [i, j, k]) hr (by simp) (AllReadyH.cons hi (fun K hK => h K (fun a' w' hb hu => hK.out a' w' hb fun _ => ?_)) (AllReadyH.cons hj (fun K hK => h' K (fun a' w' hb hu => hK.out a' w' hb fun _ => ?_)) (AllReadyH.cons hk (fun K hK => h'' K (fun a' w' hb hu => hK.out a' w' hb fun _ => ?_)) AllReadyH.nil)))
  · exact held_mono (fun W hW => hb.trans hW) _ _ _ _ hu
  · exact held_mono (fun W hW => hb.trans hW) _ _ _ _ hu
  · exact held_mono (fun W hW => hb.trans hW) _ _ _ _ hu
end
end Go.Proofs.YtelhdkidnhfnbabGreatDoor
