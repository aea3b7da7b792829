/-
  A region whose order Go leaves open, walked once: what yields the same in every later world is taken first; a call that makes memory comes up alone. No condition.
-/
import Derived.Test.YteffidhbcdkikaaMemB
import Derived.OrdersHeld
import Derived.Deep.RegionHeld
namespace Go.Proofs.Yteffidhbcdkikaa
open Go.RowKit

theorem at0 {α : Type} {x : α} {l : List α} : (List.toArray (x :: l))[0]? = some x := rfl
theorem atS {α : Type} {x y : α} {l : List α} {n : Nat} (h : (List.toArray l)[n]? = some y) : (List.toArray (x :: l))[n + 1]? = some y := by
  simpa using h

section
variable {P : Program} {ops : Array Oper} {Q : Exit → Act → World → Prop}

/-- Whatever order is picked from here on, while what stands now in memory stands. -/
def Up (P : Program) (ops : Array Oper) (Q : Exit → Act → World → Prop) (fuel : Nat) (listed : Array Bool) (a : Act) (w : World) : Prop :=
  wpAnyH P .any ops Q (fun W => Below w.heap.size w W) fuel listed a w

theorem held_mono {md : Region.Mode} {S S' : World → Prop} (h : ∀ w, S' w → S w) : ∀ (fuel : Nat) (listed : Array Bool) (a : Act) (w : World), wpAnyH P md ops Q S' fuel listed a w → wpAnyH P md ops Q S fuel listed a w
  | 0, _, _, _, hh => hh
  | fuel + 1, _, _, _, hh => ⟨hh.1, fun i hi => wpOp_mono (fun _ _ h' => ⟨h _ h'.1, held_mono h fuel _ _ _ h'.2⟩) (hh.2 i hi)⟩

theorem up_start {id : Nat} {a : Act} {w : World} (hm : P.follows .mixedOrders = true) (h : Up P ops Q ops.size (Array.replicate ops.size false) a w.drew) : (Code.region id ops true).wp P Q a w :=
  wp_region_held hm h

/-- What may be asked of an operation that is taken first, all in one. -/
def takeB (ops : Array Oper) (listed : Array Bool) (i : Nat) : Bool := Region.noSelect ops && Region.free .any ops listed i && (Region.ready .any ops listed).contains i

theorem up_take {i : Nat} {oi : Oper} {v : Value} {fuel : Nat} {listed : Array Bool} {a : Act} {w : World} (hi : ops[i]? = some oi) (hB : takeB ops listed i = true)
    (hQ : ∀ c a w, Q (.panic c) (a.put oi.dst v) w → Q (.panic c) a w) (hw : Region.wanted oi (yielded ops a.tmps) = true)
    (hy : ∀ W, Below w.heap.size w W → (execOp a.eval oi).run P W = .ok (.value v) W)
    (h : Up P ops Q fuel (listed.setIfInBounds i true) (a.put oi.dst v) w) : Up P ops Q (fuel + 1) listed a w := by
  unfold takeB at hB
  simp only [Bool.and_eq_true] at hB
  exact wpAnyH_take hi hB.1.1 hB.1.2 hB.2 hQ (.inl ⟨hw, hy⟩) (Below.refl _ _) h

/-- An operation whose guard says no. -/
theorem up_skip {i : Nat} {oi : Oper} {fuel : Nat} {listed : Array Bool} {a : Act} {w : World} (hi : ops[i]? = some oi) (hB : takeB ops listed i = true)
    (hQ : ∀ c a w, Q (.panic c) (a.put oi.dst undef) w → Q (.panic c) a w) (hw : Region.wanted oi (yielded ops a.tmps) = false)
    (h : Up P ops Q fuel (listed.setIfInBounds i true) (a.put oi.dst undef) w) : Up P ops Q (fuel + 1) listed a w := by
  unfold takeB at hB
  simp only [Bool.and_eq_true] at hB
  exact wpAnyH_take hi hB.1.1 hB.1.2 hB.2 hQ (.inr ⟨hw, rfl⟩) (Below.refl _ _) h

/-- An operation that comes up alone: a call, an allocation. -/
theorem up_one {i : Nat} {oi : Oper} {fuel : Nat} {listed : Array Bool} {a : Act} {w : World} (hi : ops[i]? = some oi) (hr : Region.ready .any ops listed = [i])
    (h : ∀ K : Act → World → Prop, Shut (∀ a' w', Below w.heap.size w w' → Up P ops Q fuel (listed.setIfInBounds i true) a' w' → K a' w') →
      if Region.wanted oi (yielded ops a.tmps) = true then Oper.wp P oi a w K Q else K (a.put oi.dst undef) w) : Up P ops Q (fuel + 1) listed a w := by
  refine wpAnyH_ready (rs := [i]) hr (by simp) (AllReadyH.cons hi (fun K hK => h K (fun a' w' hb hu => hK.out a' w' hb fun _ => ?_)) AllReadyH.nil)
  exact held_mono (fun W hW => hb.trans (hW.mono hb.size)) _ _ _ _ hu

theorem up_done {fuel : Nat} {listed : Array Bool} {a : Act} {w : World} (hr : Region.ready .any ops listed = []) (h : Q .normal a w) : Up P ops Q fuel listed a w := wpAnyH_done hr h fuel
end

theorem conv_at {w : World} {B : Nat} {v : Value} {l : List UInt8} (h : Rd w B v l) : (convert 22 9 v).run Try.prog w = .ok (.string (str l)) w :=
  run_conv_rd (P := Try.prog) 22 5 9 Try.underlying22 Try.underlying5 Try.underlying9 h
theorem conv_up {w W : World} {B : Nat} {v : Value} {l : List UInt8} (h : Rd w B v l) (hB : B ≤ w.heap.size) (hW : Below w.heap.size w W) : (convert 22 9 v).run Try.prog W = .ok (.string (str l)) W :=
  conv_at (h.below (hW.mono hB))
theorem Rd.drew {w : World} {B : Nat} {v : Value} {l : List UInt8} (h : Rd w B v l) : Rd w.drew B v l := h
theorem Rd.drewN {w : World} {B : Nat} {v : Value} {l : List UInt8} (h : Rd w B v l) (n : Nat) : Rd (w.drewN n) B v l := h
/-- What a law's call comes to: it answers true; what was there stands. -/
def Holds (w : World) (e : Ending) (w' : World) : Prop := e = .returned (.bool true) ∧ Below w.heap.size w w'
end Go.Proofs.Yteffidhbcdkikaa
