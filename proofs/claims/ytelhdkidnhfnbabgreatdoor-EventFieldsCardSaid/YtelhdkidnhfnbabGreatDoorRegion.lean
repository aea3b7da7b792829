/-
  A region whose order Go leaves open, walked once: what yields the same in every later world is taken first; a call that makes or turns memory comes up alone. No condition.
-/
import Derived.Test.YtelhdkidnhfnbabGreatDoorMemB
import Derived.OrdersHeld
import Derived.Deep.RegionHeld
namespace Go.Proofs.YtelhdkidnhfnbabGreatDoor
open Go.RowKit

/-- What stood in w stands in W, but for the blocks D. -/
structure Kept (D : Nat → Prop) (w W : World) : Prop where
  os : W.os = w.os
  tape : W.tape = w.tape
  output : W.output = w.output
  size : w.heap.size ≤ W.heap.size
  block : ∀ k, k < w.heap.size → ¬ D k → W.heap[k]? = w.heap[k]?

theorem Kept.refl (D : Nat → Prop) (w : World) : Kept D w w := ⟨rfl, rfl, rfl, Nat.le_refl _, fun _ _ _ => rfl⟩
theorem Kept.trans {D : Nat → Prop} {a b c : World} (h : Kept D a b) (k : Kept D b c) : Kept D a c :=
  ⟨k.os.trans h.os, k.tape.trans h.tape, k.output.trans h.output, Nat.le_trans h.size k.size, fun i hi hd => (k.block i (Nat.lt_of_lt_of_le hi h.size) hd).trans (h.block i hi hd)⟩
theorem Kept.below {D : Nat → Prop} {w W : World} (h : Below w.heap.size w W) : Kept D w W := ⟨h.os, h.tape, h.output, h.size, fun k hk _ => h.block k hk⟩
theorem Kept.belowB {D : Nat → Prop} {w W : World} {B : Nat} (h : Below B w W) (hD : ∀ k, B ≤ k → D k) : Kept D w W :=
  ⟨h.os, h.tape, h.output, h.size, fun k _ hd => h.block k (by rcases Nat.lt_or_ge k B with h | h; exact h; exact absurd (hD k h) hd)⟩
theorem Kept.grown {D : Nat → Prop} {w W : World} {row : Option Nat} (h : w.grownBy W row) (hD : ∀ k, row = some k → D k) : Kept D w W :=
  ⟨h.os, h.tape, h.output, h.size, fun k hk hd => h.block k hk (fun e => hd (hD k e.symm))⟩
theorem Kept.to_below {D : Nat → Prop} {w W : World} {B : Nat} (h : Kept D w W) (hB : B ≤ w.heap.size) (hD : ∀ k, D k → B ≤ k) : Below B w W :=
  ⟨h.os, h.tape, h.output, h.size, fun k hk => h.block k (by omega) (fun hd => by have := hD k hd; omega)⟩
theorem Kept.drew {D : Nat → Prop} {w W : World} (h : Kept D w W) : Kept D w W.drew := ⟨h.os, h.tape, h.output, h.size, h.block⟩

/-- The slice value v reads in w as the bytes l; what is read lies in a block of A. -/
def Rdp (w : World) (A : Nat → Prop) (v : Value) (l : List UInt8) : Prop :=
  ∃ Ad c, v = .slice Ad l.length c ∧ l.length ≤ c ∧ c ≤ maxLen ∧
    (0 < l.length → ∃ b o, Ad = some ⟨b, o, none⟩ ∧ A b ∧ b < w.heap.size ∧ ∀ j (h : j < l.length), w.cell? ⟨b, o + j, none⟩ = some (u8v l[j]))

theorem Rd.rdp {w : World} {B : Nat} {v : Value} {l : List UInt8} (h : Rd w B v l) : Rdp w (· < B) v l := by
  obtain ⟨A, c, rfl, h1, h2, h3⟩ := h
  refine ⟨A, c, rfl, h1, h2, fun hn => ?_⟩
  obtain ⟨b, o, rfl, hb, hc⟩ := h3 hn
  exact ⟨b, o, rfl, hb, World.block_lt_of_cell? w _ (hc 0 hn), hc⟩
theorem Rdp.rd {w : World} {A : Nat → Prop} {v : Value} {l : List UInt8} (h : Rdp w A v l) : Rd w w.heap.size v l := by
  obtain ⟨Ad, c, rfl, h1, h2, h3⟩ := h
  refine ⟨Ad, c, rfl, h1, h2, fun hn => ?_⟩
  obtain ⟨b, o, rfl, _, hb, hc⟩ := h3 hn
  exact ⟨b, o, rfl, hb, hc⟩
theorem Rdp.mono {w : World} {A A' : Nat → Prop} {v : Value} {l : List UInt8} (h : Rdp w A v l) (hA : ∀ b, A b → A' b) : Rdp w A' v l := by
  obtain ⟨Ad, c, rfl, h1, h2, h3⟩ := h
  refine ⟨Ad, c, rfl, h1, h2, fun hn => ?_⟩
  obtain ⟨b, o, rfl, ha, hb, hc⟩ := h3 hn
  exact ⟨b, o, rfl, hA b ha, hb, hc⟩
theorem Rdp.kept {D A : Nat → Prop} {w W : World} {v : Value} {l : List UInt8} (h : Rdp w A v l) (hk : Kept D w W) (hd : ∀ b, A b → ¬ D b) : Rdp W A v l := by
  obtain ⟨Ad, c, rfl, h1, h2, h3⟩ := h
  refine ⟨Ad, c, rfl, h1, h2, fun hn => ?_⟩
  obtain ⟨b, o, rfl, ha, hb, hc⟩ := h3 hn
  exact ⟨b, o, rfl, ha, Nat.lt_of_lt_of_le hb hk.size, fun j hj => (World.cell?_of_block (w := w) (hk.block b hb (hd b ha))).trans (hc j hj)⟩
theorem Own.rdp {w : World} {base e : Nat} {v : Value} {l : List UInt8} (h : Own w base e v (bvs l)) : Rdp w (base ≤ ·) v l := by
  have hr := h.rd (Nat.le_refl _)
  obtain ⟨Ad, c, rfl, h1, h2, h3⟩ := hr
  refine ⟨Ad, c, rfl, h1, h2, fun hn => ?_⟩
  obtain ⟨b, o, rfl, hb, hc⟩ := h3 hn
  exact ⟨b, o, rfl, (World.ownsRow.lt h b rfl).1, hb, hc⟩

theorem at0 {α : Type} {x : α} {l : List α} : (List.toArray (x :: l))[0]? = some x := rfl
theorem atS {α : Type} {x y : α} {l : List α} {n : Nat} (h : (List.toArray l)[n]? = some y) : (List.toArray (x :: l))[n + 1]? = some y := by
  simpa using h

section
variable {P : Program} {ops : Array Oper} {Q : Exit → Act → World → Prop} {D : Nat → Prop}

/-- Whatever order is picked from here on, while what stands now in memory stands, but for the blocks D. -/
def Up (P : Program) (ops : Array Oper) (Q : Exit → Act → World → Prop) (D : Nat → Prop) (fuel : Nat) (listed : Array Bool) (a : Act) (w : World) : Prop :=
  wpAnyH P .any ops Q (fun W => Kept D w W) fuel listed a w

theorem held_mono {md : Region.Mode} {S S' : World → Prop} (h : ∀ w, S' w → S w) : ∀ (fuel : Nat) (listed : Array Bool) (a : Act) (w : World), wpAnyH P md ops Q S' fuel listed a w → wpAnyH P md ops Q S fuel listed a w
  | 0, _, _, _, hh => hh
  | fuel + 1, _, _, _, hh => ⟨hh.1, fun i hi => wpOp_mono (fun _ _ h' => ⟨h _ h'.1, held_mono h fuel _ _ _ h'.2⟩) (hh.2 i hi)⟩

theorem up_start (D : Nat → Prop) {id : Nat} {a : Act} {w : World} (hm : P.follows .mixedOrders = true) (h : Up P ops Q D ops.size (Array.replicate ops.size false) a w.drew) : (Code.region id ops true).wp P Q a w :=
  wp_region_held hm h

/-- What may be asked of an operation that is taken first, all in one. -/
def takeB (ops : Array Oper) (listed : Array Bool) (i : Nat) : Bool := Region.noSelect ops && Region.free .any ops listed i && (Region.ready .any ops listed).contains i

theorem up_take {i : Nat} {oi : Oper} {v : Value} {fuel : Nat} {listed : Array Bool} {a : Act} {w : World} (hi : ops[i]? = some oi) (hB : takeB ops listed i = true)
    (hQ : ∀ c a w, Q (.panic c) (a.put oi.dst v) w → Q (.panic c) a w) (hw : Region.wanted oi (yielded ops a.tmps) = true)
    (hy : ∀ W, Kept D w W → (execOp a.eval oi).run P W = .ok (.value v) W)
    (h : Up P ops Q D fuel (listed.setIfInBounds i true) (a.put oi.dst v) w) : Up P ops Q D (fuel + 1) listed a w := by
  unfold takeB at hB
  simp only [Bool.and_eq_true] at hB
  exact wpAnyH_take hi hB.1.1 hB.1.2 hB.2 hQ (.inl ⟨hw, hy⟩) (Kept.refl _ _) h

/-- An operation whose guard says no. -/
theorem up_skip {i : Nat} {oi : Oper} {fuel : Nat} {listed : Array Bool} {a : Act} {w : World} (hi : ops[i]? = some oi) (hB : takeB ops listed i = true)
    (hQ : ∀ c a w, Q (.panic c) (a.put oi.dst undef) w → Q (.panic c) a w) (hw : Region.wanted oi (yielded ops a.tmps) = false)
    (h : Up P ops Q D fuel (listed.setIfInBounds i true) (a.put oi.dst undef) w) : Up P ops Q D (fuel + 1) listed a w := by
  unfold takeB at hB
  simp only [Bool.and_eq_true] at hB
  exact wpAnyH_take hi hB.1.1 hB.1.2 hB.2 hQ (.inr ⟨hw, rfl⟩) (Kept.refl _ _) h

/-- An operation that comes up alone: a call, an allocation. -/
theorem up_one {i : Nat} {oi : Oper} {fuel : Nat} {listed : Array Bool} {a : Act} {w : World} (hi : ops[i]? = some oi) (hr : Region.ready .any ops listed = [i])
    (h : ∀ K : Act → World → Prop, Shut (∀ a' w', Kept D w w' → Up P ops Q D fuel (listed.setIfInBounds i true) a' w' → K a' w') →
      if Region.wanted oi (yielded ops a.tmps) = true then Oper.wp P oi a w K Q else K (a.put oi.dst undef) w) : Up P ops Q D (fuel + 1) listed a w := by
  refine wpAnyH_ready (rs := [i]) hr (by simp) (AllReadyH.cons hi (fun K hK => h K (fun a' w' hb hu => hK.out a' w' hb fun _ => ?_)) AllReadyH.nil)
  exact held_mono (fun W hW => hb.trans hW) _ _ _ _ hu

theorem up_done {fuel : Nat} {listed : Array Bool} {a : Act} {w : World} (hr : Region.ready .any ops listed = []) (h : Q .normal a w) : Up P ops Q D fuel listed a w := wpAnyH_done hr h fuel
end

theorem conv_at {w : World} {B : Nat} {v : Value} {l : List UInt8} (h : Rd w B v l) : (convert 42 9 v).run Tryz.prog w = .ok (.string (str l)) w :=
  run_conv_rd (P := Tryz.prog) 42 5 9 Tryz.underlying42 Tryz.underlying5 Tryz.underlying9 h
theorem conv_up {D A : Nat → Prop} {w W : World} {v : Value} {l : List UInt8} (h : Rdp w A v l) (hW : Kept D w W) (hd : ∀ b, A b → ¬ D b) : (convert 42 9 v).run Tryz.prog W = .ok (.string (str l)) W :=
  conv_at (h.kept hW hd).rd
theorem Rd.drew {w : World} {B : Nat} {v : Value} {l : List UInt8} (h : Rd w B v l) : Rd w.drew B v l := h
theorem Rdp.drew {w : World} {A : Nat → Prop} {v : Value} {l : List UInt8} (h : Rdp w A v l) : Rdp w.drew A v l := h
theorem Rd.drewN {w : World} {B : Nat} {v : Value} {l : List UInt8} (h : Rd w B v l) (n : Nat) : Rd (w.drewN n) B v l := h
/-- What a law's call comes to: it answers true; what was there stands. -/
def Holds (w : World) (e : Ending) (w' : World) : Prop := e = .returned (.bool true) ∧ Below w.heap.size w w'
/-- No block. -/
def Nil : Nat → Prop := fun _ => False
theorem not_nil {A : Nat → Prop} (b : Nat) (_ : A b) : ¬ Nil b := id
end Go.Proofs.YtelhdkidnhfnbabGreatDoor
