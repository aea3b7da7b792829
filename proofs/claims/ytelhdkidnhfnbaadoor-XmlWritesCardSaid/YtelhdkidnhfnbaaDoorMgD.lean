/-
  A region whose order Go leaves open, walked once: what yields the same in every later world is taken first; a call that makes or turns memory comes up alone. No condition.
-/
import Derived.Test.YtelhdkidnhfnbaaDoorMgC
import Derived.OrdersHeld
import Derived.Deep.RegionHeld
import Derived.Test.YtelhdkidnhfnbaaDoorUtf
import Derived.Laws.RangeAny
import Derived.Lib.OthersKept
import Derived.WalkSmall
namespace Go.Proofs.YtelhdkidnhfnbaaDoor
open Go.RowKit

/-- What stood in w stands in W, but for the blocks D. -/
structure Kept (D : Nat → Prop) (w W : World) : Prop where
  os : W.os = w.os
  tape : W.tape = w.tape
  output : W.output = w.output
  size : w.heap.size ≤ W.heap.size
  block : ∀ k, k < w.heap.size → ¬ D k → W.heap[k]? = w.heap[k]?

theorem Kept.refl (D : Nat → Prop) (w : World) : Kept D w w := ⟨rfl, rfl, rfl, Nat.le_refl _, fun _ _ _ => rfl⟩
theorem Kept.trans {D : Nat → Prop} {a b c : World} (h : Kept D a b) (k : Kept D b c) : Kept D a c :=
  ⟨k.os.trans h.os, k.tape.trans h.tape, k.output.trans h.output, Nat.le_trans h.size k.size, fun i hi hd => (k.block i (Nat.lt_of_lt_of_le hi h.size) hd).trans (h.block i hi hd)⟩
theorem Kept.below {D : Nat → Prop} {w W : World} (h : Below w.heap.size w W) : Kept D w W := ⟨h.os, h.tape, h.output, h.size, fun k hk _ => h.block k hk⟩
theorem Kept.belowB {D : Nat → Prop} {w W : World} {B : Nat} (h : Below B w W) (hD : ∀ k, B ≤ k → D k) : Kept D w W :=
  ⟨h.os, h.tape, h.output, h.size, fun k _ hd => h.block k (by rcases Nat.lt_or_ge k B with h | h; exact h; exact absurd (hD k h) hd)⟩
theorem Kept.grown {D : Nat → Prop} {w W : World} {row : Option Nat} (h : w.grownBy W row) (hD : ∀ k, row = some k → D k) : Kept D w W :=
  ⟨h.os, h.tape, h.output, h.size, fun k hk hd => h.block k hk (fun e => hd (hD k e.symm))⟩
theorem Kept.to_below {D : Nat → Prop} {w W : World} {B : Nat} (h : Kept D w W) (hB : B ≤ w.heap.size) (hD : ∀ k, D k → B ≤ k) : Below B w W :=
  ⟨h.os, h.tape, h.output, h.size, fun k hk => h.block k (by omega) (fun hd => by have := hD k hd; omega)⟩
theorem Kept.drew {D : Nat → Prop} {w W : World} (h : Kept D w W) : Kept D w W.drew := ⟨h.os, h.tape, h.output, h.size, h.block⟩

/-- The slice value v reads in w as the bytes l; what is read lies in a block of A. -/
def Rdp (w : World) (A : Nat → Prop) (v : Value) (l : List UInt8) : Prop :=
  ∃ Ad c, v = .slice Ad l.length c ∧ l.length ≤ c ∧ c ≤ maxLen ∧
    (0 < l.length → ∃ b o, Ad = some ⟨b, o, none⟩ ∧ A b ∧ b < w.heap.size ∧ ∀ j (h : j < l.length), w.cell? ⟨b, o + j, none⟩ = some (u8v l[j]))

theorem Rd.rdp {w : World} {B : Nat} {v : Value} {l : List UInt8} (h : Rd w B v l) : Rdp w (· < B) v l := by
  obtain ⟨A, c, rfl, h1, h2, h3⟩ := h
  refine ⟨A, c, rfl, h1, h2, fun hn => ?_⟩
  obtain ⟨b, o, rfl, hb, hc⟩ := h3 hn
  exact ⟨b, o, rfl, hb, World.block_lt_of_cell? w _ (hc 0 hn), hc⟩
theorem Rdp.rd {w : World} {A : Nat → Prop} {v : Value} {l : List UInt8} (h : Rdp w A v l) : Rd w w.heap.size v l := by
  obtain ⟨Ad, c, rfl, h1, h2, h3⟩ := h
  refine ⟨Ad, c, rfl, h1, h2, fun hn => ?_⟩
  obtain ⟨b, o, rfl, _, hb, hc⟩ := h3 hn
  exact ⟨b, o, rfl, hb, hc⟩
theorem Rdp.mono {w : World} {A A' : Nat → Prop} {v : Value} {l : List UInt8} (h : Rdp w A v l) (hA : ∀ b, A b → A' b) : Rdp w A' v l := by
  obtain ⟨Ad, c, rfl, h1, h2, h3⟩ := h
  refine ⟨Ad, c, rfl, h1, h2, fun hn => ?_⟩
  obtain ⟨b, o, rfl, ha, hb, hc⟩ := h3 hn
  exact ⟨b, o, rfl, hA b ha, hb, hc⟩
theorem Rdp.kept {D A : Nat → Prop} {w W : World} {v : Value} {l : List UInt8} (h : Rdp w A v l) (hk : Kept D w W) (hd : ∀ b, A b → ¬ D b) : Rdp W A v l := by
  obtain ⟨Ad, c, rfl, h1, h2, h3⟩ := h
  refine ⟨Ad, c, rfl, h1, h2, fun hn => ?_⟩
  obtain ⟨b, o, rfl, ha, hb, hc⟩ := h3 hn
  exact ⟨b, o, rfl, ha, Nat.lt_of_lt_of_le hb hk.size, fun j hj => (World.cell?_of_block (w := w) (hk.block b hb (hd b ha))).trans (hc j hj)⟩
theorem Own.rdp {w : World} {base e : Nat} {v : Value} {l : List UInt8} (h : Own w base e v (bvs l)) : Rdp w (base ≤ ·) v l := by
  have hr := h.rd (Nat.le_refl _)
  obtain ⟨Ad, c, rfl, h1, h2, h3⟩ := hr
  refine ⟨Ad, c, rfl, h1, h2, fun hn => ?_⟩
  obtain ⟨b, o, rfl, hb, hc⟩ := h3 hn
  exact ⟨b, o, rfl, (World.ownsRow.lt h b rfl).1, hb, hc⟩

theorem at0 {α : Type} {x : α} {l : List α} : (List.toArray (x :: l))[0]? = some x := rfl
theorem atS {α : Type} {x y : α} {l : List α} {n : Nat} (h : (List.toArray l)[n]? = some y) : (List.toArray (x :: l))[n + 1]? = some y := by
  simpa using h

section
variable {P : Program} {ops : Array Oper} {Q : Exit → Act → World → Prop} {D : Nat → Prop}

/-- Whatever order is picked from here on, while what stands now in memory stands, but for the blocks D. -/
def Up (P : Program) (ops : Array Oper) (Q : Exit → Act → World → Prop) (D : Nat → Prop) (fuel : Nat) (listed : Array Bool) (a : Act) (w : World) : Prop :=
  wpAnyH P .any ops Q (fun W => Kept D w W) fuel listed a w

theorem held_mono {md : Region.Mode} {S S' : World → Prop} (h : ∀ w, S' w → S w) : ∀ (fuel : Nat) (listed : Array Bool) (a : Act) (w : World), wpAnyH P md ops Q S' fuel listed a w → wpAnyH P md ops Q S fuel listed a w
  | 0, _, _, _, hh => hh
  | fuel + 1, _, _, _, hh => ⟨hh.1, fun i hi => wpOp_mono (fun _ _ h' => ⟨h _ h'.1, held_mono h fuel _ _ _ h'.2⟩) (hh.2 i hi)⟩

theorem up_start (D : Nat → Prop) {id : Nat} {a : Act} {w : World} (hm : P.follows .mixedOrders = true) (h : Up P ops Q D ops.size (Array.replicate ops.size false) a w.drew) : (Code.region id ops true).wp P Q a w :=
  wp_region_held hm h

/-- What may be asked of an operation that is taken first, all in one. -/
def takeB (ops : Array Oper) (listed : Array Bool) (i : Nat) : Bool := Region.noSelect ops && Region.free .any ops listed i && (Region.ready .any ops listed).contains i

theorem up_take {i : Nat} {oi : Oper} {v : Value} {fuel : Nat} {listed : Array Bool} {a : Act} {w : World} (hi : ops[i]? = some oi) (hB : takeB ops listed i = true)
    (hQ : ∀ c a w, Q (.panic c) (a.put oi.dst v) w → Q (.panic c) a w) (hw : Region.wanted oi (yielded ops a.tmps) = true)
    (hy : ∀ W, Kept D w W → (execOp a.eval oi).run P W = .ok (.value v) W)
    (h : Up P ops Q D fuel (listed.setIfInBounds i true) (a.put oi.dst v) w) : Up P ops Q D (fuel + 1) listed a w := by
  unfold takeB at hB
  simp only [Bool.and_eq_true] at hB
  exact wpAnyH_take hi hB.1.1 hB.1.2 hB.2 hQ (.inl ⟨hw, hy⟩) (Kept.refl _ _) h

/-- An operation whose guard says no. -/
theorem up_skip {i : Nat} {oi : Oper} {fuel : Nat} {listed : Array Bool} {a : Act} {w : World} (hi : ops[i]? = some oi) (hB : takeB ops listed i = true)
    (hQ : ∀ c a w, Q (.panic c) (a.put oi.dst undef) w → Q (.panic c) a w) (hw : Region.wanted oi (yielded ops a.tmps) = false)
    (h : Up P ops Q D fuel (listed.setIfInBounds i true) (a.put oi.dst undef) w) : Up P ops Q D (fuel + 1) listed a w := by
  unfold takeB at hB
  simp only [Bool.and_eq_true] at hB
  exact wpAnyH_take hi hB.1.1 hB.1.2 hB.2 hQ (.inr ⟨hw, rfl⟩) (Kept.refl _ _) h

/-- An operation that comes up alone: a call, an allocation. -/
theorem up_one {i : Nat} {oi : Oper} {fuel : Nat} {listed : Array Bool} {a : Act} {w : World} (hi : ops[i]? = some oi) (hr : Region.ready .any ops listed = [i])
    (h : ∀ K : Act → World → Prop, Shut (∀ a' w', Kept D w w' → Up P ops Q D fuel (listed.setIfInBounds i true) a' w' → K a' w') →
      if Region.wanted oi (yielded ops a.tmps) = true then Oper.wp P oi a w K Q else K (a.put oi.dst undef) w) : Up P ops Q D (fuel + 1) listed a w := by
  refine wpAnyH_ready (rs := [i]) hr (by simp) (AllReadyH.cons hi (fun K hK => h K (fun a' w' hb hu => hK.out a' w' hb fun _ => ?_)) AllReadyH.nil)
  exact held_mono (fun W hW => hb.trans hW) _ _ _ _ hu

theorem up_done {fuel : Nat} {listed : Array Bool} {a : Act} {w : World} (hr : Region.ready .any ops listed = []) (h : Q .normal a w) : Up P ops Q D fuel listed a w := wpAnyH_done hr h fuel
end

theorem conv_at {w : World} {B : Nat} {v : Value} {l : List UInt8} (h : Rd w B v l) : (convert 41 9 v).run Tryd.prog w = .ok (.string (str l)) w :=
  run_conv_rd (P := Tryd.prog) 41 5 9 Tryd.underlying41 Tryd.underlying5 Tryd.underlying9 h
theorem conv_up {D A : Nat → Prop} {w W : World} {v : Value} {l : List UInt8} (h : Rdp w A v l) (hW : Kept D w W) (hd : ∀ b, A b → ¬ D b) : (convert 41 9 v).run Tryd.prog W = .ok (.string (str l)) W :=
  conv_at (h.kept hW hd).rd
theorem Rd.drew {w : World} {B : Nat} {v : Value} {l : List UInt8} (h : Rd w B v l) : Rd w.drew B v l := h
theorem Rdp.drew {w : World} {A : Nat → Prop} {v : Value} {l : List UInt8} (h : Rdp w A v l) : Rdp w.drew A v l := h
theorem Rd.drewN {w : World} {B : Nat} {v : Value} {l : List UInt8} (h : Rd w B v l) (n : Nat) : Rd (w.drewN n) B v l := h
/-- What a law's call comes to: it answers true; what was there stands. -/
def Holds (w : World) (e : Ending) (w' : World) : Prop := e = .returned (.bool true) ∧ Below w.heap.size w w'
/-- No block. -/
def Nil : Nat → Prop := fun _ => False
theorem not_nil {A : Nat → Prop} (b : Nat) (_ : A b) : ¬ Nil b := id
end Go.Proofs.YtelhdkidnhfnbaaDoor

/-
  Objects in memory whose cells are known whole; pure calls. No condition.
-/
namespace Go.Proofs.YtelhdkidnhfnbaaDoor
open Go.RowKit

/-- Block g is just these cells, none frozen. -/
def Blk (w : World) (g : Nat) (t : TypeId) (cs : Array Value) : Prop := w.heap[g]? = some (.cells cs t (0, 0))

theorem Blk.lt {w : World} {g : Nat} {t : TypeId} {cs : Array Value} (h : Blk w g t cs) : g < w.heap.size := (Array.getElem?_eq_some_iff.1 h).1
theorem Blk.cell {w : World} {g : Nat} {t : TypeId} {cs : Array Value} (h : Blk w g t cs) (i : Nat) : w.cell? ⟨g, i, none⟩ = cs[i]? := cell_of_row w g i cs t (0, 0) h
theorem Blk.free {w : World} {g : Nat} {t : TypeId} {cs : Array Value} (h : Blk w g t cs) (i : Nat) : w.frozen? ⟨g, i, none⟩ = false := by unfold Blk at h; simp [World.frozen?, h]
theorem Blk.fresh (w : World) (t : TypeId) (cs : Array Value) : Blk (w.alloc (.cells cs t)) w.heap.size t cs := heap_alloc_new w _
theorem Blk.set {w : World} {g : Nat} {t : TypeId} {cs : Array Value} (h : Blk w g t cs) (i : Nat) (u : Value) : Blk (w.setCell ⟨g, i, none⟩ u) g t (cs.setIfInBounds i u) := by
  unfold Blk at h ⊢
  simp [World.setCell, Array.getElem?_modify, h]
theorem Blk.grown {w w' : World} {g : Nat} {t : TypeId} {cs : Array Value} {row : Option Nat} (h : Blk w g t cs) (hb : w.grownBy w' row) (hg : some g ≠ row) : Blk w' g t cs := (hb.block g h.lt hg).trans h
theorem Blk.below {w w' : World} {g B : Nat} {t : TypeId} {cs : Array Value} (h : Blk w g t cs) (hb : Below B w w') (hg : g < B) : Blk w' g t cs := (hb.block g hg).trans h
theorem Blk.alloc {w : World} {g : Nat} {t : TypeId} {cs : Array Value} (h : Blk w g t cs) (o : Obj) : Blk (w.alloc o) g t cs := h.grown (World.grownBy_alloc w o none) (by simp)
theorem Blk.drew {w : World} {g : Nat} {t : TypeId} {cs : Array Value} (h : Blk w g t cs) : Blk w.drew g t cs := h

theorem grown_set (w : World) (g i : Nat) (u : Value) : w.grownBy (w.setCell ⟨g, i, none⟩ u) (some g) :=
  ⟨rfl, rfl, rfl, by simp [World.setCell], fun k hk hne => Below.heap_setCell w _ u k (fun e => hne (by rw [e]))⟩
theorem grown_drew (w : World) (row : Option Nat) : w.grownBy w.drew row := ⟨rfl, rfl, rfl, Nat.le_refl _, fun _ _ _ => rfl⟩
theorem cell_up {D : Nat → Prop} {w W : World} {p : Addr} {v : Value} (h : w.cell? p = some v) (hW : Kept D w W) (hd : ¬ D p.block) : W.cell? p = some v :=
  (World.cell?_of_block (w := w) (hW.block _ (World.block_lt_of_cell? w _ h) hd)).trans h

/-- A call that computes and leaves all as it was. -/
def Pure (w : World) (v : Value) (e : Ending) (w' : World) : Prop := e = .returned v ∧ w = w'
/-- A call that answers this, and makes memory of its own at most. -/
def Made (w : World) (v : Value) (e : Ending) (w' : World) : Prop := e = .returned v ∧ Below w.heap.size w w'
theorem drewB {w w' : World} (h : Below w.drew.heap.size w.drew w') : Below w.heap.size w w' := ⟨h.os, h.tape, h.output, h.size, h.block⟩
end Go.Proofs.YtelhdkidnhfnbaaDoor

/-
  Strings by their bytes: indexed, sliced, ranged over. Conditions: places within the string.
-/
namespace Go.Proofs.YtelhdkidnhfnbaaDoor
open Go.RowKit
open Go.Lib (decodeL encodeRune)

theorem str_take (l : List UInt8) (k : Nat) : (str l).extract 0 k = str (l.take k) := by
  apply ByteArray.ext
  apply Array.ext'
  simp [str]
theorem str_drop (l : List UInt8) (k : Nat) : (str l).extract k l.length = str (l.drop k) := by
  apply ByteArray.ext
  apply Array.ext'
  simp [str]
  exact List.take_of_length_le (by simp)
/-- The byte at a place (0: there is none). -/
def at0B (l : List UInt8) (k : Nat) : Nat := (l.getD k 0).toNat
theorem at0B_lt (l : List UInt8) (k : Nat) : at0B l k < 256 := (l.getD k 0).toNat_lt
theorem idx_at (l : List UInt8) (k : Nat) (h : k < l.length) (w : World) :
    (Instr.index 9 (.string (str l)) (.int .i64 (k : Int))).run Tryd.prog w = .ok (.int .u8 (at0B l k : Int)) w := by
  rw [run_index_string w 9 (str l) .i64 (k : Int) Tryd.underlying9]
  have hs : (0 : Int) ≤ (k : Int) ∧ (k : Int) < ((str l).size : Int) := by rw [str_size]; omega
  rw [dif_pos hs]
  unfold at0B
  rw [show l.getD k 0 = l[k] by simp [List.getD, h]]
  rfl
theorem slc (l : List UInt8) (a b : Nat) (h1 : a ≤ b) (h2 : b ≤ l.length) (w : World) :
    (Instr.slice 9 (.string (str l)) (some (.int .i64 (a : Int))) (some (.int .i64 (b : Int))) none).run Tryd.prog w = .ok (.string (str ((l.drop a).take (b - a)))) w := by
  rw [run_slice_string w 9 (str l) .i64 .i64 (a : Int) (b : Int) Tryd.underlying9 (by omega) (by omega) (by rw [str_size]; omega)]
  unfold str
  rw [ByteArray.extract_mk]
  rfl
theorem slt (l : List UInt8) (a : Nat) (h2 : a ≤ l.length) (w : World) :
    (Instr.slice 9 (.string (str l)) (some (.int .i64 (a : Int))) none none).run Tryd.prog w = .ok (.string (str (l.drop a))) w := by
  rw [run_slice_string_from_if w 9 (str l) .i64 (a : Int) Tryd.underlying9, if_pos (by rw [str_size]; omega), str_size]
  exact congrArg (fun s => Result.ok (Value.string s) w) (str_drop l a)
theorem slf (l : List UInt8) (b : Nat) (h2 : b ≤ l.length) (w : World) :
    (Instr.slice 9 (.string (str l)) none (some (.int .i64 (b : Int))) none).run Tryd.prog w = .ok (.string (str (l.take b))) w := by
  rw [run_slice_string_to_if w 9 (str l) .i64 (b : Int) Tryd.underlying9, if_pos (by rw [str_size]; omega)]
  exact congrArg (fun s => Result.ok (Value.string s) w) (str_take l b)

theorem dec_at (l : List UInt8) (k : Nat) : Utf8.decode (str l) k = decodeL (l.drop k) := by
  have h := Lib.tail_decode (str l) k 0
  rw [str_size, str_drop] at h
  exact h.symm
/-- One rune on. -/
theorem nxt_at (w : World) (g : Nat) (l : List UInt8) (k : Nat) (ty : TypeId) (hg : w.heap[g]? = some (.stringIter (str l) k)) (h : k < l.length) :
    (Instr.next (.pointer (some ⟨g, 0, none⟩)) true ty).run Tryd.prog w = .ok (.tuple #[.bool true, .int .i64 (k : Int), .int .i32 ((decodeL (l.drop k)).1 : Int)]) (w.iterAt g (str l) (k + (decodeL (l.drop k)).2)) := by
  rw [Lib.run_next_any_at w g (str l) k ty hg (by rw [str_size]; exact h), dec_at]
theorem nxt_no (w : World) (g : Nat) (l : List UInt8) (k : Nat) (ty : TypeId) (hg : w.heap[g]? = some (.stringIter (str l) k)) (h : ¬ k < l.length) :
    (Instr.next (.pointer (some ⟨g, 0, none⟩)) true ty).run Tryd.prog w = .ok (.tuple #[.bool false]) w :=
  Lib.run_next_end_at w g (str l) k ty hg (by rw [str_size]; exact h)
theorem drop_ne {l : List UInt8} {k : Nat} (h : k < l.length) : l.drop k ≠ [] := fun e => by
  have := congrArg List.length e
  rw [List.length_drop, List.length_nil] at this
  omega
/-- The runes from a place on. -/
theorem dec_on {l : List UInt8} {k : Nat} (h : k < l.length) : 1 ≤ (decodeL (l.drop k)).2 ∧ k + (decodeL (l.drop k)).2 ≤ l.length := by
  have := dec_bd (drop_ne h)
  rw [List.length_drop] at this
  omega
theorem runes_on {l : List UInt8} {k : Nat} (h : k < l.length) : runes (l.drop k) = ((decodeL (l.drop k)).1 : Int) :: runes (l.drop (k + (decodeL (l.drop k)).2)) := by
  rw [runes_step (drop_ne h), List.drop_drop]
theorem runes_end {l : List UInt8} {k : Nat} (h : ¬ k < l.length) : runes (l.drop k) = [] := by
  rw [List.drop_eq_nil_of_le (by omega)]
  rfl
/-- Runes as values. -/
def rvs (rs : List Int) : List Value := rs.map fun c => .int .i32 c
theorem rvs_length (rs : List Int) : (rvs rs).length = rs.length := by simp [rvs]
theorem rvs_snoc (rs : List Int) (c : Int) : rvs (rs ++ [c]) = rvs rs ++ [.int .i32 c] := by simp [rvs]
theorem rvs_one (rs : List Int) : ∀ u ∈ rvs rs, u.oneCell' = true := by
  intro u hu
  obtain ⟨x, _, rfl⟩ := List.mem_map.1 hu
  rfl
theorem rvs_at (rs : List Int) (j : Nat) (h : j < rs.length) : (rvs rs)[j]? = some (.int .i32 rs[j]) := by simp [rvs, h]
theorem tup2 {k k' : IntKind} {a b c d : Int} (h : a = c) (h' : b = d) : Ending.returned (.tuple #[.int k a, .int k' b]) = .returned (.tuple #[.int k c, .int k' d]) := by rw [h, h']
theorem grown_iterAt (w : World) (g : Nat) (s : ByteArray) (p : Nat) : w.grownBy (w.iterAt g s p) (some g) :=
  ⟨rfl, rfl, rfl, by rw [Lib.iterAt_size]; exact Nat.le_refl _, fun k _ hne => Lib.iterAt_other w g k s p (fun e => hne (by rw [e]))⟩
theorem Tryd.i32info : (Tryd.prog.info? 21).map (fun i => (i.zero, i.size, i.bytes)) = some (some (.int .i32 0), 1, 4) := by kernel_rfl
end Go.Proofs.YtelhdkidnhfnbaaDoor

/-
  The document's own first rune of a text (newsstandref05.First). Condition: the text is not empty, its length a length.
-/
namespace Go.Proofs.YtelhdkidnhfnbaaDoor
open Go.RowKit
open Go.Lib (decodeL decodeN)

def tailB (c : Nat) : Bool := decide (128 ≤ c ∧ c < 192)
theorem tail_iff (c : Nat) : tailB c = true ↔ 128 ≤ c ∧ c < 192 := by unfold tailB; exact decide_eq_true_iff
theorem tail_no (c : Nat) : tailB c = false ↔ ¬ (128 ≤ c ∧ c < 192) := by unfold tailB; exact decide_eq_false_iff_not
/-- The number that a first byte and those behind it make. -/
def accN (l : List UInt8) (c0 : Nat) : Nat → Nat
  | 0 => c0
  | j + 1 => accN l c0 j * 64 + (at0B l (j + 1) - 128)
theorem accN0 (l : List UInt8) (c0 : Nat) : accN l c0 0 = c0 := rfl
theorem accN1 (l : List UInt8) (c0 : Nat) : accN l c0 1 = c0 * 64 + (at0B l 1 - 128) := rfl
theorem accN2 (l : List UInt8) (c0 : Nat) : accN l c0 2 = (c0 * 64 + (at0B l 1 - 128)) * 64 + (at0B l 2 - 128) := rfl
theorem accN3 (l : List UInt8) (c0 : Nat) : accN l c0 3 = ((c0 * 64 + (at0B l 1 - 128)) * 64 + (at0B l 2 - 128)) * 64 + (at0B l 3 - 128) := rfl
theorem accN_step (l : List UInt8) (c0 k : Nat) : accN l c0 (k + 1) = accN l c0 k * 64 + (at0B l (k + 1) - 128) := rfl
/-- The three kinds of runes of more than one byte: how many bytes, the least, what the first byte has more. -/
def Kind (c n least base : Nat) : Prop := (n = 2 ∧ least = 128 ∧ base = 192 ∧ 192 ≤ c ∧ c < 224) ∨ (n = 3 ∧ least = 2048 ∧ base = 224 ∧ 224 ≤ c ∧ c < 240) ∨ (n = 4 ∧ least = 65536 ∧ base = 240 ∧ 240 ≤ c ∧ c < 248)
def Tails (l : List UInt8) (k : Nat) : Prop := ∀ j, 1 ≤ j → j < k → 128 ≤ at0B l j ∧ at0B l j < 192
set_option maxRecDepth 100000 in
set_option maxHeartbeats 1000000 in
theorem acc_bd {l : List UInt8} {n least base : Nat} (h : Kind (at0B l 0) n least base) (j : Nat) (hj : j + 1 < n) (ht : Tails l (j + 1)) : accN l (at0B l 0 - base) j ≤ 32767 := by
  have t1 := ht 1
  have t2 := ht 2
  unfold Kind at h
  have hj3 : j = 0 ∨ j = 1 ∨ j = 2 := by omega
  rcases hj3 with rfl | rfl | rfl
  · rw [accN0]; omega
  · rw [accN1]; omega
  · rw [accN2]; omega
set_option maxRecDepth 100000 in
set_option maxHeartbeats 1000000 in
theorem dec_short {l : List UInt8} {n least base : Nat} (h : Kind (at0B l 0) n least base) (hl : l.length < n) : decodeL l = (65533, 1) := by
  rw [Lib.decodeL_N]
  change decodeN l.length (at0B l 0) (at0B l 1) (at0B l 2) (at0B l 3) = _
  unfold Kind at h
  unfold decodeN
  repeat' split
  all_goals first | rfl | (exfalso; omega)
set_option maxRecDepth 100000 in
set_option maxHeartbeats 1000000 in
theorem dec_notail {l : List UInt8} {n least base k : Nat} (h : Kind (at0B l 0) n least base) (hk : 1 ≤ k) (hkn : k < n) (ht : ¬ (128 ≤ at0B l k ∧ at0B l k < 192)) : decodeL l = (65533, 1) := by
  rw [Lib.decodeL_N]
  change decodeN l.length (at0B l 0) (at0B l 1) (at0B l 2) (at0B l 3) = _
  unfold Kind at h
  have hk3 : k = 1 ∨ k = 2 ∨ k = 3 := by omega
  unfold decodeN
  rcases hk3 with rfl | rfl | rfl
  all_goals
    repeat' split
    all_goals first | rfl | (exfalso; omega)
set_option maxRecDepth 100000 in
set_option maxHeartbeats 1000000 in
theorem dec_bad {l : List UInt8} {n least base : Nat} (h : Kind (at0B l 0) n least base) (hl : n ≤ l.length) (ht : Tails l n)
    (hv : accN l (at0B l 0 - base) (n - 1) < least ∨ 1114111 < accN l (at0B l 0 - base) (n - 1) ∨ (55296 ≤ accN l (at0B l 0 - base) (n - 1) ∧ accN l (at0B l 0 - base) (n - 1) ≤ 57343)) : decodeL l = (65533, 1) := by
  rw [Lib.decodeL_N]
  change decodeN l.length (at0B l 0) (at0B l 1) (at0B l 2) (at0B l 3) = _
  have t1 := ht 1
  have t2 := ht 2
  have t3 := ht 3
  unfold decodeN
  rcases h with ⟨rfl, rfl, rfl, h1, h2⟩ | ⟨rfl, rfl, rfl, h1, h2⟩ | ⟨rfl, rfl, rfl, h1, h2⟩
  all_goals
    simp only [Nat.reduceSub, accN1, accN2, accN3] at hv
    repeat' split
    all_goals first | rfl | (exfalso; omega)
set_option maxRecDepth 100000 in
set_option maxHeartbeats 1000000 in
theorem dec_good {l : List UInt8} {n least base : Nat} (h : Kind (at0B l 0) n least base) (hl : n ≤ l.length) (ht : Tails l n)
    (hv : ¬ (accN l (at0B l 0 - base) (n - 1) < least ∨ 1114111 < accN l (at0B l 0 - base) (n - 1) ∨ (55296 ≤ accN l (at0B l 0 - base) (n - 1) ∧ accN l (at0B l 0 - base) (n - 1) ≤ 57343))) : decodeL l = (accN l (at0B l 0 - base) (n - 1), n) := by
  rw [Lib.decodeL_N]
  change decodeN l.length (at0B l 0) (at0B l 1) (at0B l 2) (at0B l 3) = _
  have t1 := ht 1
  have t2 := ht 2
  have t3 := ht 3
  unfold decodeN
  rcases h with ⟨rfl, rfl, rfl, h1, h2⟩ | ⟨rfl, rfl, rfl, h1, h2⟩ | ⟨rfl, rfl, rfl, h1, h2⟩
  all_goals
    simp only [Nat.reduceSub, accN1, accN2, accN3] at hv ⊢
    repeat' split
    all_goals first | (exfalso; omega) | (apply Prod.ext <;> simp only <;> omega)
theorem dec_one {l : List UInt8} (h : at0B l 0 < 128) : decodeL l = (at0B l 0, 1) := by
  rw [Lib.decodeL_N]
  change decodeN l.length (at0B l 0) (at0B l 1) (at0B l 2) (at0B l 3) = _
  unfold decodeN
  rw [if_pos h]
theorem dec_none {l : List UInt8} (h : (128 ≤ at0B l 0 ∧ at0B l 0 < 192) ∨ 248 ≤ at0B l 0) : decodeL l = (65533, 1) := by
  have := at0B_lt l 0
  rw [Lib.decodeL_N]
  change decodeN l.length (at0B l 0) (at0B l 1) (at0B l 2) (at0B l 3) = _
  unfold decodeN
  repeat' split
  all_goals first | rfl | (exfalso; omega)

/-- The document's first rune, and its bytes. -/
def FirstV (w : World) (l : List UInt8) (e : Ending) (w' : World) : Prop := e = .returned (.tuple #[.int .i32 ((decodeL l).1 : Int), .int .i64 ((decodeL l).2 : Int)]) ∧ w = w'
theorem firstV_mk {w : World} {l : List UInt8} {a b : Nat} {x y : Int} (h : decodeL l = (a, b)) (hx : x = (a : Int)) (hy : y = (b : Int)) : FirstV w l (.returned (.tuple #[.int .i32 x, .int .i64 y])) w := by
  unfold FirstV
  rw [h, hx, hy]
  exact ⟨rfl, rfl⟩
def FRel (l : List UInt8) (n c0 : Nat) (u6 u8 : Value) : Prop := ∃ k : Nat, k + 1 ≤ n ∧ Tails l (k + 1) ∧ u8 = .int .i64 ((k : Int) + 1) ∧ u6 = .int .i32 (accN l c0 k : Int)

end Go.Proofs.YtelhdkidnhfnbaaDoor
