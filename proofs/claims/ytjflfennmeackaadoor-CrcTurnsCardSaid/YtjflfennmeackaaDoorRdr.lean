/-
  Readers of bytes, in plain words: what is left, or that it is bad; and how such an object lies in memory. No condition.
-/
import Derived.Test.YtjflfennmeackaaDoorWord
namespace Go.Proofs.YtjflfennmeackaaDoor
open Go.RowKit

/-- Block g is just these cells, none frozen. -/
def Blk (w : World) (g : Nat) (t : TypeId) (cs : Array Value) : Prop := w.heap[g]? = some (.cells cs t (0, 0))

theorem Blk.lt {w : World} {g : Nat} {t : TypeId} {cs : Array Value} (h : Blk w g t cs) : g < w.heap.size := (Array.getElem?_eq_some_iff.1 h).1
theorem Blk.cell {w : World} {g : Nat} {t : TypeId} {cs : Array Value} (h : Blk w g t cs) (i : Nat) : w.cell? ⟨g, i, none⟩ = cs[i]? := cell_of_row w g i cs t (0, 0) h
theorem Blk.free {w : World} {g : Nat} {t : TypeId} {cs : Array Value} (h : Blk w g t cs) (i : Nat) : w.frozen? ⟨g, i, none⟩ = false := by unfold Blk at h; simp [World.frozen?, h]
theorem Blk.fresh (w : World) (t : TypeId) (cs : Array Value) : Blk (w.alloc (.cells cs t)) w.heap.size t cs := heap_alloc_new w _
theorem Blk.set {w : World} {g : Nat} {t : TypeId} {cs : Array Value} (h : Blk w g t cs) (i : Nat) (u : Value) : Blk (w.setCell ⟨g, i, none⟩ u) g t (cs.setIfInBounds i u) := by
  unfold Blk at h ⊢
  simp [World.setCell, Array.getElem?_modify, h]
theorem Blk.grown {w w' : World} {g : Nat} {t : TypeId} {cs : Array Value} {row : Option Nat} (h : Blk w g t cs) (hb : w.grownBy w' row) (hg : some g ≠ row) : Blk w' g t cs := (hb.block g h.lt hg).trans h
theorem Blk.below {w w' : World} {g B : Nat} {t : TypeId} {cs : Array Value} (h : Blk w g t cs) (hb : Below B w w') (hg : g < B) : Blk w' g t cs := (hb.block g hg).trans h

theorem grown_set (w : World) (g i : Nat) (u : Value) : w.grownBy (w.setCell ⟨g, i, none⟩ u) (some g) :=
  ⟨rfl, rfl, rfl, by simp [World.setCell], fun k hk hne => Below.heap_setCell w _ u k (fun e => hne (by rw [e]))⟩
theorem grown_drew (w : World) (row : Option Nat) : w.grownBy w.drew row := ⟨rfl, rfl, rfl, Nat.le_refl _, fun _ _ _ => rfl⟩
theorem Rd.grown {w w' : World} {B g : Nat} {v : Value} {l : List UInt8} (h : Rd w B v l) (hg : w.grownBy w' (some g)) (hB : B ≤ g) (hs : B ≤ w.heap.size) : Rd w' B v l :=
  h.keep fun p hp => World.cell?_of_block (hg.block p.block (by omega) (fun e => by injection e; omega))

/-- A reader at block g: none: it is bad; some l: these bytes are left. Its bytes lie below its own block. -/
def Rdr (T : TypeId) (w : World) (g : Nat) (s : Option (List UInt8)) : Prop :=
  ∃ v bad l, Blk w g T #[v, .bool bad] ∧ Rd w g v l ∧ s = if bad then none else some l

theorem Rdr.open {T : TypeId} {w : World} {g : Nat} {s : Option (List UInt8)} (h : Rdr T w g s) : (s = none ∧ ∃ v l, Blk w g T #[v, .bool true] ∧ Rd w g v l) ∨ (∃ v l, s = some l ∧ Blk w g T #[v, .bool false] ∧ Rd w g v l) := by
  obtain ⟨v, bad, l, hb, hr, rfl⟩ := h
  cases bad with
  | true => exact .inl ⟨rfl, v, l, hb, hr⟩
  | false => exact .inr ⟨v, l, rfl, hb, hr⟩
theorem Rdr.lt {T : TypeId} {w : World} {g : Nat} {s : Option (List UInt8)} (h : Rdr T w g s) : g < w.heap.size := by
  obtain ⟨v, bad, l, hb, _, _⟩ := h
  exact hb.lt
/-- Kept by whatever leaves all blocks up to its own as they were. -/
theorem Rdr.below {T : TypeId} {w w' : World} {g B : Nat} {s : Option (List UInt8)} (h : Rdr T w g s) (hb : Below B w w') (hg : g < B) : Rdr T w' g s := by
  obtain ⟨v, bad, l, h1, h2, h3⟩ := h
  exact ⟨v, bad, l, h1.below hb hg, h2.below (hb.mono (by omega)), h3⟩
/-- Kept by whatever writes another block behind its bytes alone. -/
theorem Rdr.other {T : TypeId} {w w' : World} {g g' : Nat} {s : Option (List UInt8)} (h : Rdr T w g s) (hb : w.grownBy w' (some g')) (hg : g < g') : Rdr T w' g s := by
  have hlt := h.lt
  obtain ⟨v, bad, l, h1, h2, h3⟩ := h
  exact ⟨v, bad, l, h1.grown hb (fun e => by injection e; omega), h2.grown hb (by omega) (by omega), h3⟩

/-- A reader is kept by whatever turns another reader's block alone: that block holds no bytes. -/
theorem Rdr.apart {T T' : TypeId} {w w' : World} {g g' : Nat} {s s' : Option (List UInt8)} (h : Rdr T w g s) (h' : Rdr T' w g' s') (hb : w.grownBy w' (some g')) (hg : g ≠ g') : Rdr T w' g s := by
  have hlt := h.lt
  obtain ⟨v', bad', l', h1', h2', _⟩ := h'
  obtain ⟨A', c', rfl, _, _, _⟩ := h2'
  obtain ⟨v, bad, l, h1, h2, h3⟩ := h
  refine ⟨v, bad, l, h1.grown hb (fun e => by injection e with e; exact hg e), ?_, h3⟩
  obtain ⟨A, c, rfl, ha, hc, hr⟩ := h2
  refine ⟨A, c, rfl, ha, hc, fun hn => ?_⟩
  obtain ⟨b, o, rfl, hlb, hcell⟩ := hr hn
  refine ⟨b, o, rfl, hlb, fun j hj => ?_⟩
  have hbg : b ≠ g' := by
    rintro rfl
    have := hcell j hj
    rw [h1'.cell] at this
    match o + j, this with
    | 0, this => simp [u8v] at this
    | 1, this => simp [u8v] at this
    | _ + 2, this => simp at this
  exact hb.cell (hcell j hj) (fun e => by injection e with e; exact hbg e)

/-- A slice cut from k on. -/
theorem Rd.cut {w : World} {B : Nat} {A : Option Addr} {c : Nat} {l : List UInt8} (h : Rd w B (.slice A l.length c) l) (k : Nat) (hk : k ≤ l.length) (A' : Option Addr) (hA : c ≠ k → A' = A.map (·.add k)) :
    Rd w B (.slice A' (l.length - k) (c - k)) (l.drop k) := by
  obtain ⟨A0, c0, e, h1, h2, h3⟩ := h
  injection e with e1 e2 e3
  subst e1 e3
  refine ⟨A', c - k, by rw [List.length_drop], by rw [List.length_drop]; omega, by omega, fun hn => ?_⟩
  rw [List.length_drop] at hn
  obtain ⟨b, o, rfl, hb, hc⟩ := h3 (by omega)
  refine ⟨b, o + k, ?_, hb, fun j hj => ?_⟩
  · rw [hA (by omega)]
    simp [Addr.add]
  · rw [List.length_drop] at hj
    rw [Nat.add_assoc, hc (k + j) (by omega)]
    simp

/-- The beginning of a slice. -/
theorem Rd.upto {w : World} {B : Nat} {A : Option Addr} {c : Nat} {l : List UInt8} (h : Rd w B (.slice A l.length c) l) (k : Nat) (hk : k ≤ l.length) : Rd w B (.slice A k c) (l.take k) := by
  obtain ⟨A0, c0, e, h1, h2, h3⟩ := h
  injection e with e1 e2 e3
  subst e1 e3
  have hl : (l.take k).length = k := by rw [List.length_take]; omega
  refine ⟨A, c, by rw [hl], by omega, h2, fun hn => ?_⟩
  obtain ⟨b, o, rfl, hb, hc⟩ := h3 (by omega)
  refine ⟨b, o, rfl, hb, fun j hj => ?_⟩
  rw [hc j (by omega)]
  simp

-- what each call answers, and what is left
def numS : Option (List UInt8) → Int × Option (List UInt8)
  | none => (0, none)
  | some l => match vget l with
    | some (y, n) => (unfoldN y, some (l.drop n))
    | none => (0, none)
def takeS (n : Int) : Option (List UInt8) → List UInt8 × Option (List UInt8)
  | none => ([], none)
  | some l => if n < 0 ∨ (l.length : Int) < n then ([], none) else (l.take n.toNat, some (l.drop n.toNat))
def textS (s : Option (List UInt8)) : List UInt8 × Option (List UInt8) := takeS (numS s).1 (if 65536 < (numS s).1 then none else (numS s).2)
def byteS (s : Option (List UInt8)) : Nat × Option (List UInt8) :=
  (match (takeS 1 s).1 with
    | x :: _ => x.toNat
    | [] => 0, (takeS 1 s).2)
def wordN : List UInt8 → Nat
  | [a, b, c, d] => a.toNat + 256 * b.toNat + 65536 * c.toNat + 16777216 * d.toNat
  | _ => 0
def wordS (s : Option (List UInt8)) : Nat × Option (List UInt8) := (wordN (takeS 4 s).1, (takeS 4 s).2)
def leftS : Option (List UInt8) → Nat
  | none => 0
  | some l => l.length

/-- What a call on a reader leaves. -/
def RdrPost (T : TypeId) (w : World) (g : Nat) (s : Option (List UInt8)) (v : Value) (e : Ending) (w' : World) : Prop :=
  e = .returned v ∧ Rdr T w' g s ∧ w.grownBy w' (some g)

/-- What a call leaves that makes a reader of its own, of these bytes. -/
def MadeRdr (T : TypeId) (w : World) (l : List UInt8) (e : Ending) (w' : World) : Prop :=
  ∃ g, e = .returned (.pointer (some ⟨g, 0, none⟩)) ∧ w.heap.size ≤ g ∧ Rdr T w' g (some l) ∧ Below w.heap.size w w'

theorem rdr_cut {T : TypeId} {w : World} {g : Nat} {v0 : Value} {A : Option Addr} {c : Nat} {l : List UInt8} (hb : Blk w g T #[v0, .bool false]) (hr : Rd w g (.slice A l.length c) l) (k : Nat) (hk : k ≤ l.length)
    (A' : Option Addr) (c' : Nat) (hc : c' = c - k) (hA : c ≠ k → A' = A.map (·.add k)) :
    Rdr T (w.setCell ⟨g, 0, none⟩ (.slice A' (l.length - k) c')) g (some (l.drop k)) ∧ w.grownBy (w.setCell ⟨g, 0, none⟩ (.slice A' (l.length - k) c')) (some g) := by
  subst hc
  have hg := grown_set w g 0 (.slice A' (l.length - k) (c - k))
  exact ⟨⟨_, false, _, hb.set 0 _, (hr.cut k hk A' hA).grown hg (Nat.le_refl _) (Nat.le_of_lt hb.lt), rfl⟩, hg⟩
end Go.Proofs.YtjflfennmeackaaDoor
