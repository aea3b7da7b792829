/-
  A map from names to pointers, read as a row of names and blocks. Conditions: names' lengths are lengths.
-/
import Derived.Test.YtincdegoiknfhabBlk
import Derived.StringKeys
import Derived.Maps.OwnSet
import Derived.Maps.RangeWalk
import Derived.Maps.Ext
namespace Go.Proofs.Ytincdegoiknfhab
open Go.RowKit
open Go.Maps (Keyed)

/-- What a pointer reads as: its block. -/
def ptrR (v : Value) : Option (DataW Unit × List MemPlace) :=
  match v with
  | .pointer (some ⟨g, 0, none⟩) => some (.lit (.int .i64 (g : Int)), [])
  | .pointer none => some (.lit (.int .i64 (-1)), [])
  | _ => none
theorem ptrR_some (g : Nat) : ptrR (.pointer (some ⟨g, 0, none⟩)) = some (.lit (.int .i64 (g : Int)), []) := rfl
theorem ptrR_none : ptrR (.pointer none) = some (.lit (.int .i64 (-1)), []) := rfl
theorem ptrR_inv {v : Value} {y : DataW Unit × List MemPlace} (h : ptrR v = some y) : (v = .pointer none ∧ y = (.lit (.int .i64 (-1)), [])) ∨ ∃ g : Nat, v = .pointer (some ⟨g, 0, none⟩) ∧ y = (.lit (.int .i64 (g : Int)), []) := by
  unfold ptrR at h
  split at h
  · next g => exact .inr ⟨g, rfl, by injection h with h; exact h.symm⟩
  · exact .inl ⟨rfl, by injection h with h; exact h.symm⟩
  · cases h

/-- A file: its name, its block, the row's value, its bytes, how many of them are safe. -/
structure KEnt where
  name : List UInt8
  g : Nat
  v : Value
  bytes : List UInt8
  safe : Nat
def entD (e : KEnt) : Lit × DataW Unit := (.string e.name, .lit (.int .i64 (e.g : Int)))
def mapD (E : List KEnt) : DataW Unit := .map (E.map entD)
def atE (E : List KEnt) (n : List UInt8) : Option KEnt := E.find? fun e => e.name == n
def insE (e : KEnt) : List KEnt → List KEnt
  | [] => [e]
  | f :: r => if bytesBefore e.name f.name then e :: f :: r else f :: insE e r
def delE (n : List UInt8) (E : List KEnt) : List KEnt := E.filter fun e => !(e.name == n)
def putE (e : KEnt) (E : List KEnt) : List KEnt := insE e (delE e.name E)
/-- What a look at a name answers. -/
def ptrE : Option KEnt → Value
  | some e => .pointer (some ⟨e.g, 0, none⟩)
  | none => .pointer none

theorem insD (e : KEnt) : ∀ E, DataW.insert (entD e) (E.map entD) = (insE e E).map entD
  | [] => rfl
  | f :: r => by
    unfold insE
    rw [List.map_cons, DataW.insert]
    have hb : (entD e).1.before (entD f).1 = bytesBefore e.name f.name := rfl
    rw [hb, insD e r]
    split <;> rfl
theorem delD (n : List UInt8) (E : List KEnt) : (E.map entD).filter (fun p => !p.1.sameKey (.string n)) = (delE n E).map entD := by
  unfold delE
  rw [List.filter_map]
  rfl
theorem mapD_del (n : List UInt8) (E : List KEnt) : (mapD E).del (.string n) = mapD (delE n E) := by
  unfold mapD DataW.del
  exact congrArg DataW.map (delD n E)
theorem mapD_put (e : KEnt) (E : List KEnt) : (mapD E).put (.string e.name) (.lit (.int .i64 (e.g : Int))) = mapD (putE e E) := by
  unfold mapD DataW.put putE
  simp only
  rw [delD]
  exact congrArg DataW.map (insD e _)
theorem mapD_at (E : List KEnt) (n : List UInt8) (z : DataW Unit) : (mapD E).atKey (.string n) z = match atE E n with | some e => .lit (.int .i64 (e.g : Int)) | none => z := by
  unfold mapD DataW.atKey atE
  simp only
  induction E with
  | nil => rfl
  | cons e r ih =>
    rw [List.map_cons, List.find?_cons, List.find?_cons]
    have hk : (entD e).1.sameKey (.string n) = (e.name == n) := rfl
    rw [hk]
    cases e.name == n with
    | true => rfl
    | false => exact ih
theorem mapD_size (E : List KEnt) : Maps.size (mapD E) = E.length := by
  unfold mapD Maps.size
  simp
theorem mapD_has (E : List KEnt) (n : List UInt8) : Maps.has (mapD E) (.string n) = (E.any fun e => e.name == n) := by
  unfold mapD Maps.has
  simp only [List.any_map]
  rfl

/-- Block b is a map of the names to the blocks. -/
def MapAt (w : World) (b : Nat) (E : List KEnt) : Prop := w.ownsMap Try.prog 9 ptrR b E.length (mapD E)
theorem Try.keyed : Keyed Try.prog 9 := Maps.string_keyed Try.underlying9
theorem keyName (n : List UInt8) (h : n.length ≤ maxLen) : keyOf Try.prog 9 (.string (str n)) = some (.string n) := by
  have e := Go.WideMaps.keyOf_string_mk Try.underlying9 (s := str n) (by rw [str_size]; exact h)
  rw [e]
  simp [str]
set_option maxRecDepth 100000 in
theorem zeroPtr (w : World) : (zeroValue 79).run Try.prog w = .ok (.pointer none) w := by
  have h : (Try.prog.info? 79).map (fun i => i.zero) = some (some (.pointer none)) := by kernel_rfl
  cases hi : Try.prog.info? 79 with
  | none => rw [hi] at h; cases h
  | some i =>
    rw [hi] at h
    injection h with h
    have h' : i.zero = some (.pointer none) := h
    simp [zeroValue, typeInfo, hi, h']
set_option maxRecDepth 100000 in
theorem MapAt.look {w : World} {b : Nat} {E : List KEnt} (h : MapAt w b E) (n : List UInt8) (hn : n.length ≤ maxLen) : (Instr.lookup 62 (.map (some b)) (.string (str n)) false).run Try.prog w = .ok (ptrE (atE E n)) w := by
  obtain ⟨v, ps, hrun, hv⟩ := World.ownsMap.lookup h Try.keyed Try.underlying62 (zeroPtr w) ptrR_none (keyName n hn)
  rw [hrun]
  rw [mapD_at] at hv
  congr 1
  cases he : atE E n with
  | none =>
    rw [he] at hv
    rcases ptrR_inv hv with ⟨rfl, _⟩ | ⟨g, rfl, e⟩
    · rfl
    · injection e with e
      injection e with e
      injection e with _ e
      omega
  | some e =>
    rw [he] at hv
    rcases ptrR_inv hv with ⟨rfl, e'⟩ | ⟨g, rfl, e'⟩
    · injection e' with e'
      injection e' with e'
      injection e' with _ e'
      omega
    · injection e' with e'
      injection e' with e'
      injection e' with _ e'
      have : g = e.g := by omega
      subst this
      rfl
theorem MapAt.len {w : World} {b : Nat} {E : List KEnt} (h : MapAt w b E) (ty : TypeId) : (Builtin.len_ #[62] ty #[.map (some b)]).run Try.prog w = .ok (.int .i64 (E.length : Int)) w := by
  have := World.ownsMap.len h Try.underlying62 ty
  rw [mapD_size] at this
  exact this
theorem MapAt.made (w : World) : MapAt (w.alloc (.map #[] 0)) w.heap.size [] := World.ownsMap_made w _ _ _
theorem MapAt.lt {w : World} {b : Nat} {E : List KEnt} (h : MapAt w b E) : b < w.heap.size := World.ownsMap.lt h
theorem MapAt.grown {w w' : World} {b : Nat} {E : List KEnt} {row : Option Nat} (h : MapAt w b E) (hg : w.grownBy w' row) (hne : some b ≠ row) : MapAt w' b E := World.ownsMap.kept h hg hne
theorem MapAt.apart {w : World} {b : Nat} {E : List KEnt} (h : MapAt w b E) : E.Pairwise fun e f => e.name ≠ f.name := by
  obtain ⟨es, e, hp, _⟩ := World.ownsMap.entries h Try.keyed
  injection e with e
  subst e
  rw [List.pairwise_map] at hp
  exact hp.imp fun h e => h (by unfold entD; rw [e])
theorem MapAt.resize {w : World} {b n : Nat} {E : List KEnt} (h : w.ownsMap Try.prog 9 ptrR b n (mapD E)) : MapAt w b E := by
  obtain ⟨es, clock, hb, F, hs, hD⟩ := h
  refine ⟨es, clock, hb, F, ?_, hD⟩
  have e1 := congrArg Maps.size hD
  rw [mapD_size] at e1
  have e2 : Maps.size (DataW.map ((es.toList.map (WideElems.rg Try.prog 9 ptrR)).foldr DataW.insert [])) = es.size := by simp [Maps.size, length_sorted]
  rw [e2] at e1
  omega
end Go.Proofs.Ytincdegoiknfhab
