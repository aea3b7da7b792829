/-
  The calls of a disk in the form in which a law meets them; two disks side by side. Conditions as in Append and Names.
-/
import Derived.Test.YtincdegoiknfhabKCrash
import Derived.KernelRfl
import Derived.Lib.SmallJoins
namespace Go.Proofs.Ytincdegoiknfhab
open Go.RowKit

theorem AStep.below {w w' : World} {lo g b : Nat} {d : KDisk} {A' : ADisk} {v : Value} {e : Ending} (h : DiskAt w lo g b d) (hs : AStep w lo g b d A' v e w') : Below lo w w' := by
  obtain ⟨_, d', _, _, ho, _⟩ := hs
  exact ho.below (fun x hx => (h.lt x hx).1) (by have h1 := h.1; have h2 := h.2.2.1.lt; omega)
/-- One disk, one step. -/
theorem AStep.one {w w' : World} {lo g b : Nat} {d : KDisk} {A' : ADisk} {v : Value} {e : Ending} (h : DiskAt w lo g b d) (hs : AStep w lo g b d A' v e w') : e = .returned v ∧ ∃ d', DiskAt w' lo g b d' ∧ absD d' = A' ∧ Below lo w w' :=
  ⟨hs.1, hs.2.choose, hs.2.choose_spec.1, hs.2.choose_spec.2.1, hs.below h⟩
/-- Two disks that have no block in common. -/
def Two (w : World) (lo g b : Nat) (d : KDisk) (g2 b2 : Nat) (c : KDisk) : Prop := DiskAt w lo g b d ∧ DiskAt w lo g2 b2 c ∧ ∀ k, Foot g2 b2 c.E k → ¬ Foot g b d.E k
theorem Two.swap {w : World} {lo g b g2 b2 : Nat} {d c : KDisk} (h : Two w lo g b d g2 b2 c) : Two w lo g2 b2 c g b d := ⟨h.2.1, h.1, fun k h1 h2 => h.2.2 k h2 h1⟩
theorem Two.step {w w' : World} {lo g b g2 b2 : Nat} {d c : KDisk} {A' : ADisk} {v : Value} {e : Ending} (h : Two w lo g b d g2 b2 c) (hs : AStep w lo g b d A' v e w') : e = .returned v ∧ ∃ d', Two w' lo g b d' g2 b2 c ∧ absD d' = A' ∧ Below lo w w' := by
  have hb := hs.below h.1
  obtain ⟨h1, d', hd, ha, ho, hf⟩ := hs
  refine ⟨h1, d', ⟨hd, h.2.1.off_ ho h.2.2, fun k hk hk' => ?_⟩, ha, hb⟩
  rcases hf k hk' with h3 | h3
  · exact h.2.2 k hk h3
  · have := (h.2.1.lt k hk).2; omega
theorem Two.below {w w' : World} {lo g b g2 b2 : Nat} {d c : KDisk} (h : Two w lo g b d g2 b2 c) (hb : Below w.heap.size w w') : Two w' lo g b d g2 b2 c := ⟨h.1.below hb, h.2.1.below hb, h.2.2⟩
/-- A disk and its clone. -/
theorem two_clone {w w' : World} {lo g b : Nat} {d : KDisk} {e : Ending} (h : DiskAt w lo g b d) (hlo : lo ≤ w.heap.size) (hc : MadeClone w d e w') : ∃ g2 b2 c, e = .returned (.pointer (some ⟨g2, 0, none⟩)) ∧ Two w' lo g b d g2 b2 c ∧ absD c = absD d ∧ Below w.heap.size w w' := by
  obtain ⟨g2, b2, c, h1, h2, h3, h4⟩ := hc
  refine ⟨g2, b2, c, h1, ⟨h.below h4, ?_, fun k hk hk' => ?_⟩, h3, h4⟩
  · obtain ⟨a1, a2, a3, a4, a5, a6⟩ := h2
    exact ⟨by omega, by omega, a3, a4, fun e he => ⟨Nat.le_trans hlo (a5 e he).1, (a5 e he).2.1, (a5 e he).2.2.1.more hlo, (a5 e he).2.2.2⟩, a6⟩
  · have h5 := (h2.lt k hk).1
    have h6 := (h.lt k hk').2
    omega
/-- Bytes in a new block. -/
theorem rdp_new {w : World} {lo g b : Nat} {d : KDisk} (h : DiskAt w lo g b d) (e a : Nat) (ha : a = w.heap.size) (cs : Array Value) (fr : Nat × Nat) (n : Nat) (l : List UInt8) (hcs : cs = (bvs l).toArray) (hn : n = l.length) (hm : l.length ≤ 1000) :
    Rdp (w.alloc (.cells cs e fr)) (fun k => ¬ Foot g b d.E k) (.slice (some ⟨a, 0, none⟩) n n) l := by
  subst hcs hn ha
  refine ⟨_, _, rfl, Nat.le_refl _, by unfold maxLen; omega, fun _ => ⟨w.heap.size, 0, rfl, fun hf => ?_, by simp, fun j hj => ?_⟩⟩
  · have := (h.lt _ hf).2; omega
  · rw [Nat.zero_add, World.cell?_alloc_mark w _ e fr j]
    simp [bvs, hj]
theorem rdp_nil (w : World) (A : Nat → Prop) : Rdp w A (.slice none 0 0) [] := ⟨none, 0, rfl, Nat.le_refl _, Nat.zero_le _, fun h => absurd h (by simp)⟩
theorem rdk_new {w : World} {lo g b : Nat} {d : KDisk} (h : DiskAt w lo g b d) (e a : Nat) (ha : a = w.heap.size) (k : Int) : RdK (w.alloc (.cells #[.int .i64 k] e)) (fun k => ¬ Foot g b d.E k) (.slice (some ⟨a, 0, none⟩) 1 1) [k] := by
  subst ha
  refine ⟨_, 1, rfl, Nat.le_refl _, by unfold maxLen; omega, fun _ => ⟨w.heap.size, 0, rfl, fun hf => ?_, by simp, fun j hj => ?_⟩⟩
  · have := (h.lt _ hf).2; omega
  · have hj0 : j = 0 := by simpa using hj
    subst hj0
    rw [Nat.zero_add, World.cell?_alloc_mark w _ e (0, 0) 0]
    rfl

/-! ### the calls, with what they make of the document's disk told ahead -/
section
variable {w : World} {lo g b : Nat} {d : KDisk} {A A' : ADisk} {v : Int}
theorem yappend (h : DiskAt w lo g b d) (hA : absD d = A) (hw : WfA A) (n : List UInt8) (hn : n.length ≤ 1099511627776) {Ad : Option Addr} {c m : Nat} (bl : List UInt8) (hml : m = bl.length) (hm : bl.length ≤ 1099511627776) (hA' : appendA A n bl = A') (hv : appendAV A n bl = v) (hS : Rdp w (fun k => ¬ Foot g b d.E k) (.slice Ad m c) bl) :
    Calls Try.prog 24 #[.pointer (some ⟨g, 0, none⟩), .string (str n), .slice Ad m c] w (AStep w lo g b d A' (.int .i64 v)) := by
  subst hA hA' hv hml
  exact aappend h hw n hn _ _ bl hm hS
theorem ysync (h : DiskAt w lo g b d) (hA : absD d = A) (hw : WfA A) (n : List UInt8) (hn : n.length ≤ 1099511627776) (hA' : syncA A n = A') (hv : syncAV A n = v) : Calls Try.prog 25 #[.pointer (some ⟨g, 0, none⟩), .string (str n)] w (AStep w lo g b d A' (.int .i64 v)) := by
  subst hA hA' hv
  exact async h hw n hn
theorem ydelete (h : DiskAt w lo g b d) (hA : absD d = A) (hw : WfA A) (n : List UInt8) (hn : n.length ≤ 1099511627776) (hA' : deleteA A n = A') (hv : deleteAV A n = v) : Calls Try.prog 34 #[.pointer (some ⟨g, 0, none⟩), .string (str n)] w (AStep w lo g b d A' (.int .i64 v)) := by
  subst hA hA' hv
  exact adelete h hw n hn
theorem yrename (h : DiskAt w lo g b d) (hA : absD d = A) (hw : WfA A) (x y : List UInt8) (hx : x.length ≤ 1099511627776) (hy : y.length ≤ 1099511627776) (hA' : renameA A x y = A') (hv : renameAV A x y = v) : Calls Try.prog 27 #[.pointer (some ⟨g, 0, none⟩), .string (str x), .string (str y)] w (AStep w lo g b d A' (.int .i64 v)) := by
  subst hA hA' hv
  exact arename h hw x y hx hy
theorem ystop (h : DiskAt w lo g b d) (hA : absD d = A) (n : Int) (hA' : stopA A n = A') (hv : stopV n = v) : Calls Try.prog 26 #[.pointer (some ⟨g, 0, none⟩), .int .i64 n] w (AStep w lo g b d A' (.int .i64 v)) := by
  subst hA hA' hv
  exact astop h n
/-- Names' lengths are lengths. -/
def NamesA (A : ADisk) : Prop := ∀ f ∈ A.L, f.name.length ≤ 1000000
theorem names_k {d : KDisk} (h : NamesA (absD d)) : ∀ e ∈ d.E, e.name.length ≤ maxLen := fun e he => by
  have := h (absF e) (List.mem_map_of_mem he)
  unfold maxLen
  have h2 : (absF e).name = e.name := rfl
  rw [h2] at this
  omega
theorem ycrash (h : DiskAt w lo g b d) (hA : absD d = A) (hw : WfA A) (hnm : NamesA A) (vk : Value) (ks : List Int) (hA' : crashA A ks = A') (hk : RdK w (fun x => ¬ Foot g b d.E x) vk ks) : Calls Try.prog 29 #[.pointer (some ⟨g, 0, none⟩), vk] w (AStep w lo g b d A' (.tuple #[])) := by
  subst hA hA'
  exact acrash h hw.k.2.1 hw.k.2.2 (names_k hnm) vk ks hk
theorem yclone (h : DiskAt w lo g b d) (hA : absD d = A) (hw : WfA A) (hnm : NamesA A) : Calls Try.prog 15 #[.pointer (some ⟨g, 0, none⟩)] w (MadeClone w d) := by
  subst hA
  exact kclone h hw.k.2.1 hw.k.2.2 (names_k hnm)
theorem ynames (h : DiskAt w lo g b d) (hA : absD d = A) (hw : WfA A) : Calls Try.prog 31 #[.pointer (some ⟨g, 0, none⟩)] w (MadeStrs w (A.L.map AFile.name)) := by
  subst hA
  have e : (absD d).L.map AFile.name = d.E.map KEnt.name := by
    show (d.E.map absF).map AFile.name = _
    rw [List.map_map]
    rfl
  rw [e]
  exact knames h hw.k.2.1
theorem yused (h : DiskAt w lo g b d) (hA : absD d = A) (hw : WfA A) : Calls Try.prog 32 #[.pointer (some ⟨g, 0, none⟩)] w (Made w (.int .i64 (usedA A.L : Int))) := by
  subst hA
  show Calls _ _ _ _ (Made w (.int .i64 (usedA (d.E.map absF) : Int)))
  rw [usedA_abs]
  exact kused h hw.k.2.2
theorem yoff (h : DiskAt w lo g b d) (hA : absD d = A) : Calls Try.prog 28 #[.pointer (some ⟨g, 0, none⟩)] w (Ans w (.bool A.off)) := by
  subst hA
  exact koff h
theorem ydeeds (h : DiskAt w lo g b d) (hA : absD d = A) : Calls Try.prog 33 #[.pointer (some ⟨g, 0, none⟩)] w (Ans w (.int .i64 A.deeds)) := by
  subst hA
  exact kdeeds h
/-- It answers these bytes, in a row of its own, and this number. -/
def ReadAnsA (w : World) (o : List UInt8 × Int) (e : Ending) (w' : World) : Prop := ∃ v, e = .returned (.tuple #[v, .int .i64 o.2]) ∧ Own w' w.heap.size 5 v (bvs o.1) ∧ Below w.heap.size w w'
theorem yread (h : DiskAt w lo g b d) (hA : absD d = A) (hw : WfA A) (n : List UInt8) (hn : n.length ≤ 1099511627776) : Calls Try.prog 30 #[.pointer (some ⟨g, 0, none⟩), .string (str n)] w (ReadAnsA w (readA A n)) := by
  subst hA
  refine (kread h n (by unfold maxLen; omega) (fun e he => ?_)).mono ?_
  · have h1 := used_mem he
    have h2 := hw.k.2.2
    omega
  · intro e w' hr
    unfold ReadAns at hr
    rw [read_abs] at hr
    exact hr
end
end Go.Proofs.Ytincdegoiknfhab
