/-
  A disk as the document has it: files by name with their bytes; what each call makes of it, in plain words; a step of a disk in memory. No condition.
-/
import Derived.Test.YtincdegoiknfhabKRen
namespace Go.Proofs.Ytincdegoiknfhab
open Go.RowKit

/-- A file as the document has it. -/
structure AFile where
  name : List UInt8
  bytes : List UInt8
  safe : Nat
/-- A disk as the document has it. -/
structure ADisk where
  q : Int
  deeds : Int
  lasts : Int
  off : Bool
  L : List AFile
def absF (e : KEnt) : AFile := ⟨e.name, e.bytes, e.safe⟩
def absD (d : KDisk) : ADisk := ⟨d.q, d.deeds, d.lasts, d.off, d.E.map absF⟩
def atA (L : List AFile) (n : List UInt8) : Option AFile := L.find? fun e => e.name == n
def insA (e : AFile) : List AFile → List AFile
  | [] => [e]
  | f :: r => if bytesBefore e.name f.name then e :: f :: r else f :: insA e r
def delA (n : List UInt8) (L : List AFile) : List AFile := L.filter fun e => !(e.name == n)
def putA (e : AFile) (L : List AFile) : List AFile := insA e (delA e.name L)
def updA (e : AFile) (L : List AFile) : List AFile := L.map fun f => if f.name = e.name then e else f
def usedA (L : List AFile) : Nat := (L.map fun e => e.bytes.length).sum
theorem atA_abs (E : List KEnt) (n : List UInt8) : atA (E.map absF) n = (atE E n).map absF := by
  unfold atA atE
  rw [List.find?_map]
  rfl
theorem insA_abs (e : KEnt) : ∀ E, (insE e E).map absF = insA (absF e) (E.map absF)
  | [] => rfl
  | f :: r => by
    unfold insE
    rw [List.map_cons, insA]
    show _ = if bytesBefore e.name f.name = true then _ else _
    rw [← insA_abs e r]
    split <;> rfl
theorem delA_abs (n : List UInt8) (E : List KEnt) : (delE n E).map absF = delA n (E.map absF) := by
  unfold delE delA
  rw [List.filter_map]
  rfl
theorem putA_abs (e : KEnt) (E : List KEnt) : (putE e E).map absF = putA (absF e) (E.map absF) := by
  unfold putE putA
  rw [insA_abs, delA_abs]
  rfl
theorem updA_abs (e : KEnt) (E : List KEnt) : (updE e E).map absF = updA (absF e) (E.map absF) := by
  unfold updE updA
  rw [List.map_map, List.map_map]
  apply List.map_congr_left
  intro f _
  show absF (if f.name = e.name then e else f) = if f.name = e.name then absF e else absF f
  split <;> rfl
theorem usedA_abs (E : List KEnt) : usedA (E.map absF) = usedE E := by
  unfold usedA usedE
  rw [List.map_map]
  rfl
def spendA (d : ADisk) : ADisk := if d.lasts = 0 then { d with off := true } else { d with lasts := if d.lasts = -1 then -1 else d.lasts - 1, deeds := d.deeds + 1 }
def spendAV (d : ADisk) : Int := if d.lasts = 0 then 30 else 0
theorem spend_abs (d : KDisk) : absD (spendD d) = spendA (absD d) := by
  unfold spendD spendA
  show _ = if d.lasts = 0 then _ else _
  split <;> rfl
def syncA (d : ADisk) (n : List UInt8) : ADisk := if d.off = true then d else match atA d.L n with | none => d | some e => if d.lasts = 0 then spendA d else { spendA d with L := updA { e with safe := e.bytes.length } d.L }
def syncAV (d : ADisk) (n : List UInt8) : Int := if d.off = true then 30 else match atA d.L n with | none => 4 | some _ => spendAV d
def deleteA (d : ADisk) (n : List UInt8) : ADisk := if d.off = true then d else match atA d.L n with | none => d | some _ => if d.lasts = 0 then spendA d else { spendA d with L := delA n d.L }
def deleteAV (d : ADisk) (n : List UInt8) : Int := if d.off = true then 30 else match atA d.L n with | none => 4 | some _ => spendAV d
def renameA (d : ADisk) (a b : List UInt8) : ADisk := if d.off = true then d else if nameB b = false then d else match atA d.L a with | none => d | some e => if d.lasts = 0 then spendA d else { spendA d with L := putA { e with name := b } (delA a d.L) }
def renameAV (d : ADisk) (a b : List UInt8) : Int := if d.off = true then 30 else if nameB b = false then 31 else match atA d.L a with | none => 4 | some _ => spendAV d
def readA (d : ADisk) (n : List UInt8) : List UInt8 × Int := if d.off = true then ([], 30) else match atA d.L n with | none => ([], 4) | some e => (e.bytes, 0)
def stopA (d : ADisk) (n : Int) : ADisk := if n < 0 then d else { d with lasts := n }
def fullA (d : ADisk) (n bl : List UInt8) : Bool := ((atA d.L n).isNone && decide (64 ≤ d.L.length)) || decide (d.q < (usedA d.L + bl.length : Nat))
def grownL (L : List AFile) (n bl : List UInt8) : List AFile := match atA L n with | some e => updA { e with bytes := e.bytes ++ bl } L | none => putA ⟨n, bl, 0⟩ L
def appendA (d : ADisk) (n bl : List UInt8) : ADisk := if d.off = true then d else if nameB n = false then d else if fullA d n bl = true then d else spendA { d with L := grownL d.L n bl }
def appendAV (d : ADisk) (n bl : List UInt8) : Int := if d.off = true then 30 else if nameB n = false then 31 else if fullA d n bl = true then 2 else spendAV d
/-- What the walks ask of a disk's sizes. -/
def WfA (d : ADisk) : Prop := -1 ≤ d.lasts ∧ d.lasts ≤ 9223372036854775807 ∧ 0 ≤ d.deeds ∧ d.deeds ≤ 1000000 ∧ d.L.length ≤ 1000000 ∧ usedA d.L ≤ 1099511627776
theorem WfA.k {d : KDisk} (h : WfA (absD d)) : WfK d ∧ d.E.length ≤ 1000000 ∧ usedE d.E ≤ 1099511627776 := by
  obtain ⟨h1, h2, h3, h4, h5, h6⟩ := h
  refine ⟨⟨h1, h2, h3, h4⟩, ?_, ?_⟩
  · simpa [absD] using h5
  · rw [← usedA_abs]; exact h6
theorem used_mem {E : List KEnt} {e : KEnt} (h : e ∈ E) : e.bytes.length ≤ usedE E := by
  induction E with
  | nil => cases h
  | cons x r ih =>
    unfold usedE at *
    rw [List.map_cons, List.sum_cons]
    rcases List.mem_cons.1 h with rfl | h2
    · omega
    · have := ih h2; omega
/-- It answers v; the disk is what A' says then; nothing else turns, and it is made of no old blocks but its own. -/
def AStep (w : World) (lo g b : Nat) (d : KDisk) (A' : ADisk) (v : Value) (e : Ending) (w' : World) : Prop :=
  e = .returned v ∧ ∃ d', DiskAt w' lo g b d' ∧ absD d' = A' ∧ KeptOff (Foot g b d.E) w w' ∧ ∀ k, Foot g b d'.E k → Foot g b d.E k ∨ w.heap.size ≤ k
theorem foot_sub {g b k : Nat} {E E' : List KEnt} (h : ∀ e ∈ E', ∃ f ∈ E, e.g = f.g ∧ e.v = f.v) (hk : Foot g b E' k) : Foot g b E k := by
  rcases hk with rfl | rfl | ⟨e, he, hk⟩
  · exact .inl rfl
  · exact .inr (.inl rfl)
  · obtain ⟨f, hf, h1, h2⟩ := h e he
    exact .inr (.inr ⟨f, hf, by rw [← h1, ← h2]; exact hk⟩)
theorem Step.abs {F : Nat → Prop} {w w' : World} {lo g b : Nat} {d d' : KDisk} {v : Value} {e : Ending} {A' : ADisk} (h : Step F w lo g b d' v e w') (hF : ∀ k, F k → Foot g b d.E k) (hA : absD d' = A') (hE : ∀ e ∈ d'.E, ∃ f ∈ d.E, e.g = f.g ∧ e.v = f.v) : AStep w lo g b d A' v e w' :=
  ⟨h.1, d', h.2.1, hA, h.2.2.wide hF, fun _ hk => .inl (foot_sub hE hk)⟩
theorem sub_id (E : List KEnt) : ∀ e ∈ E, ∃ f ∈ E, e.g = f.g ∧ e.v = f.v := fun e he => ⟨e, he, rfl, rfl⟩
theorem sub_upd {E : List KEnt} {e e' : KEnt} (he : e ∈ E) (h1 : e'.g = e.g) (h2 : e'.v = e.v) : ∀ x ∈ updE e' E, ∃ f ∈ E, x.g = f.g ∧ x.v = f.v := by
  intro x hx
  unfold updE at hx
  obtain ⟨f, hf, rfl⟩ := List.mem_map.1 hx
  by_cases hn : f.name = e'.name
  · rw [if_pos hn]; exact ⟨e, he, h1, h2⟩
  · rw [if_neg hn]; exact ⟨f, hf, rfl, rfl⟩
theorem sync_abs (d : KDisk) (n : List UInt8) : absD (syncD d n) = syncA (absD d) n ∧ ∀ e ∈ (syncD d n).E, ∃ f ∈ d.E, e.g = f.g ∧ e.v = f.v := by
  unfold syncD syncA
  show absD (if d.off = true then _ else _) = (if d.off = true then _ else _) ∧ _
  by_cases ho : d.off = true
  · rw [if_pos ho, if_pos ho]; exact ⟨rfl, sub_id _⟩
  · rw [if_neg ho, if_neg ho]
    show _ = (match atA (d.E.map absF) n with | none => _ | some e => _) ∧ _
    rw [atA_abs]
    cases he : atE d.E n with
    | none => exact ⟨rfl, sub_id _⟩
    | some e =>
      obtain ⟨hm, hn⟩ := atE_mem he
      show absD (if d.lasts = 0 then _ else _) = (if d.lasts = 0 then _ else _) ∧ ∀ e ∈ (if d.lasts = 0 then _ else _ : KDisk).E, _
      by_cases h0 : d.lasts = 0
      · rw [if_pos h0, if_pos h0]; exact ⟨spend_abs d, by rw [spendE]; exact sub_id _⟩
      · rw [if_neg h0, if_neg h0]
        refine ⟨?_, sub_upd (e' := { e with safe := e.bytes.length }) hm rfl rfl⟩
        rw [← spend_abs]
        unfold absD
        simp only [updA_abs]
        rfl
theorem delete_abs (d : KDisk) (n : List UInt8) : absD (deleteD d n) = deleteA (absD d) n ∧ ∀ e ∈ (deleteD d n).E, ∃ f ∈ d.E, e.g = f.g ∧ e.v = f.v := by
  unfold deleteD deleteA
  show absD (if d.off = true then _ else _) = (if d.off = true then _ else _) ∧ _
  by_cases ho : d.off = true
  · rw [if_pos ho, if_pos ho]; exact ⟨rfl, sub_id _⟩
  · rw [if_neg ho, if_neg ho]
    show _ = (match atA (d.E.map absF) n with | none => _ | some e => _) ∧ _
    rw [atA_abs]
    cases he : atE d.E n with
    | none => exact ⟨rfl, sub_id _⟩
    | some e =>
      show absD (if d.lasts = 0 then _ else _) = (if d.lasts = 0 then _ else _) ∧ ∀ e ∈ (if d.lasts = 0 then _ else _ : KDisk).E, _
      by_cases h0 : d.lasts = 0
      · rw [if_pos h0, if_pos h0]; exact ⟨spend_abs d, by rw [spendE]; exact sub_id _⟩
      · rw [if_neg h0, if_neg h0]
        refine ⟨?_, fun e he => ⟨e, (delE_mem he).1, rfl, rfl⟩⟩
        rw [← spend_abs]
        unfold absD
        simp only [delA_abs]
theorem rename_abs (d : KDisk) (x y : List UInt8) : absD (renameD d x y) = renameA (absD d) x y ∧ ∀ e ∈ (renameD d x y).E, ∃ f ∈ d.E, e.g = f.g ∧ e.v = f.v := by
  unfold renameD renameA
  show absD (if d.off = true then _ else _) = (if d.off = true then _ else _) ∧ _
  by_cases ho : d.off = true
  · rw [if_pos ho, if_pos ho]; exact ⟨rfl, sub_id _⟩
  · rw [if_neg ho, if_neg ho]
    by_cases hy : nameB y = false
    · rw [if_pos hy, if_pos hy]; exact ⟨rfl, sub_id _⟩
    · rw [if_neg hy, if_neg hy]
      show _ = (match atA (d.E.map absF) x with | none => _ | some e => _) ∧ _
      rw [atA_abs]
      cases he : atE d.E x with
      | none => exact ⟨rfl, sub_id _⟩
      | some e =>
        obtain ⟨hm, hn⟩ := atE_mem he
        show absD (if d.lasts = 0 then _ else _) = (if d.lasts = 0 then _ else _) ∧ ∀ e ∈ (if d.lasts = 0 then _ else _ : KDisk).E, _
        by_cases h0 : d.lasts = 0
        · rw [if_pos h0, if_pos h0]; exact ⟨spend_abs d, by rw [spendE]; exact sub_id _⟩
        · rw [if_neg h0, if_neg h0]
          refine ⟨?_, fun f hf => ?_⟩
          · rw [← spend_abs]
            unfold absD renE
            simp only [putA_abs, delA_abs]
            rfl
          · have hf' : f ∈ renE d.E e x y := hf
            unfold renE putE at hf'
            rcases insE_mem hf' with rfl | hf'
            · exact ⟨e, hm, rfl, rfl⟩
            · exact ⟨f, (delE_mem (delE_mem hf').1).1, rfl, rfl⟩
theorem spendV_abs (d : KDisk) : spendV d = spendAV (absD d) := rfl
theorem syncV_abs (d : KDisk) (n : List UInt8) : syncV d n = syncAV (absD d) n := by
  unfold syncV syncAV
  show (if d.off = true then _ else _) = (if d.off = true then _ else match atA (d.E.map absF) n with | none => _ | some _ => _)
  rw [atA_abs]
  cases atE d.E n <;> rfl
theorem deleteV_abs (d : KDisk) (n : List UInt8) : deleteV d n = deleteAV (absD d) n := by
  unfold deleteV deleteAV
  show (if d.off = true then _ else _) = (if d.off = true then _ else match atA (d.E.map absF) n with | none => _ | some _ => _)
  rw [atA_abs]
  cases atE d.E n <;> rfl
theorem renameV_abs (d : KDisk) (x y : List UInt8) : renameV d x y = renameAV (absD d) x y := by
  unfold renameV renameAV
  show (if d.off = true then _ else _) = (if d.off = true then _ else if nameB y = false then _ else match atA (d.E.map absF) x with | none => _ | some _ => _)
  rw [atA_abs]
  cases atE d.E x <;> rfl
theorem read_abs (d : KDisk) (n : List UInt8) : readL d n = readA (absD d) n := by
  unfold readL readA
  show (if d.off = true then _ else _) = (if d.off = true then _ else match atA (d.E.map absF) n with | none => _ | some _ => _)
  rw [atA_abs]
  cases atE d.E n <;> rfl

/-! ### the calls, as steps of the document's disk -/
section
variable {w : World} {lo g b : Nat} {d : KDisk}
theorem async (h : DiskAt w lo g b d) (hw : WfA (absD d)) (n : List UInt8) (hn : n.length ≤ 1099511627776) : Calls Try.prog 25 #[.pointer (some ⟨g, 0, none⟩), .string (str n)] w (AStep w lo g b d (syncA (absD d) n) (.int .i64 (syncAV (absD d) n))) := by
  refine (ksync h hw.k.1 n (by unfold maxLen; omega)).mono ?_
  intro e w' hs
  rw [← syncV_abs]
  exact hs.abs (fun _ h => h) (sync_abs d n).1 (sync_abs d n).2
theorem adelete (h : DiskAt w lo g b d) (hw : WfA (absD d)) (n : List UInt8) (hn : n.length ≤ 1099511627776) : Calls Try.prog 34 #[.pointer (some ⟨g, 0, none⟩), .string (str n)] w (AStep w lo g b d (deleteA (absD d) n) (.int .i64 (deleteAV (absD d) n))) := by
  refine (kdelete h hw.k.1 n (by unfold maxLen; omega)).mono ?_
  intro e w' hs
  rw [← deleteV_abs]
  exact hs.abs (fun _ h => h) (delete_abs d n).1 (delete_abs d n).2
theorem arename (h : DiskAt w lo g b d) (hw : WfA (absD d)) (x y : List UInt8) (hx : x.length ≤ 1099511627776) (hy : y.length ≤ 1099511627776) : Calls Try.prog 27 #[.pointer (some ⟨g, 0, none⟩), .string (str x), .string (str y)] w (AStep w lo g b d (renameA (absD d) x y) (.int .i64 (renameAV (absD d) x y))) := by
  refine (krename h hw.k.1 x y hx hy hw.k.2.1).mono ?_
  intro e w' hs
  rw [← renameV_abs]
  exact hs.abs (fun _ h => h) (rename_abs d x y).1 (rename_abs d x y).2
theorem astop (h : DiskAt w lo g b d) (n : Int) : Calls Try.prog 26 #[.pointer (some ⟨g, 0, none⟩), .int .i64 n] w (AStep w lo g b d (stopA (absD d) n) (.int .i64 (stopV n))) := by
  refine (kstop h n).mono ?_
  intro e w' hs
  refine hs.abs (fun k hk => .inl hk) ?_ ?_
  · unfold stopD stopA; split <;> rfl
  · have : (stopD d n).E = d.E := by unfold stopD; split <;> rfl
    rw [this]; exact sub_id _
end
end Go.Proofs.Ytincdegoiknfhab
