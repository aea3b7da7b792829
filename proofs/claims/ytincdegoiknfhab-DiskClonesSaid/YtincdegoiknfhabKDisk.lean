/-
  A disk in memory: its block, its map, its files' blocks, their rows; what is kept where other blocks are written. No condition.
-/
import Derived.Test.YtincdegoiknfhabKMap
import Derived.Test.YtincdegoiknfhabKNil
import Derived.WalkSpells
namespace Go.Proofs.Ytincdegoiknfhab
open Go.RowKit

structure KDisk where
  q : Int
  deeds : Int
  lasts : Int
  off : Bool
  E : List KEnt
def FileAt (w : World) (lo : Nat) (e : KEnt) : Prop := lo ≤ e.g ∧ Blk w e.g 82 #[e.v, .int .i64 (e.safe : Int)] ∧ Own w lo 5 e.v (bvs e.bytes) ∧ e.safe ≤ e.bytes.length
def KApart (e f : KEnt) : Prop := e.g ≠ f.g ∧ (e.v.ownBlock = none ∨ e.v.ownBlock ≠ f.v.ownBlock)
/-- A disk lies at block g, its map at block b, all at lo or above. -/
def DiskAt (w : World) (lo g b : Nat) (d : KDisk) : Prop :=
  lo ≤ g ∧ lo ≤ b ∧ Blk w g 64 #[.int .i64 d.q, .map (some b), .int .i64 d.deeds, .int .i64 d.lasts, .bool d.off] ∧ MapAt w b d.E ∧ (∀ e ∈ d.E, FileAt w lo e) ∧ d.E.Pairwise KApart
/-- The blocks that a disk is made of. -/
def Foot (g b : Nat) (E : List KEnt) (k : Nat) : Prop := k = g ∨ k = b ∨ ∃ e ∈ E, k = e.g ∨ e.v.ownBlock = some k
/-- Nothing turns but in the blocks of F, and new ones. -/
def KeptOff (F : Nat → Prop) (w w' : World) : Prop := w'.os = w.os ∧ w'.tape = w.tape ∧ w'.output = w.output ∧ w.heap.size ≤ w'.heap.size ∧ ∀ k, k < w.heap.size → ¬ F k → w'.heap[k]? = w.heap[k]?

theorem KeptOff.refl (F : Nat → Prop) (w : World) : KeptOff F w w := ⟨rfl, rfl, rfl, Nat.le_refl _, fun _ _ _ => rfl⟩
theorem KeptOff.trans {F G : Nat → Prop} {a b c : World} (h : KeptOff F a b) (k : KeptOff G b c) (hG : ∀ x, G x → F x ∨ a.heap.size ≤ x) : KeptOff F a c :=
  ⟨k.1.trans h.1, k.2.1.trans h.2.1, k.2.2.1.trans h.2.2.1, Nat.le_trans h.2.2.2.1 k.2.2.2.1, fun x hx hf =>
    (k.2.2.2.2 x (Nat.lt_of_lt_of_le hx h.2.2.2.1) fun hg => (hG x hg).elim hf (fun h => by omega)).trans (h.2.2.2.2 x hx hf)⟩
theorem KeptOff.below {F : Nat → Prop} {a b : World} {lo : Nat} (h : KeptOff F a b) (hF : ∀ x, F x → lo ≤ x) (hl : lo ≤ a.heap.size) : Below lo a b :=
  ⟨h.1, h.2.1, h.2.2.1, h.2.2.2.1, fun x hx => h.2.2.2.2 x (by omega) fun hf => by have := hF x hf; omega⟩
theorem Below.off {a b : World} {F : Nat → Prop} (h : Below a.heap.size a b) : KeptOff F a b := ⟨h.os, h.tape, h.output, h.size, fun x hx _ => h.block x hx⟩
theorem KeptOff.set {F : Nat → Prop} (w : World) (g i : Nat) (u : Value) (hF : F g) : KeptOff F w (w.setCell ⟨g, i, none⟩ u) :=
  ⟨rfl, rfl, rfl, by simp, fun k _ hk => Below.heap_setCell _ _ _ _ (fun e => hk (by rw [e]; exact hF))⟩
theorem Own.blk {w w' : World} {lo e : Nat} {v : Value} {xs : List Value} (h : Own w lo e v xs) (hb : ∀ k, v.ownBlock = some k → w'.heap[k]? = w.heap[k]?) : Own w' lo e v xs := by
  obtain ⟨h1, h2⟩ := h
  refine ⟨h1, ?_⟩
  rcases h2 with h2 | ⟨g, cap, cur, rfl, hg, hh, r⟩
  · exact .inl h2
  · exact .inr ⟨g, cap, cur, rfl, hg, (hb g rfl).trans hh, r⟩
theorem Own.ownLt {w : World} {lo e : Nat} {v : Value} {xs : List Value} (h : Own w lo e v xs) (k : Nat) (hk : v.ownBlock = some k) : lo ≤ k ∧ k < w.heap.size := World.ownsRow.lt h k hk
theorem MapAt.blk {w w' : World} {b : Nat} {E : List KEnt} (h : MapAt w b E) (hb : w'.heap[b]? = w.heap[b]?) : MapAt w' b E := by
  obtain ⟨es, clock, h1, r⟩ := h
  exact ⟨es, clock, hb.trans h1, r⟩
theorem DiskAt.lt {w : World} {lo g b : Nat} {d : KDisk} (h : DiskAt w lo g b d) : ∀ k, Foot g b d.E k → lo ≤ k ∧ k < w.heap.size := by
  obtain ⟨h1, h2, h3, h4, h5, _⟩ := h
  rintro k (rfl | rfl | ⟨e, he, rfl | hk⟩)
  · exact ⟨h1, h3.lt⟩
  · exact ⟨h2, h4.lt⟩
  · exact ⟨(h5 e he).1, (h5 e he).2.1.lt⟩
  · exact (h5 e he).2.2.1.ownLt k hk
/-- A disk is as it was where nothing of it turns. -/
theorem DiskAt.keep {w w' : World} {lo g b : Nat} {d : KDisk} (h : DiskAt w lo g b d) (hb : ∀ k, Foot g b d.E k → w'.heap[k]? = w.heap[k]?) : DiskAt w' lo g b d := by
  obtain ⟨h1, h2, h3, h4, h5, h6⟩ := h
  refine ⟨h1, h2, (hb g (.inl rfl)).trans h3, h4.blk (hb b (.inr (.inl rfl))), fun e he => ?_, h6⟩
  obtain ⟨f1, f2, f3, f4⟩ := h5 e he
  exact ⟨f1, (hb e.g (.inr (.inr ⟨e, he, .inl rfl⟩))).trans f2, f3.blk fun k hk => hb k (.inr (.inr ⟨e, he, .inr hk⟩)), f4⟩
theorem DiskAt.below {w w' : World} {lo g b : Nat} {d : KDisk} (h : DiskAt w lo g b d) (hb : Below w.heap.size w w') : DiskAt w' lo g b d := h.keep fun k hk => hb.block k (h.lt k hk).2
theorem DiskAt.off_ {w w' : World} {lo g b : Nat} {d : KDisk} {F : Nat → Prop} (h : DiskAt w lo g b d) (ho : KeptOff F w w') (hF : ∀ k, Foot g b d.E k → ¬ F k) : DiskAt w' lo g b d := h.keep fun k hk => ho.2.2.2.2 k (h.lt k hk).2 (hF k hk)
/-- The disk's own block alone turns. -/
theorem DiskAt.set {w : World} {lo g b : Nat} {d d' : KDisk} (h : DiskAt w lo g b d) (i : Nat) (u : Value) (hE : d'.E = d.E)
    (hc : (#[.int .i64 d.q, .map (some b), .int .i64 d.deeds, .int .i64 d.lasts, .bool d.off] : Array Value).setIfInBounds i u = #[.int .i64 d'.q, .map (some b), .int .i64 d'.deeds, .int .i64 d'.lasts, .bool d'.off]) :
    DiskAt (w.setCell ⟨g, i, none⟩ u) lo g b d' := by
  obtain ⟨h1, h2, h3, h4, h5, h6⟩ := h
  have hne : ∀ k, k ≠ g → (w.setCell ⟨g, i, none⟩ u).heap[k]? = w.heap[k]? := fun k hk => Below.heap_setCell _ _ _ _ hk
  have h3' := h3.set i u
  rw [hc] at h3'
  refine ⟨h1, h2, h3', ?_, ?_, ?_⟩
  · rw [hE]
    refine h4.blk (hne b fun e => ?_)
    subst e
    obtain ⟨es, clock, hb, _⟩ := h4
    unfold Blk at h3
    rw [h3] at hb
    cases hb
  · rw [hE]
    intro e he
    obtain ⟨f1, f2, f3, f4⟩ := h5 e he
    refine ⟨f1, (hne e.g fun x => ?_).trans f2, f3.blk fun k hk => hne k fun x => ?_, f4⟩
    · unfold Blk at h3 f2
      rw [x, h3] at f2
      injection f2 with f2
      injection f2 with _ f2 _
      exact absurd f2 (by decide)
    · subst x
      rcases f3.2 with ⟨e1, _⟩ | ⟨g', cap, cur, e1, _, hh, _⟩
      · rw [e1] at hk
        cases hk
      · rw [e1] at hk
        injection hk with hk
        subst hk
        unfold Blk at h3
        rw [h3] at hh
        injection hh with hh
        injection hh with _ hh _
        exact absurd hh (by decide)
  · rw [hE]; exact h6

/-! ### the small calls -/
def spendD (d : KDisk) : KDisk := if d.lasts = 0 then { d with off := true } else { d with lasts := if d.lasts = -1 then -1 else d.lasts - 1, deeds := d.deeds + 1 }
def spendV (d : KDisk) : Int := if d.lasts = 0 then 30 else 0
set_option maxRecDepth 100000 in
theorem kclosed {w : World} {lo g b : Nat} {d : KDisk} (h : DiskAt w lo g b d) : Calls Try.prog 43 #[.pointer (some ⟨g, 0, none⟩)] w (Ans w (.bool false)) := by
  have c1 : w.cell? ⟨g, 1, none⟩ = some (.map (some b)) := h.2.2.1.cell 1
  have hq := run_eql_map_nil (P := Try.prog) w _ _ _ (some b) Try.underlying62
  clear h
  go_enter Try.func43, Try.ntmps43
  go_wp2_with fail
  go_ret
  exact ⟨rfl, rfl⟩
def readyV (d : KDisk) : Int := if d.off = true then 30 else 0
theorem kready {w : World} {lo g b : Nat} {d : KDisk} (h : DiskAt w lo g b d) : Calls Try.prog 55 #[.pointer (some ⟨g, 0, none⟩)] w (Ans w (.int .i64 (readyV d))) := by
  have k1 := kclosed h
  have c4 : w.cell? ⟨g, 4, none⟩ = some (.bool d.off) := h.2.2.1.cell 4
  have K := Lib.hid k1
  clear h k1
  unfold readyV
  generalize d.off = o at *
  cases o <;>
  · go_enter Try.func55, Try.ntmps55
    go_wp2_with (go_at_call 43; refine K.out.mono ?_; rintro e w' ⟨rfl, rfl⟩)
    go_ret
    exact ⟨rfl, rfl⟩
theorem koff {w : World} {lo g b : Nat} {d : KDisk} (h : DiskAt w lo g b d) : Calls Try.prog 28 #[.pointer (some ⟨g, 0, none⟩)] w (Ans w (.bool d.off)) := by
  have k1 := kclosed h
  have c4 : w.cell? ⟨g, 4, none⟩ = some (.bool d.off) := h.2.2.1.cell 4
  have K := Lib.hid k1
  clear h k1
  go_enter Try.func28, Try.ntmps28
  go_wp2_with (go_at_call 43; refine K.out.mono ?_; rintro e w' ⟨rfl, rfl⟩)
  go_ret
  exact ⟨rfl, rfl⟩
theorem kdeeds {w : World} {lo g b : Nat} {d : KDisk} (h : DiskAt w lo g b d) : Calls Try.prog 33 #[.pointer (some ⟨g, 0, none⟩)] w (Ans w (.int .i64 d.deeds)) := by
  have k1 := kclosed h
  have c2 : w.cell? ⟨g, 2, none⟩ = some (.int .i64 d.deeds) := h.2.2.1.cell 2
  have K := Lib.hid k1
  clear h k1
  go_enter Try.func33, Try.ntmps33
  go_wp2_with (go_at_call 43; refine K.out.mono ?_; rintro e w' ⟨rfl, rfl⟩)
  go_ret
  exact ⟨rfl, rfl⟩
end Go.Proofs.Ytincdegoiknfhab
