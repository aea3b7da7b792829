/-
  The document's disk in memory: its block, its row of files of three cells each, their bytes' rows. No condition.
-/
import Derived.Test.YtincdegoiknfhabJPos
import Derived.Test.YtincdegoiknfhabJWide
namespace Go.Proofs.Ytincdegoiknfhab
open Go.RowKit

structure RF where
  name : List UInt8
  v : Value
  bytes : List UInt8
  safe : Nat
structure RDisk where
  q : Int
  deeds : Int
  lasts : Int
  off : Bool
  v : Value
  E : List RF
def absRF (e : RF) : AFile := ⟨e.name, e.bytes, e.safe⟩
def absR (d : RDisk) : ADisk := ⟨d.q, d.deeds, d.lasts, d.off, d.E.map absRF⟩
def rcell (e : RF) : List Value := [.string (str e.name), e.v, .int .i64 (e.safe : Int)]
def rcells : List RF → List Value
  | [] => []
  | e :: r => .string (str e.name) :: e.v :: .int .i64 (e.safe : Int) :: rcells r
theorem rcells_len : ∀ E : List RF, (rcells E).length = E.length * 3
  | [] => rfl
  | e :: r => by
    show (rcells r).length + 1 + 1 + 1 = (r.length + 1) * 3
    rw [rcells_len r]; omega
theorem rcells_app : ∀ E F : List RF, rcells (E ++ F) = rcells E ++ rcells F
  | [], _ => rfl
  | e :: r, F => by
    show _ :: _ :: _ :: rcells (r ++ F) = _
    rw [rcells_app r F]; rfl
theorem rcells_take : ∀ (E : List RF) (i : Nat), (rcells E).take (i * 3) = rcells (E.take i)
  | _, 0 => by rw [Nat.zero_mul]; rfl
  | [], i + 1 => by rw [List.take_nil]; exact List.take_nil
  | e :: r, i + 1 => by
    rw [show (i + 1) * 3 = i * 3 + 1 + 1 + 1 from by omega]
    show _ :: _ :: _ :: (rcells r).take (i * 3) = _
    rw [rcells_take r i]; rfl
theorem rcells_drop : ∀ (E : List RF) (i : Nat), (rcells E).drop (i * 3) = rcells (E.drop i)
  | _, 0 => by rw [Nat.zero_mul]; rfl
  | [], i + 1 => by rw [List.drop_nil]; exact List.drop_nil
  | e :: r, i + 1 => by
    rw [show (i + 1) * 3 = i * 3 + 1 + 1 + 1 from by omega]
    show (rcells r).drop (i * 3) = _
    rw [rcells_drop r i]; rfl
theorem rcells_at : ∀ (E : List RF) (i : Nat) (h : i < E.length), (rcells E)[i * 3]? = some (.string (str E[i].name)) ∧ (rcells E)[i * 3 + 1]? = some E[i].v ∧ (rcells E)[i * 3 + 2]? = some (.int .i64 (E[i].safe : Int))
  | [], i, h => absurd h (by simp)
  | e :: r, 0, h => ⟨rfl, rfl, rfl⟩
  | e :: r, i + 1, h => by
    have := rcells_at r i (by simpa using h)
    rw [show (i + 1) * 3 = i * 3 + 1 + 1 + 1 from by omega]
    exact this
theorem rcells_setv : ∀ (E : List RF) (i : Nat) (h : i < E.length) (u : Value) (b : List UInt8), (rcells E).set (i * 3 + 1) u = rcells (E.set i { E[i] with v := u, bytes := b })
  | [], i, h, _, _ => absurd h (by simp)
  | e :: r, 0, h, _, _ => rfl
  | e :: r, i + 1, h, u, b => by
    have := rcells_setv r i (by simpa using h) u b
    rw [show (i + 1) * 3 = i * 3 + 1 + 1 + 1 from by omega]
    show _ :: _ :: _ :: (rcells r).set (i * 3 + 1) u = _
    rw [this]; rfl
theorem rcells_sets : ∀ (E : List RF) (i : Nat) (h : i < E.length) (s : Nat), (rcells E).set (i * 3 + 2) (.int .i64 (s : Int)) = rcells (E.set i { E[i] with safe := s })
  | [], i, h, _ => absurd h (by simp)
  | e :: r, 0, h, _ => rfl
  | e :: r, i + 1, h, s => by
    have := rcells_sets r i (by simpa using h) s
    rw [show (i + 1) * 3 = i * 3 + 1 + 1 + 1 from by omega]
    show _ :: _ :: _ :: (rcells r).set (i * 3 + 2) _ = _
    rw [this]; rfl
def RFile (w : World) (_lo : Nat) (e : RF) : Prop := Own w 0 5 e.v (bvs e.bytes) ∧ e.safe ≤ e.bytes.length
theorem rcells_one {w : World} {lo : Nat} : ∀ {E : List RF}, (∀ e ∈ E, RFile w lo e) → ∀ u ∈ rcells E, u.oneCell' = true
  | [], _, u, hu => by cases hu
  | e :: r, h, u, hu => by
    rcases List.mem_cons.1 hu with rfl | hu
    · rfl
    rcases List.mem_cons.1 hu with rfl | hu
    · obtain ⟨A, c, hv⟩ := own_shape (h e (by simp)).1
      rw [hv]; rfl
    rcases List.mem_cons.1 hu with rfl | hu
    · rfl
    exact rcells_one (fun x hx => h x (by simp [hx])) u hu
/-- The document's disk lies at block g, its row and its files' rows at lo or above. -/
def RDiskAt (w : World) (lo g : Nat) (d : RDisk) : Prop :=
  lo ≤ g ∧ Blk w g 67 #[d.v, .int .i64 d.q, .int .i64 d.lasts, .bool d.off, .int .i64 d.deeds] ∧ w.ownsRow lo 78 3 d.v d.E.length (rcells d.E) ∧ ∀ e ∈ d.E, RFile w lo e
/-- The blocks that it is made of. -/
def RFoot (g : Nat) (d : RDisk) (k : Nat) : Prop := k = g ∨ d.v.ownBlock = some k ∨ ∃ e ∈ d.E, e.v.ownBlock = some k
theorem RFile.blk {w w' : World} {lo : Nat} {e : RF} (h : RFile w lo e) (hb : ∀ k, e.v.ownBlock = some k → w'.heap[k]? = w.heap[k]?) : RFile w' lo e := ⟨h.1.blk hb, h.2⟩
theorem RDiskAt.lt {w : World} {lo g : Nat} {d : RDisk} (h : RDiskAt w lo g d) : ∀ k, RFoot g d k → 0 ≤ k ∧ k < w.heap.size := by
  obtain ⟨_, h2, h3, h4⟩ := h
  rintro k (rfl | hk | ⟨e, he, hk⟩)
  · exact ⟨Nat.zero_le _, h2.lt⟩
  · exact ⟨Nat.zero_le _, (World.ownsRow.lt h3 k hk).2⟩
  · exact (h4 e he).1.ownLt k hk
theorem RDiskAt.ltg {w : World} {lo g : Nat} {d : RDisk} (h : RDiskAt w lo g d) : lo ≤ g ∧ g < w.heap.size := ⟨h.1, h.2.1.lt⟩
/-- The blocks that are written, in place: the disk's own, and its row. -/
def RW (g : Nat) (d : RDisk) (k : Nat) : Prop := k = g ∨ d.v.ownBlock = some k
theorem RDiskAt.rw_lt {w : World} {lo g : Nat} {d : RDisk} (h : RDiskAt w lo g d) : ∀ k, RW g d k → lo ≤ k ∧ k < w.heap.size := by
  rintro k (rfl | hk)
  · exact h.ltg
  · exact World.ownsRow.lt h.2.2.1 k hk
theorem RW.foot {g : Nat} {d : RDisk} {k : Nat} (h : RW g d k) : RFoot g d k := h.elim .inl fun h => .inr (.inl h)
theorem RDiskAt.keep {w w' : World} {lo g : Nat} {d : RDisk} (h : RDiskAt w lo g d) (hb : ∀ k, RFoot g d k → w'.heap[k]? = w.heap[k]?) : RDiskAt w' lo g d :=
  ⟨h.1, (hb g (.inl rfl)).trans h.2.1, ownsRow_blk h.2.2.1 fun k hk => hb k (.inr (.inl hk)), fun e he => (h.2.2.2 e he).blk fun k hk => hb k (.inr (.inr ⟨e, he, hk⟩))⟩
theorem RDiskAt.below {w w' : World} {lo g : Nat} {d : RDisk} (h : RDiskAt w lo g d) (hb : Below w.heap.size w w') : RDiskAt w' lo g d := h.keep fun k hk => hb.block k (h.lt k hk).2
theorem RDiskAt.off_ {w w' : World} {lo g : Nat} {d : RDisk} {F : Nat → Prop} (h : RDiskAt w lo g d) (ho : KeptOff F w w') (hF : ∀ k, RFoot g d k → ¬ F k) : RDiskAt w' lo g d := h.keep fun k hk => ho.2.2.2.2 k (h.lt k hk).2 (hF k hk)
/-- A row of bytes, and one of files, lie apart from a disk's block, and from each other. -/
theorem RDiskAt.rowNe {w : World} {lo g : Nat} {d : RDisk} (h : RDiskAt w lo g d) (k : Nat) (hk : d.v.ownBlock = some k) : k ≠ g := by
  obtain ⟨cur, hc⟩ := ownsRow_rowAt h.2.2.1 k hk
  exact cells_ne hc h.2.1 (by decide)
theorem RDiskAt.fileNe {w : World} {lo g : Nat} {d : RDisk} (h : RDiskAt w lo g d) {e : RF} (he : e ∈ d.E) (k : Nat) (hk : e.v.ownBlock = some k) : k ≠ g ∧ d.v.ownBlock ≠ some k := by
  obtain ⟨cur, hc⟩ := (h.2.2.2 e he).1.rowAt k hk
  refine ⟨cells_ne hc h.2.1 (by decide), fun hx => ?_⟩
  obtain ⟨cur2, hc2⟩ := ownsRow_rowAt h.2.2.1 k hx
  exact cells_ne hc hc2 (by decide) rfl
/-- The disk's own block alone turns. -/
theorem RDiskAt.set {w : World} {lo g : Nat} {d d' : RDisk} (h : RDiskAt w lo g d) (i : Nat) (u : Value) (hE : d'.E = d.E) (hv : d'.v = d.v)
    (hc : (#[d.v, .int .i64 d.q, .int .i64 d.lasts, .bool d.off, .int .i64 d.deeds] : Array Value).setIfInBounds i u = #[d'.v, .int .i64 d'.q, .int .i64 d'.lasts, .bool d'.off, .int .i64 d'.deeds]) :
    RDiskAt (w.setCell ⟨g, i, none⟩ u) lo g d' := by
  have hne : ∀ k, k ≠ g → (w.setCell ⟨g, i, none⟩ u).heap[k]? = w.heap[k]? := fun k hk => Below.heap_setCell _ _ _ _ hk
  have h3 := h.2.1.set i u
  rw [hc] at h3
  refine ⟨h.1, h3, ?_, ?_⟩
  · rw [hE, hv]
    exact ownsRow_blk h.2.2.1 fun k hk => hne k (h.rowNe k hk)
  · rw [hE]
    exact fun e he => (h.2.2.2 e he).blk fun k hk => hne k (h.fileNe he k hk).1
/-- It answers v; the document's disk is what A' says then; nothing turns but its block and its row. -/
def RStep (w : World) (lo g : Nat) (d : RDisk) (A' : ADisk) (v : Value) (e : Ending) (w' : World) : Prop :=
  e = .returned v ∧ ∃ d', RDiskAt w' lo g d' ∧ absR d' = A' ∧ KeptOff (fun k => k = g ∨ d.v.ownBlock = some k) w w' ∧ ∀ k, RFoot g d' k → RFoot g d k ∨ w.heap.size ≤ k
/-- The cells of a file. -/
theorem RDiskAt.cells {w : World} {lo g : Nat} {d : RDisk} (h : RDiskAt w lo g d) {i : Nat} (hi : i < d.E.length) :
    ∃ r c, d.v = .slice (some ⟨r, 0, none⟩) d.E.length c ∧ lo ≤ r ∧ r < w.heap.size ∧ w.cell? ⟨r, i * 3, none⟩ = some (.string (str d.E[i].name)) ∧ w.cell? ⟨r, i * 3 + 1, none⟩ = some d.E[i].v ∧ w.cell? ⟨r, i * 3 + 2, none⟩ = some (.int .i64 (d.E[i].safe : Int)) ∧
      ∀ j, w.frozen? ⟨r, j, none⟩ = false := by
  have hs := h.2.2.1
  rcases hs.2 with ⟨_, h0⟩ | ⟨r, cap, cur, hv, hb, hh, hn, hm, hcs, ht⟩
  · omega
  · have hc : ∀ j u, (rcells d.E)[j]? = some u → w.cell? ⟨r, j, none⟩ = some u := fun j u hu => by
      have := World.ownsRow.cells hs (g := r) (by rw [hv]; rfl) j u hu
      have hadd : (⟨r, 0, none⟩ : Addr).add j = ⟨r, j, none⟩ := by unfold Addr.add; split <;> simp_all
      rwa [hadd] at this
    obtain ⟨c1, c2, c3⟩ := rcells_at d.E i hi
    exact ⟨r, cap, hv, hb, (Array.getElem?_eq_some_iff.1 hh).1, hc _ _ c1, hc _ _ c2, hc _ _ c3, fun j => by simp [World.frozen?, hh]⟩
theorem RDiskAt.vshape {w : World} {lo g : Nat} {d : RDisk} (h : RDiskAt w lo g d) : ∃ A c, d.v = .slice A d.E.length c ∧ d.E.length ≤ c ∧ c ≤ maxLen := by
  obtain ⟨A, c, h1, h2, h3, _⟩ := ownsRow_shape h.2.2.1
  exact ⟨A, c, h1, h2, h3⟩
/-- One file turns in place. -/
theorem RDiskAt.setAt {w : World} {lo g : Nat} {d : RDisk} (h : RDiskAt w lo g d) {i r c : Nat} (hv : d.v = .slice (some ⟨r, 0, none⟩) d.E.length c) (j : Nat) (u : Value) (e' : RF)
    (hset : (rcells d.E).set j u = rcells (d.E.set i e')) (he : RFile w lo e') : RDiskAt (w.setCell ⟨r, j, none⟩ u) lo g { d with E := d.E.set i e' } := by
  have hr : d.v.ownBlock = some r := by rw [hv]; rfl
  have hne : ∀ k, k ≠ r → (w.setCell ⟨r, j, none⟩ u).heap[k]? = w.heap[k]? := fun k hk => Below.heap_setCell _ _ _ _ hk
  obtain ⟨curR, hcR⟩ := ownsRow_rowAt h.2.2.1 r hr
  refine ⟨h.1, (hne g (fun e => (h.rowNe r hr) e.symm)).trans h.2.1, ?_, ?_⟩
  · show World.ownsRow _ lo _ 3 d.v (d.E.set i e').length (rcells (d.E.set i e'))
    rw [List.length_set, ← hset]
    have := h.2.2.1
    rw [hv] at this ⊢
    exact ownsRow_set this j u
  · intro x hx
    have hf : RFile w lo x := by
      rcases List.mem_or_eq_of_mem_set hx with hx | rfl
      · exact h.2.2.2 x hx
      · exact he
    refine hf.blk fun k hk => hne k ?_
    obtain ⟨cur, hc⟩ := hf.1.rowAt k hk
    exact cells_ne hc hcR (by decide)
end Go.Proofs.Ytincdegoiknfhab
