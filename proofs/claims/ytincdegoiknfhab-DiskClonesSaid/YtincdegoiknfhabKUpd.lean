/-
  One file of a disk turned: its block and its row alone. No condition.
-/
import Derived.Test.YtincdegoiknfhabKCalls
namespace Go.Proofs.Ytincdegoiknfhab
open Go.RowKit

def updE (e' : KEnt) (E : List KEnt) : List KEnt := E.map fun f => if f.name = e'.name then e' else f
theorem atE_mem {E : List KEnt} {n : List UInt8} {e : KEnt} (h : atE E n = some e) : e ∈ E ∧ e.name = n := by
  unfold atE at h
  exact ⟨List.mem_of_find?_eq_some h, by simpa using List.find?_some h⟩
theorem mem_name {E : List KEnt} (h : E.Pairwise fun e f => e.name ≠ f.name) {e f : KEnt} (he : e ∈ E) (hf : f ∈ E) (hn : e.name = f.name) : e = f := by
  induction E with
  | nil => cases he
  | cons x r ih =>
    rw [List.pairwise_cons] at h
    rcases List.mem_cons.1 he with rfl | he2
    · rcases List.mem_cons.1 hf with rfl | hf2
      · rfl
      · exact (h.1 f hf2 hn).elim
    · rcases List.mem_cons.1 hf with rfl | hf2
      · exact (h.1 e he2 hn.symm).elim
      · exact ih h.2 he2 hf2
theorem cells_ne {w : World} {k k' : Nat} {c c' : Array Value} {t t' : TypeId} {z z' : Nat × Nat} (h : w.heap[k]? = some (.cells c t z)) (h' : w.heap[k']? = some (.cells c' t' z')) (hne : t ≠ t') : k ≠ k' := by
  intro e
  subst e
  rw [h] at h'
  injection h' with h'
  injection h' with _ h' _
  exact hne h'
theorem cells_map {w : World} {k k' : Nat} {c : Array Value} {t : TypeId} {z : Nat × Nat} {es : Array MapEntry} {n : Nat} (h : w.heap[k]? = some (.cells c t z)) (h' : w.heap[k']? = some (.map es n)) : k ≠ k' := by
  intro e
  subst e
  rw [h] at h'
  cases h'
theorem Own.rowAt {w : World} {lo e : Nat} {v : Value} {xs : List Value} (h : Own w lo e v xs) (k : Nat) (hk : v.ownBlock = some k) : ∃ cur, w.heap[k]? = some (.cells cur e (0, 0)) := by
  rcases h.2 with ⟨rfl, _⟩ | ⟨g, cap, cur, rfl, _, hh, _⟩
  · cases hk
  · injection hk with hk
    subst hk
    exact ⟨cur, hh⟩
theorem KApart.symm {e f : KEnt} (h : KApart e f) : KApart f e := by
  refine ⟨fun x => h.1 x.symm, ?_⟩
  cases hf : f.v.ownBlock with
  | none => exact .inl rfl
  | some k =>
    right
    intro x
    rcases h.2 with h2 | h2
    · rw [h2] at x; cases x
    · exact h2 (by rw [hf]; exact x.symm)
theorem KApart.of_mem {E : List KEnt} (h : E.Pairwise KApart) {e f : KEnt} (he : e ∈ E) (hf : f ∈ E) (hn : e.name ≠ f.name) : KApart e f := by
  induction E with
  | nil => cases he
  | cons x r ih =>
    rw [List.pairwise_cons] at h
    rcases List.mem_cons.1 he with rfl | he2
    · rcases List.mem_cons.1 hf with rfl | hf2
      · exact (hn rfl).elim
      · exact h.1 f hf2
    · rcases List.mem_cons.1 hf with rfl | hf2
      · exact (h.1 e he2).symm
      · exact ih h.2 he2 hf2
theorem DiskAt.upd {w w' : World} {lo g b : Nat} {d : KDisk} (h : DiskAt w lo g b d) {e e' : KEnt} (he : e ∈ d.E) (hn : e'.name = e.name) (hg : e'.g = e.g) (hf : FileAt w' lo e')
    (hk : KeptOff (fun k => k = e.g ∨ e.v.ownBlock = some k) w w') (hv : ∀ k, e'.v.ownBlock = some k → e.v.ownBlock = some k ∨ w.heap.size ≤ k) : DiskAt w' lo g b { d with E := updE e' d.E } := by
  have hap := h.2.2.2.1.apart
  have hlt := h.lt
  obtain ⟨h1, h2, h3, h4, h5, h6⟩ := h
  obtain ⟨e1, e2, e3, e4⟩ := h5 e he
  have same : ∀ k, k < w.heap.size → k ≠ e.g → e.v.ownBlock ≠ some k → w'.heap[k]? = w.heap[k]? := fun k a b c => hk.2.2.2.2 k a (fun x => x.elim b c)
  have rowNe : ∀ k c t z, w.heap[k]? = some (.cells c t z) → t ≠ 5 → e.v.ownBlock ≠ some k := by
    intro k c t z hh ht hx
    obtain ⟨cur, hc⟩ := e3.rowAt k hx
    exact cells_ne hh hc ht rfl
  obtain ⟨es, clock, hm, hmr⟩ := id h4
  refine ⟨h1, h2, ?_, ?_, ?_, ?_⟩
  · exact (same g h3.lt (cells_ne h3 e2 (by decide)) (rowNe g _ _ _ h3 (by decide))).trans h3
  · have hb : w'.heap[b]? = w.heap[b]? := same b h4.lt (fun x => cells_map e2 hm x.symm) (fun x => by obtain ⟨cur, hc⟩ := e3.rowAt b x; exact cells_map hc hm rfl)
    have hD : mapD (updE e' d.E) = mapD d.E := by
      unfold mapD updE
      rw [List.map_map]
      congr 1
      apply List.map_congr_left
      intro f hfm
      by_cases hfn : f.name = e'.name
      · have : f = e := mem_name hap hfm he (by rw [hfn, hn])
        subst this
        show entD (if f.name = e'.name then e' else f) = entD f
        rw [if_pos hfn]
        unfold entD
        rw [hn, hg]
      · show entD (if f.name = e'.name then e' else f) = entD f
        rw [if_neg hfn]
    have h4' := h4.blk hb
    unfold MapAt at h4' ⊢
    rw [hD]
    have hl : (updE e' d.E).length = d.E.length := by unfold updE; simp
    show World.ownsMap w' _ _ _ _ (updE e' d.E).length _
    rw [hl]
    exact h4'
  · intro f' hf'
    obtain ⟨f, hfm, rfl⟩ := List.mem_map.1 hf'
    by_cases hfn : f.name = e'.name
    · rw [if_pos hfn]; exact hf
    · rw [if_neg hfn]
      have hfe := KApart.of_mem h6 hfm he (fun x => hfn (by rw [x, hn]))
      obtain ⟨f1, f2, f3, f4⟩ := h5 f hfm
      refine ⟨f1, (same f.g f2.lt hfe.1 (rowNe f.g _ _ _ f2 (by decide))).trans f2, f3.blk fun k hkk => ?_, f4⟩
      obtain ⟨cur, hc⟩ := f3.rowAt k hkk
      refine same k (f3.ownLt k hkk).2 (cells_ne hc e2 (by decide)) (fun x => ?_)
      rcases hfe.2 with y | y
      · rw [y] at hkk; cases hkk
      · exact y (by rw [hkk, x])
  · show (updE e' d.E).Pairwise KApart
    unfold updE
    rw [List.pairwise_map]
    refine (List.Pairwise.and h6 hap).imp_of_mem ?_
    rintro x y hx hy ⟨hxy, hne⟩
    have new : ∀ f ∈ d.E, f.name ≠ e'.name → KApart e' f := by
      intro f hfm hfn
      have hfe := KApart.of_mem h6 he hfm (fun x => hfn (by rw [← x, hn]))
      refine ⟨by rw [hg]; exact hfe.1, ?_⟩
      cases hb : e'.v.ownBlock with
      | none => exact .inl rfl
      | some k =>
        right
        intro hx
        rcases hv k hb with h7 | h7
        · rcases hfe.2 with y | y
          · rw [y] at h7; cases h7
          · exact y (by rw [h7, hx])
        · have := (hlt k (.inr (.inr ⟨f, hfm, .inr hx.symm⟩))).2
          omega
    by_cases hxn : x.name = e'.name
    · have hyn : y.name ≠ e'.name := fun z => hne (by rw [hxn, z])
      rw [if_pos hxn, if_neg hyn]
      exact new y hy hyn
    · by_cases hyn : y.name = e'.name
      · rw [if_neg hxn, if_pos hyn]
        exact (new x hx hxn).symm
      · rw [if_neg hxn, if_neg hyn]
        exact hxy
end Go.Proofs.Ytincdegoiknfhab
