/-
  A region that draws its order, where two operations may come up; slices of a row of files; a file's cells read at once. No condition.
-/
import Derived.Test.YtincdegoiknfhabJFind
import Derived.Deep.MidRow
namespace Go.Proofs.Ytincdegoiknfhab
open Go.RowKit

section
variable {P : Program} {ops : Array Oper} {Q : Exit → Act → World → Prop} {D : Nat → Prop}
theorem up_two {i j : Nat} {oi oj : Oper} {fuel : Nat} {listed : Array Bool} {a : Act} {w : World} (hi : ops[i]? = some oi) (hj : ops[j]? = some oj) (hr : Region.ready .any ops listed = [i, j])
    (h : ∀ K : Act → World → Prop, Shut (∀ a' w', Kept D w w' → Up P ops Q D fuel (listed.setIfInBounds i true) a' w' → K a' w') →
      if Region.wanted oi (yielded ops a.tmps) = true then Oper.wp P oi a w K Q else K (a.put oi.dst undef) w)
    (h' : ∀ K : Act → World → Prop, Shut (∀ a' w', Kept D w w' → Up P ops Q D fuel (listed.setIfInBounds j true) a' w' → K a' w') →
      if Region.wanted oj (yielded ops a.tmps) = true then Oper.wp P oj a w K Q else K (a.put oj.dst undef) w) : Up P ops Q D (fuel + 1) listed a w := by
  refine wpAnyH_ready (rs := [i, j]) hr (by simp) (AllReadyH.cons hi (fun K hK => h K (fun a' w' hb hu => hK.out a' w' hb fun _ => ?_)) (AllReadyH.cons hj (fun K hK => h' K (fun a' w' hb hu => hK.out a' w' hb fun _ => ?_)) AllReadyH.nil))
  · exact held_mono (fun W hW => hb.trans hW) _ _ _ _ hu
  · exact held_mono (fun W hW => hb.trans hW) _ _ _ _ hu
theorem up_three {i j k : Nat} {oi oj ok : Oper} {fuel : Nat} {listed : Array Bool} {a : Act} {w : World} (hi : ops[i]? = some oi) (hj : ops[j]? = some oj) (hk : ops[k]? = some ok) (hr : Region.ready .any ops listed = [i, j, k])
    (h : ∀ K : Act → World → Prop, Shut (∀ a' w', Kept D w w' → Up P ops Q D fuel (listed.setIfInBounds i true) a' w' → K a' w') →
      if Region.wanted oi (yielded ops a.tmps) = true then Oper.wp P oi a w K Q else K (a.put oi.dst undef) w)
    (h' : ∀ K : Act → World → Prop, Shut (∀ a' w', Kept D w w' → Up P ops Q D fuel (listed.setIfInBounds j true) a' w' → K a' w') →
      if Region.wanted oj (yielded ops a.tmps) = true then Oper.wp P oj a w K Q else K (a.put oj.dst undef) w)
    (h'' : ∀ K : Act → World → Prop, Shut (∀ a' w', Kept D w w' → Up P ops Q D fuel (listed.setIfInBounds k true) a' w' → K a' w') →
      if Region.wanted ok (yielded ops a.tmps) = true then Oper.wp P ok a w K Q else K (a.put ok.dst undef) w) : Up P ops Q D (fuel + 1) listed a w := by
  refine wpAnyH_ready (rs := [i, j, k]) hr (by simp) (AllReadyH.cons hi (fun K hK => h K (fun a' w' hb hu => hK.out a' w' hb fun _ => ?_)) (AllReadyH.cons hj (fun K hK => h' K (fun a' w' hb hu => hK.out a' w' hb fun _ => ?_)) (AllReadyH.cons hk (fun K hK => h'' K (fun a' w' hb hu => hK.out a' w' hb fun _ => ?_)) AllReadyH.nil)))
  · exact held_mono (fun W hW => hb.trans hW) _ _ _ _ hu
  · exact held_mono (fun W hW => hb.trans hW) _ _ _ _ hu
  · exact held_mono (fun W hW => hb.trans hW) _ _ _ _ hu
end
theorem Try.fileinfo : (Try.prog.info? 78).map (fun i => (i.zero, i.size, i.bytes)) = some (some (.agg #[.string ⟨#[]⟩, .slice none 0 0, .int .i64 0]), 3, 48) := by kernel_rfl
theorem srcw_part {w W : World} {base : Nat} {e : TypeId} {v : Value} {n : Nat} {xs : List Value} (h : w.ownsRow base e 3 v n xs) (hW : ∀ k, v.ownBlock = some k → W.heap[k]? = w.heap[k]?) {Ad : Option Addr} {c l hh : Nat} (hv : v = .slice Ad n c) (h1 : l ≤ hh) (h2 : hh ≤ n) :
    SrcW W 3 (sliced Ad l hh c 3) (hh - l) ((xs.drop (l * 3)).take ((hh - l) * 3)) := by
  have h' := ownsRow_blk h hW
  have hlen := h'.1
  refine ⟨_, _, rfl, ?_, fun hn => ?_, fun ad had j u hu => ?_⟩
  · rw [List.length_take, List.length_drop, hlen]
    have : (hh - l) * 3 ≤ n * 3 - l * 3 := by omega
    omega
  · rcases h'.2 with ⟨_, h0⟩ | ⟨g, cap, cur, e1, _⟩
    · omega
    · rw [hv] at e1
      injection e1 with e1 _ _
      subst e1
      by_cases hc : c = l
      · rw [if_pos hc] at hn; cases hn
      · rw [if_neg hc] at hn; cases hn
  · rcases h'.2 with ⟨_, h0⟩ | ⟨g, cap, cur, e1, _, hg, hnc, _⟩
    · subst h0
      have hx : xs = [] := List.length_eq_zero_iff.1 (by simpa using hlen)
      subst hx
      rw [List.drop_nil, List.take_nil] at hu
      cases hu
    · rw [hv] at e1
      injection e1 with e1 _ e3
      subst e1 e3
      have hj : j < (hh - l) * 3 := by
        have := (List.getElem?_eq_some_iff.1 hu).1
        rw [List.length_take] at this
        omega
      rw [List.getElem?_take_of_lt hj, List.getElem?_drop] at hu
      have hcell := World.ownsRow.cells h' (g := g) (by rw [hv]; rfl) _ _ hu
      have hadd : ∀ m, (⟨g, 0, none⟩ : Addr).add m = ⟨g, m, none⟩ := fun m => by unfold Addr.add; split <;> simp_all
      rw [hadd] at hcell
      have hcl : ¬ c = l := by omega
      rw [if_neg hcl, Option.map_some, hadd] at had
      injection had with had
      subst had
      rw [show (⟨g, l * 3, none⟩ : Addr).add j = ⟨g, l * 3 + j, none⟩ from by unfold Addr.add; split <;> simp_all]
      exact hcell
theorem files_from (W : World) (Ad : Option Addr) (n c i : Nat) (hi : i ≤ n) (_hc : n ≤ c) : (Instr.slice 65 (.slice Ad n c) (some (.int .i64 (i : Int))) none none).run Try.prog W = .ok (sliced Ad i n c 3) W := by
  have ht := Try.underlying65
  have ht' : Try.prog.underlying 65 = some (.slice (Try.prog.elem 65)) := by simp [Program.elem, ht]
  have he : Try.prog.elem 65 = 78 := by simp [Program.elem, ht]
  rw [run_slice_l W 65 _ _ _ ht' .i64 (i : Int) (by omega) (by omega), he, Try.sizeOf78]
  rfl
theorem files_to (W : World) (Ad : Option Addr) (n c i : Nat) (hi : i ≤ n) (hc : n ≤ c) : (Instr.slice 65 (.slice Ad n c) none (some (.int .i64 (i : Int))) none).run Try.prog W = .ok (sliced Ad 0 i c 3) W := by
  have ht := Try.underlying65
  have ht' : Try.prog.underlying 65 = some (.slice (Try.prog.elem 65)) := by simp [Program.elem, ht]
  have he : Try.prog.elem 65 = 78 := by simp [Program.elem, ht]
  rw [run_slice_h W 65 _ _ _ ht' .i64 (i : Int) (by omega) (by omega), he, Try.sizeOf78]
  rfl
/-- A slice of the row of files, as a value; what it yields. -/
theorem RDiskAt.from_ {w : World} {lo g : Nat} {d : RDisk} (h : RDiskAt w lo g d) (i : Nat) (hi : i ≤ d.E.length) :
    ∃ v', (∀ W, (Instr.slice 65 d.v (some (.int .i64 (i : Int))) none none).run Try.prog W = .ok v' W) ∧ ∀ W, Below w.heap.size w W → SrcW W 3 v' (d.E.drop i).length (rcells (d.E.drop i)) := by
  obtain ⟨A, c, hv, hc1, hc2⟩ := h.vshape
  refine ⟨sliced A i d.E.length c 3, fun W => by rw [hv]; exact files_from W A _ c i hi hc1, fun W hW => ?_⟩
  have hs := srcw_part h.2.2.1 (W := W) (fun k hk => hW.block k (h.lt k (.inr (.inl hk))).2) hv hi (Nat.le_refl _)
  rw [rcells_drop] at hs
  rw [List.length_drop]
  have e : (rcells (d.E.drop i)).take ((d.E.length - i) * 3) = rcells (d.E.drop i) := List.take_of_length_le (by rw [rcells_len, List.length_drop]; exact Nat.le_refl _)
  rwa [e] at hs
theorem RDiskAt.to_ {w : World} {lo g : Nat} {d : RDisk} (h : RDiskAt w lo g d) (i : Nat) (hi : i ≤ d.E.length) :
    ∃ v', (∀ W, (Instr.slice 65 d.v none (some (.int .i64 (i : Int))) none).run Try.prog W = .ok v' W) ∧ ∀ W, Below w.heap.size w W → SrcW W 3 v' (d.E.take i).length (rcells (d.E.take i)) := by
  obtain ⟨A, c, hv, hc1, hc2⟩ := h.vshape
  refine ⟨sliced A 0 i c 3, fun W => by rw [hv]; exact files_to W A _ c i hi hc1, fun W hW => ?_⟩
  have hs := srcw_part h.2.2.1 (W := W) (fun k hk => hW.block k (h.lt k (.inr (.inl hk))).2) hv (Nat.zero_le i) hi
  rw [Nat.zero_mul, List.drop_zero, Nat.sub_zero, rcells_take] at hs
  rw [List.length_take, Nat.min_eq_left hi]
  exact hs
theorem srcw_own {w : World} {base : Nat} {e : TypeId} {v : Value} {n : Nat} {xs : List Value} (h : w.ownsRow base e 3 v n xs) : SrcW w 3 v n xs := by
  have hlen := h.1
  rcases h.2 with ⟨rfl, h0⟩ | ⟨g, cap, cur, rfl, _⟩
  · subst h0
    refine ⟨none, 0, rfl, hlen, fun _ => rfl, fun ad had => by cases had⟩
  · refine ⟨_, cap, rfl, hlen, fun hn => (by cases hn), fun ad had j u hu => ?_⟩
    injection had with had
    subst had
    exact World.ownsRow.cells h (g := g) rfl j u hu
theorem srcw_one {w : World} {e : TypeId} {k : Nat} {x y z : Value} (h : Blk w k e #[x, y, z]) : SrcW w 3 (.slice (some ⟨k, 0, none⟩) 1 1) 1 [x, y, z] := by
  refine ⟨_, 1, rfl, rfl, fun hn => (by cases hn), fun ad had j u hu => ?_⟩
  injection had with had
  subst had
  have hadd : (⟨k, 0, none⟩ : Addr).add j = ⟨k, j, none⟩ := by unfold Addr.add; split <;> simp_all
  rw [hadd, h.cell j]
  simpa using hu
/-- A whole file, read at once. -/
theorem load_file {w : World} {b o : Nat} {x y z : Value} (h0 : w.cell? ⟨b, o, none⟩ = some x) (h1 : w.cell? ⟨b, o + 1, none⟩ = some y) (h2 : w.cell? ⟨b, o + 2, none⟩ = some z) :
    (Instr.loadAt 78 (.pointer (some ⟨b, o, none⟩))).run Try.prog w = .ok (.agg #[x, y, z]) w :=
  run_loadAt_mid w b o 78 [x, y, z] _ (fun j v hv => by
    match j, hv with
    | 0, hv => simpa using hv ▸ h0
    | 1, hv => simpa using hv ▸ h1
    | 2, hv => simpa using hv ▸ h2) Try.underlying78 rfl (by kernel_rfl)
end Go.Proofs.Ytincdegoiknfhab
