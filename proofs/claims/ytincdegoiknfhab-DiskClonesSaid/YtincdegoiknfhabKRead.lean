/-
  A copy of a row of bytes (slices.Clone); Read. Conditions: names' and rows' lengths are lengths.
-/
import Derived.Test.YtincdegoiknfhabKNew
namespace Go.Proofs.Ytincdegoiknfhab
open Go.RowKit

/-- It answers a row of its own with these bytes. -/
def MadeBytes (w : World) (l : List UInt8) (e : Ending) (w' : World) : Prop := ∃ v, e = .returned v ∧ Own w' w.heap.size 5 v (bvs l) ∧ Below w.heap.size w w'
theorem eqlSliceNil {P : Program} (w : World) (t e : TypeId) (a : Option Addr) (l c : Nat) (h : P.underlying t = some (.slice e)) : (binOp .eql t (.slice a l c) (.slice none 0 0)).run P w = .ok (.bool a.isNone) w := by
  simp only [binOp]
  have hq : ∀ k, (Op.equalIn (k + 1) t (.slice a l c) (.slice none 0 0)).run P w = .ok a.isNone w := fun k => by cases a <;> simp [Op.equalIn, run_underlying h]
  simp [Op.equal, Op.maxDepth, hq 9999]
theorem own_src {w : World} {lo : Nat} {v : Value} {l : List UInt8} (h : Own w lo 5 v (bvs l)) : Src w v (bvs l) := (h.rd (Nat.le_refl _)).src
theorem kclone_any (l : List UInt8) (v : Value) (lo : Nat) (w : World) (h : Own w lo 5 v (bvs l)) (hl : l.length ≤ 1099511627776) : Calls Try.prog 44 #[v] w (MadeBytes w l) := by
  have hs := own_src (h.below ((Below.refl w.heap.size w).alloc (Nat.le_refl _) (.cells #[] 5)))
  rcases h.2 with ⟨rfl, h0⟩ | ⟨g, cap, cur, rfl, _⟩
  · rw [bvs_length] at h0
    have e0 : l = [] := List.length_eq_zero_iff.1 h0
    subst e0
    clear hs
    have hq := eqlSliceNil (P := Try.prog) w _ _ none 0 0 Try.underlying36
    go_enter Try.func44, Try.ntmps44
    go_wp2_with fail
    go_ret
    exact ⟨_, rfl, Own.nil _ _ _, Below.refl _ _⟩
  · rw [bvs_length] at hs ⊢
    have HS := Lib.hid hs
    clear hs h
    have hq := eqlSliceNil (P := Try.prog) w _ _ (some ⟨g, 0, none⟩) l.length cap Try.underlying36
    go_enter Try.func44, Try.ntmps44
    go_wp2_with (at_builtin; go_must (refine wpList_append_src _ (by rfl) (.tmp 5) (.tmp 6) 36 (by rfl) w.heap.size 5 (.int .u8 0) 1 Try.underlying36 Try.u8info rfl _ [] (by rfl) (by exact Own.empty _ _ _ rfl) _ (bvs l) (by rfl) (by exact HS.out) (bvs_one _) (by rw [bvs_length]; unfold maxLen; simp only [List.length_nil]; omega) (by rw [bvs_length]; simp only [List.length_nil]; omega) (by simp) ?_); intro v6 w6 hown6 hg6 hb6 _)
    go_ret
    exact ⟨_, rfl, by rw [List.nil_append] at hown6; exact hown6, ((Below.refl _ _).alloc (Nat.le_refl _) _).trans hb6⟩
def readL (d : KDisk) (n : List UInt8) : List UInt8 × Int := if d.off = true then ([], 30) else match atE d.E n with | none => ([], 4) | some e => (e.bytes, 0)
def ReadAns (w : World) (d : KDisk) (n : List UInt8) (e : Ending) (w' : World) : Prop := ∃ v, e = .returned (.tuple #[v, .int .i64 (readL d n).2]) ∧ Own w' w.heap.size 5 v (bvs (readL d n).1) ∧ Below w.heap.size w w'
theorem kread {w : World} {lo g b : Nat} {d : KDisk} (h : DiskAt w lo g b d) (n : List UInt8) (hn : n.length ≤ maxLen) (hb : ∀ e ∈ d.E, e.bytes.length ≤ 1099511627776) : Calls Try.prog 30 #[.pointer (some ⟨g, 0, none⟩), .string (str n)] w (ReadAns w d n) := by
  have k1 := kfind h n hn
  unfold findV at k1
  unfold ReadAns readL
  cases ho : d.off with
  | true =>
    rw [ho, if_pos rfl] at k1
    rw [if_pos rfl]
    have K := Lib.hid k1
    clear k1 ho h hb
    go_enter Try.func30, Try.ntmps30
    go_wp2_with (go_at_call 58; refine K.out.mono ?_; rintro e w' ⟨rfl, rfl⟩)
    go_ret2
    exact ⟨_, rfl, Own.nil _ _ _, Below.refl _ _⟩
  | false =>
    rw [ho, if_neg Bool.false_ne_true] at k1
    rw [if_neg Bool.false_ne_true]
    cases he : atE d.E n with
    | none =>
      rw [he] at k1
      have K := Lib.hid k1
      clear k1 ho he h hb
      go_enter Try.func30, Try.ntmps30
      go_wp2_with (go_at_call 58; refine K.out.mono ?_; rintro e w' ⟨rfl, rfl⟩)
      go_ret2
      exact ⟨_, rfl, Own.nil _ _ _, Below.refl _ _⟩
    | some e =>
      rw [he] at k1
      dsimp only at k1 ⊢
      obtain ⟨hm, _⟩ := atE_mem he
      obtain ⟨f1, f2, f3, f4⟩ := h.2.2.2.2.1 e hm
      have c0 : w.cell? ⟨e.g, 0, none⟩ = some e.v := f2.cell 0
      obtain ⟨A, c, hA⟩ := row_shape f3
      rw [hA] at c0 f3
      have k2 := kclone_any e.bytes _ lo w f3 (hb e hm)
      have K := Lib.hid k1
      have K2 := Lib.hid k2
      clear k1 k2 ho he h hb f1 f2 f3 f4 hA
      go_enter Try.func30, Try.ntmps30
      go_wp2_with (go_at_call 58; refine K.out.mono ?_; rintro e w' ⟨rfl, rfl⟩)
      refine K2.out.mono ?_
      rintro e2 w2 ⟨v2, rfl, hown, hbl⟩
      go_wp2_with fail
      go_ret2
      exact ⟨_, rfl, hown, hbl⟩
end Go.Proofs.Ytincdegoiknfhab
