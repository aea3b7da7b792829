/-
  The document's disk: New, Read, Rename. Conditions: sizes within what an int holds; the files lie in order of their names.
-/
import Derived.Test.YtincdegoiknfhabJOps
import Derived.Test.YtincdegoiknfhabKRefName
import Derived.Test.YtincdegoiknfhabKLive
namespace Go.Proofs.Ytincdegoiknfhab
open Go.RowKit

/-! ### a file in a block of its own -/
theorem fileSize : (Try.prog.info? 78).map (·.size) = some 3 := by kernel_rfl
theorem wpList_store_file {ops : Array Oper} {rest : List Oper} {op : Oper} {a : Act} {w : World} {Q : Exit → Act → World → Prop} (hgd : op.guard = none) (x z : Operand) (ho : op.op = .store 78 x z)
    (b : Nat) (a0 a1 a2 : Value) (s : ByteArray) (A : Option Addr) (n c : Nat) (i : Int) (hx : a.eval x = .pointer (some ⟨b, 0, none⟩)) (hy : a.eval z = .agg #[.string s, .slice A n c, .int .i64 i])
    (hb : Blk w b 78 #[a0, a1, a2])
    (hn : ∀ w', Blk w' b 78 #[.string s, .slice A n c, .int .i64 i] → w.grownBy w' (some b) → wpList Try.prog ops Q rest (a.put op.dst undef) w') : wpList Try.prog ops Q (op :: rest) a w := by
  have ht : w.there b 0 3 := fun j hj => ⟨by
    rw [Nat.zero_add, hb.cell j]
    match j, hj with
    | 0, _ => rfl
    | 1, _ => rfl
    | 2, _ => rfl, hb.free _⟩
  refine wpList_store_mid hgd 78 x z ho b 0 #[.string s, .slice A n c, .int .i64 i] hx hy ht fileSize (by simp [Value.oneCell']) (hn _ ?_ ?_)
  · exact ((hb.set 0 (.string s)).set 1 (.slice A n c)).set 2 (.int .i64 i)
  · exact (((World.grownBy.refl w (some b)).trans (grown_set _ b 0 _)).trans (grown_set _ b 1 _)).trans (grown_set _ b 2 _)

/-! ### New -/
def newR (q : Int) : RDisk := ⟨q, 0, -1, false, .slice none 0 0, []⟩
def MadeR (w : World) (q : Int) (e : Ending) (w' : World) : Prop := ∃ g, e = .returned (.pointer (some ⟨g, 0, none⟩)) ∧ RDiskAt w' w.heap.size g (newR q) ∧ Below w.heap.size w w'
theorem rnew_no (q : Int) (w : World) (h : q < 0 ∨ 16777216 < q) : Calls Try.prog 10 #[.int .i64 q] w (Ans w (.pointer none)) := by
  by_cases h0 : q < 0
  · clear h
    go_enter Try.func10, Try.ntmps10
    go_wp2_with fail
    go_ret
    exact ⟨rfl, rfl⟩
  · have h1 : 16777216 < q := by omega
    have h0' : decide (q < 0) = false := decide_eq_false h0
    clear h
    go_enter Try.func10, Try.ntmps10
    go_wp2_with fail
    go_ret
    exact ⟨rfl, rfl⟩
theorem rnew (q : Int) (w : World) (h1 : ¬ q < 0) (h2 : ¬ 16777216 < q) : Calls Try.prog 10 #[.int .i64 q] w (MadeR w q) := by
  have h0' : decide (q < 0) = false := decide_eq_false h1
  have h1' : decide (16777216 < q) = false := decide_eq_false h2
  go_enter Try.func10, Try.ntmps10
  go_wp2_with fail
  go_ret
  exact ⟨w.heap.size, rfl, ⟨Nat.le_refl _, Blk.fresh _ _ _, World.ownsRow_nil _ _ _ _, fun e he => (by cases he)⟩, (Below.refl _ _).alloc (Nat.le_refl _) _⟩

/-! ### Read -/
theorem usedA_mem {f : AFile} : ∀ {L : List AFile}, f ∈ L → f.bytes.length ≤ usedA L
  | [], h => by cases h
  | x :: r, h => by
    unfold usedA
    rw [List.map_cons, List.sum_cons]
    rcases List.mem_cons.1 h with rfl | h
    · omega
    · have := usedA_mem h
      unfold usedA at this
      omega
set_option maxHeartbeats 3200000 in
set_option maxRecDepth 100000 in
theorem rread {w : World} {lo g : Nat} {d : RDisk} (h : RDiskAt w lo g d) (hw : WfA (absR d)) (hr : RiseA (absR d).L) (n : List UInt8) :
    Calls Try.prog 39 #[.pointer (some ⟨g, 0, none⟩), .string (str n)] w (ReadAnsA w (readA (absR d) n)) := by
  have hE : d.E.length ≤ 1000000 := by have := hw.2.2.2.2.1; rwa [absR_len] at this
  have kf := rfind h n hE
  unfold findRV at kf
  have K := Lib.hid kf
  have H := Lib.hid h
  unfold readA
  show Calls _ _ _ _ (ReadAnsA w (if d.off = true then _ else _))
  by_cases ho : d.off = true
  · rw [if_pos ho]
    have HO := Lib.hid ho
    clear kf h hw hr ho
    generalize posA n (absR d).L = p at *
    generalize isA n (absR d).L = q at *
    go_enter Try.func39, Try.ntmps39
    go_wp2_with (go_at_call 61; refine K.out.mono ?_; rintro e w1 ⟨rfl, hb⟩; have HD1 := Lib.hid (H.out.below hb); have x3 : w1.cell? ⟨g, 3, none⟩ = some (.bool d.off) := HD1.out.2.1.cell 3; rw [HO.out] at x3; have HB := Lib.hid hb; clear hb)
    go_ret2
    exact ⟨_, rfl, Own.nil _ _ _, HB.out⟩
  · rw [if_neg ho]
    have ho' : d.off = false := by cases hq : d.off with | false => rfl | true => exact (ho hq).elim
    have HO := Lib.hid ho'
    cases hi : isA n (absR d).L with
    | false =>
      rw [at_no hr hi]
      rw [hi] at K
      clear kf h hw hr ho ho' hi
      generalize posA n (absR d).L = p at *
      go_enter Try.func39, Try.ntmps39
      go_wp2_with (go_at_call 61; refine K.out.mono ?_; rintro e w1 ⟨rfl, hb⟩; have HD1 := Lib.hid (H.out.below hb); have x3 : w1.cell? ⟨g, 3, none⟩ = some (.bool d.off) := HD1.out.2.1.cell 3; rw [HO.out] at x3; have HB := Lib.hid hb; clear hb)
      go_ret2
      exact ⟨_, rfl, Own.nil _ _ _, HB.out⟩
    | true =>
      rw [at_R d n hr hi]
      rw [hi] at K
      have hpl := pos_lt d n hi
      have hbl : (d.E[posA n (absR d).L]'hpl).bytes.length ≤ 1099511627776 := by
        have h1 := hw.2.2.2.2.2
        have h2 : (absRF (d.E[posA n (absR d).L]'hpl)).bytes.length ≤ usedA (absR d).L := by
          exact usedA_mem (List.mem_map_of_mem (f := absRF) (List.getElem_mem hpl))
        have h3 : (absRF (d.E[posA n (absR d).L]'hpl)).bytes.length = (d.E[posA n (absR d).L]'hpl).bytes.length := rfl
        omega
      have HPL := Lib.hid hpl
      have HBL := Lib.hid hbl
      obtain ⟨r, c, hv, hlr, hrs, x0, x1, x2, _⟩ := h.cells hpl
      have hcap : d.E.length ≤ c := by
        obtain ⟨A', c', e', h1, _⟩ := h.vshape
        rw [hv] at e'
        injection e' with _ _ e3
        omega
      have hi0 : ((posA n (absR d).L : Nat) : Int) < (d.E.length : Int) := by omega
      have HV := Lib.hid hv
      have HRS := Lib.hid hrs
      have X1 := Lib.hid x1
      have hF := h.2.2.2 _ (List.getElem_mem hpl)
      have HF := Lib.hid hF
      generalize d.E[posA n (absR d).L]'hpl = f at *
      clear kf h hw hr ho ho' hi hbl hv x0 x1 x2 hrs hlr hF hpl
      generalize posA n (absR d).L = p at *
      go_enter Try.func39, Try.ntmps39
      go_wp2_with (first
        | (go_at_call 61; refine K.out.mono ?_; rintro e w1 ⟨rfl, hb⟩; have HD1 := Lib.hid (H.out.below hb); have x3 : w1.cell? ⟨g, 3, none⟩ = some (.bool d.off) := HD1.out.2.1.cell 3; rw [HO.out] at x3; have HB := Lib.hid hb; have HBA : Hid (Below w.heap.size w (w1.alloc (.cells #[] 5))) := Lib.hid (hb.alloc hb.size _); have y0 : (w1.alloc (.cells #[] 5)).cell? ⟨g, 0, none⟩ = some d.v := (H.out.below HBA.out).2.1.cell 0; rw [HV.out] at y0; have y1 : (w1.alloc (.cells #[] 5)).cell? ⟨r, p * 3 + 1, none⟩ = some f.v := (HBA.out.cell (p := ⟨r, p * 3 + 1, none⟩) HRS.out).trans X1.out; have HFS : Hid (Src (w1.alloc (.cells #[] 5)) f.v (bvs f.bytes)) := Lib.hid (Rd.src ((HF.out.1.below HBA.out).rd (Nat.le_refl _))); clear hb)
        | (at_builtin; go_must (refine wpList_append_src _ (by rfl) (.tmp 22) (.tmp 30) 36 (by rfl) w1.heap.size 5 (.int .u8 0) 1 Try.underlying36 Try.u8info rfl _ [] (by rfl) (by exact Own.empty _ _ _ rfl) _ (bvs f.bytes) (by rfl) (by exact HFS.out) (bvs_one _) (by rw [bvs_length]; have := HBL.out; unfold maxLen; simp only [List.length_nil]; omega) (by rw [bvs_length]; have := HBL.out; simp only [List.length_nil]; omega) (by simp) ?_); intro v6 w6 hown6 hg6 hb6 _; have OW6 := Lib.hid hown6; have HB6 := Lib.hid hb6; clear hown6 hg6 hb6 y0 y1))
      go_ret2
      refine ⟨_, rfl, ?_, ?_⟩
      · have ho := OW6.out
        rw [List.nil_append] at ho
        exact ho.more HB.out.size
      · exact HBA.out.trans (HB6.out.mono HB.out.size)
end Go.Proofs.Ytincdegoiknfhab
