/-
  Finding a file, spending a deed, stopping. Conditions: names' lengths are lengths; deeds and what the power lasts are within what an int holds.
-/
import Derived.Test.YtincdegoiknfhabKDisk
namespace Go.Proofs.Ytincdegoiknfhab
open Go.RowKit

/-- It answers v; the disk is d' then, and nothing else turns but in the blocks of F, and new ones. -/
def Step (F : Nat → Prop) (w : World) (lo g b : Nat) (d' : KDisk) (v : Value) (e : Ending) (w' : World) : Prop := e = .returned v ∧ DiskAt w' lo g b d' ∧ KeptOff F w w'
def WfK (d : KDisk) : Prop := -1 ≤ d.lasts ∧ d.lasts ≤ 9223372036854775807 ∧ 0 ≤ d.deeds ∧ d.deeds ≤ 1000000
def findV (d : KDisk) (n : List UInt8) : Value := if d.off = true then .tuple #[.pointer none, .int .i64 30] else match atE d.E n with | none => .tuple #[.pointer none, .int .i64 4] | some e => .tuple #[.pointer (some ⟨e.g, 0, none⟩), .int .i64 0]
theorem kfind {w : World} {lo g b : Nat} {d : KDisk} (h : DiskAt w lo g b d) (n : List UInt8) (hn : n.length ≤ maxLen) : Calls Try.prog 58 #[.pointer (some ⟨g, 0, none⟩), .string (str n)] w (Ans w (findV d n)) := by
  have k1 := kready h
  have c1 : w.cell? ⟨g, 1, none⟩ = some (.map (some b)) := h.2.2.1.cell 1
  have hl := h.2.2.2.1.look n hn
  clear h
  unfold findV
  unfold readyV at k1
  cases ho : d.off with
  | true =>
    rw [ho, if_pos rfl] at k1
    rw [if_pos rfl]
    have K := Lib.hid k1
    clear k1 hl ho
    go_enter Try.func58, Try.ntmps58
    go_wp2_with (go_at_call 55; refine K.out.mono ?_; rintro e w' ⟨rfl, rfl⟩)
    go_ret2
    exact ⟨rfl, rfl⟩
  | false =>
    rw [ho, if_neg (by simp)] at k1
    rw [if_neg (by simp)]
    have K := Lib.hid k1
    clear k1 ho
    cases he : atE d.E n with
    | none =>
      rw [he] at hl
      unfold ptrE at hl
      clear he
      go_enter Try.func58, Try.ntmps58
      go_wp2_with (go_at_call 55; refine K.out.mono ?_; rintro e w' ⟨rfl, rfl⟩)
      go_ret2
      exact ⟨rfl, rfl⟩
    | some e =>
      rw [he] at hl
      unfold ptrE at hl
      clear he
      go_enter Try.func58, Try.ntmps58
      go_wp2_with (go_at_call 55; refine K.out.mono ?_; rintro e w' ⟨rfl, rfl⟩)
      go_ret2
      exact ⟨rfl, rfl⟩
theorem kspend {w : World} {lo g b : Nat} {d : KDisk} (h : DiskAt w lo g b d) (hw : WfK d) : Calls Try.prog 57 #[.pointer (some ⟨g, 0, none⟩)] w (Step (· = g) w lo g b (spendD d) (.int .i64 (spendV d))) := by
  obtain ⟨l1, l2, d1, d2⟩ := hw
  have c2 : w.cell? ⟨g, 2, none⟩ = some (.int .i64 d.deeds) := h.2.2.1.cell 2
  have c3 : w.cell? ⟨g, 3, none⟩ = some (.int .i64 d.lasts) := h.2.2.1.cell 3
  have c4 : w.cell? ⟨g, 4, none⟩ = some (.bool d.off) := h.2.2.1.cell 4
  have f2 : w.frozen? ⟨g, 2, none⟩ = false := h.2.2.1.free 2
  have f3 : w.frozen? ⟨g, 3, none⟩ = false := h.2.2.1.free 3
  have f4 : w.frozen? ⟨g, 4, none⟩ = false := h.2.2.1.free 4
  have H := Lib.hid h
  clear h
  by_cases h0 : d.lasts = 0
  · have hv : spendV d = 30 := by unfold spendV; rw [if_pos h0]
    have hd : DiskAt (w.setCell ⟨g, 4, none⟩ (.bool true)) lo g b (spendD d) := by
      unfold spendD
      rw [if_pos h0]
      exact H.out.set 4 _ rfl rfl
    have HV := Lib.hid hv
    have HD := Lib.hid hd
    rw [h0] at c3
    clear hv hd h0 l1 l2
    go_enter Try.func57, Try.ntmps57
    go_wp2_with fail
    go_ret
    exact ⟨by rw [HV.out]; rfl, HD.out, KeptOff.set w g 4 _ rfl⟩
  · have hv : spendV d = 0 := by unfold spendV; rw [if_neg h0]
    have HV := Lib.hid hv
    clear hv
    by_cases h1 : d.lasts = -1
    · have hd : DiskAt (w.setCell ⟨g, 2, none⟩ (.int .i64 (d.deeds + 1))) lo g b (spendD d) := by
        unfold spendD
        rw [if_neg h0, if_pos h1]
        exact H.out.set 2 _ rfl (by rw [h1]; rfl)
      have HD := Lib.hid hd
      rw [h1] at c3
      clear hd h0 h1 l1 l2
      go_enter Try.func57, Try.ntmps57
      go_wp2_with fail
      go_ret
      exact ⟨by rw [HV.out]; rfl, by exact HD.out, KeptOff.set w g 2 _ rfl⟩
    · have hd : DiskAt ((w.setCell ⟨g, 3, none⟩ (.int .i64 (d.lasts - 1))).setCell ⟨g, 2, none⟩ (.int .i64 (d.deeds + 1))) lo g b (spendD d) := by
        unfold spendD
        rw [if_neg h0, if_neg h1]
        exact (H.out.set (d' := { d with lasts := d.lasts - 1 }) 3 _ rfl rfl).set 2 _ rfl rfl
      have HD := Lib.hid hd
      have hp : 1 ≤ d.lasts := by omega
      clear hd
      go_enter Try.func57, Try.ntmps57
      go_wp2_with fail
      go_ret
      exact ⟨by rw [HV.out]; rfl, by exact HD.out, (KeptOff.set (F := fun x => x = g) w g 3 _ rfl).trans (KeptOff.set (F := fun x => x = g) _ g 2 _ rfl) (fun x hx => .inl hx)⟩
def stopV (n : Int) : Int := if n < 0 then 1 else 0
def stopD (d : KDisk) (n : Int) : KDisk := if n < 0 then d else { d with lasts := n }
theorem kstop {w : World} {lo g b : Nat} {d : KDisk} (h : DiskAt w lo g b d) (n : Int) : Calls Try.prog 26 #[.pointer (some ⟨g, 0, none⟩), .int .i64 n] w (Step (· = g) w lo g b (stopD d n) (.int .i64 (stopV n))) := by
  have k1 := kclosed h
  have c3 : w.cell? ⟨g, 3, none⟩ = some (.int .i64 d.lasts) := h.2.2.1.cell 3
  have f3 : w.frozen? ⟨g, 3, none⟩ = false := h.2.2.1.free 3
  have K := Lib.hid k1
  have H := Lib.hid h
  clear h k1
  unfold stopV stopD
  by_cases hn : n < 0
  · rw [if_pos hn, if_pos hn]
    go_enter Try.func26, Try.ntmps26
    go_wp2_with (go_at_call 43; refine K.out.mono ?_; rintro e w' ⟨rfl, rfl⟩)
    go_ret
    exact ⟨rfl, H.out, KeptOff.refl _ _⟩
  · rw [if_neg hn, if_neg hn]
    go_enter Try.func26, Try.ntmps26
    go_wp2_with (go_at_call 43; refine K.out.mono ?_; rintro e w' ⟨rfl, rfl⟩)
    go_ret
    exact ⟨rfl, H.out.set 3 _ rfl rfl, KeptOff.set _ g 3 _ rfl⟩
end Go.Proofs.Ytincdegoiknfhab
