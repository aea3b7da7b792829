/-
  Sync. Conditions: names' lengths are lengths; deeds and what the power lasts are within what an int holds.
-/
import Derived.Test.YtincdegoiknfhabKUpd
namespace Go.Proofs.Ytincdegoiknfhab
open Go.RowKit

theorem spendE (d : KDisk) : (spendD d).E = d.E := by unfold spendD; split <;> rfl
def syncV (d : KDisk) (n : List UInt8) : Int := if d.off = true then 30 else match atE d.E n with | none => 4 | some _ => spendV d
def syncD (d : KDisk) (n : List UInt8) : KDisk := if d.off = true then d else match atE d.E n with | none => d | some e => if d.lasts = 0 then spendD d else { spendD d with E := updE { e with safe := e.bytes.length } d.E }
theorem row_shape {w : World} {lo e : Nat} {v : Value} {l : List UInt8} (h : Own w lo e v (bvs l)) : ∃ A c, v = .slice A l.length c := by
  rcases h.2 with ⟨rfl, h0⟩ | ⟨g, cap, cur, rfl, _⟩
  · rw [bvs_length] at h0
    exact ⟨none, 0, by rw [h0]⟩
  · rw [bvs_length]
    exact ⟨_, cap, rfl⟩
set_option maxHeartbeats 800000 in
theorem ksync {w : World} {lo g b : Nat} {d : KDisk} (h : DiskAt w lo g b d) (hw : WfK d) (n : List UInt8) (hn : n.length ≤ maxLen) : Calls Try.prog 25 #[.pointer (some ⟨g, 0, none⟩), .string (str n)] w (Step (Foot g b d.E) w lo g b (syncD d n) (.int .i64 (syncV d n))) := by
  have k1 := kfind h n hn
  have k2 := kspend h hw
  have H := Lib.hid h
  have K2 := Lib.hid k2
  clear k2 h hw
  unfold findV at k1
  unfold syncV syncD
  cases ho : d.off with
  | true =>
    rw [ho, if_pos rfl] at k1
    rw [if_pos rfl, if_pos rfl]
    have K := Lib.hid k1
    clear k1 ho K2
    go_enter Try.func25, Try.ntmps25
    go_wp2_with (go_at_call 58; refine K.out.mono ?_; rintro e w' ⟨rfl, rfl⟩)
    go_ret
    exact ⟨rfl, H.out, KeptOff.refl _ _⟩
  | false =>
    rw [ho, if_neg (by simp)] at k1
    rw [if_neg (by simp), if_neg (by simp)]
    cases he : atE d.E n with
    | none =>
      rw [he] at k1
      have K := Lib.hid k1
      clear k1 ho he K2
      go_enter Try.func25, Try.ntmps25
      go_wp2_with (go_at_call 58; refine K.out.mono ?_; rintro e w' ⟨rfl, rfl⟩)
      go_ret
      exact ⟨rfl, H.out, KeptOff.refl _ _⟩
    | some e =>
      rw [he] at k1
      dsimp only at k1 ⊢
      have K := Lib.hid k1
      obtain ⟨hm, hne⟩ := atE_mem he
      have HM := Lib.hid hm
      clear k1 ho he hm hne
      by_cases h0 : d.lasts = 0
      · have hv : spendV d = 30 := by unfold spendV; rw [if_pos h0]
        rw [if_pos h0, hv]
        have k2 := K2.out
        rw [hv] at k2
        have K3 := Lib.hid k2
        clear k2 h0 hv K2
        go_enter Try.func25, Try.ntmps25
        go_wp2_with (first
          | (go_at_call 58; refine K.out.mono ?_; rintro e w' ⟨rfl, rfl⟩)
          | (go_at_call 57; refine K3.out.mono ?_; rintro e w1 ⟨rfl, hd1, ho1⟩))
        go_ret
        exact ⟨rfl, hd1, ho1.1, ho1.2.1, ho1.2.2.1, ho1.2.2.2.1, fun k hk hf => ho1.2.2.2.2 k hk fun x => hf (.inl x)⟩
      · have hv : spendV d = 0 := by unfold spendV; rw [if_neg h0]
        rw [if_neg h0, hv]
        have k2 := K2.out
        rw [hv] at k2
        have K3 := Lib.hid k2
        clear k2 h0 hv K2
        go_enter Try.func25, Try.ntmps25
        go_wp2_with (go_at_call 58; refine K.out.mono ?_; rintro e w' ⟨rfl, rfl⟩)
        refine K3.out.mono ?_
        rintro e1 w1 ⟨rfl, hd1, ho1⟩
        have hm1 : e ∈ (spendD d).E := by rw [spendE]; exact HM.out
        obtain ⟨f1, f2, f3, f4⟩ := hd1.2.2.2.2.1 e hm1
        obtain ⟨A, c, hA⟩ := row_shape f3
        have c0 : w1.cell? ⟨e.g, 0, none⟩ = some (.slice A e.bytes.length c) := by rw [← hA]; exact f2.cell 0
        have c1 : w1.cell? ⟨e.g, 1, none⟩ = some (.int .i64 (e.safe : Int)) := f2.cell 1
        have z1 : w1.frozen? ⟨e.g, 1, none⟩ = false := f2.free 1
        have hfile : FileAt (w1.setCell ⟨e.g, 1, none⟩ (.int .i64 (e.bytes.length : Int))) lo { e with safe := e.bytes.length } := by
          refine ⟨f1, f2.set 1 _, f3.blk fun k hk => ?_, Nat.le_refl _⟩
          obtain ⟨cur, hc⟩ := f3.rowAt k hk
          exact Below.heap_setCell _ _ _ _ (cells_ne hc f2 (by decide))
        have hd2 := hd1.upd hm1 (e' := { e with safe := e.bytes.length }) rfl rfl hfile (KeptOff.set _ _ _ _ (.inl rfl)) (fun k hk => .inl hk)
        rw [spendE] at hd2
        have HD := Lib.hid hd2
        have HO := Lib.hid ho1
        clear hd2 ho1 hd1 hfile f1 f2 f3 f4 hA
        go_wp2_with fail
        go_ret
        refine ⟨rfl, HD.out, KeptOff.trans ⟨HO.out.1, HO.out.2.1, HO.out.2.2.1, HO.out.2.2.2.1, fun k hk hf => HO.out.2.2.2.2 k hk fun x => hf (.inl x)⟩ (KeptOff.set (F := Foot g b d.E) _ e.g 1 _ (.inr (.inr ⟨e, HM.out, .inl rfl⟩))) fun x hx => .inl hx⟩
end Go.Proofs.Ytincdegoiknfhab
