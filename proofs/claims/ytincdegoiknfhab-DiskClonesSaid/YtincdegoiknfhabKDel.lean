/-
  The map of a disk turned; Delete. Conditions as in Sync.
-/
import Derived.Test.YtincdegoiknfhabKSync
namespace Go.Proofs.Ytincdegoiknfhab
open Go.RowKit

theorem DiskAt.remap {w w' : World} {lo g b : Nat} {d : KDisk} {E' : List KEnt} (h : DiskAt w lo g b d) (hk : KeptOff (fun k => k = b) w w') (hm : MapAt w' b E') (hf : ∀ e ∈ E', FileAt w lo e) (hp : E'.Pairwise KApart) : DiskAt w' lo g b { d with E := E' } := by
  obtain ⟨h1, h2, h3, h4, h5, h6⟩ := h
  obtain ⟨es, clock, hmm, _⟩ := h4
  refine ⟨h1, h2, (hk.2.2.2.2 g h3.lt (cells_map h3 hmm)).trans h3, hm, fun e he => ?_, hp⟩
  obtain ⟨f1, f2, f3, f4⟩ := hf e he
  refine ⟨f1, (hk.2.2.2.2 e.g f2.lt (cells_map f2 hmm)).trans f2, f3.blk fun k hkk => ?_, f4⟩
  obtain ⟨cur, hc⟩ := f3.rowAt k hkk
  exact hk.2.2.2.2 k (f3.ownLt k hkk).2 (cells_map hc hmm)
theorem turned_off {w w' : World} {b : Nat} (h : w.mapTurned w' b) : KeptOff (fun k => k = b) w w' := by
  have hg := h.grown
  exact ⟨hg.os, hg.tape, hg.output, hg.size, fun k hk hne => hg.block k hk (fun e => hne (by injection e))⟩
theorem KeptOff.wide {F G : Nat → Prop} {w w' : World} (h : KeptOff F w w') (hFG : ∀ k, F k → G k) : KeptOff G w w' := ⟨h.1, h.2.1, h.2.2.1, h.2.2.2.1, fun k hk hg => h.2.2.2.2 k hk fun hf => hg (hFG k hf)⟩
theorem delE_mem {E : List KEnt} {n : List UInt8} {e : KEnt} (h : e ∈ delE n E) : e ∈ E ∧ e.name ≠ n := by
  unfold delE at h
  rw [List.mem_filter] at h
  exact ⟨h.1, by simpa using h.2⟩
def deleteV (d : KDisk) (n : List UInt8) : Int := if d.off = true then 30 else match atE d.E n with | none => 4 | some _ => spendV d
def deleteD (d : KDisk) (n : List UInt8) : KDisk := if d.off = true then d else match atE d.E n with | none => d | some _ => if d.lasts = 0 then spendD d else { spendD d with E := delE n d.E }
set_option maxHeartbeats 800000 in
theorem kdelete {w : World} {lo g b : Nat} {d : KDisk} (h : DiskAt w lo g b d) (hw : WfK d) (n : List UInt8) (hn : n.length ≤ maxLen) : Calls Try.prog 34 #[.pointer (some ⟨g, 0, none⟩), .string (str n)] w (Step (Foot g b d.E) w lo g b (deleteD d n) (.int .i64 (deleteV d n))) := by
  have k1 := kfind h n hn
  have k2 := kspend h hw
  have H := Lib.hid h
  have K2 := Lib.hid k2
  clear k2 h hw
  unfold findV at k1
  unfold deleteV deleteD
  cases ho : d.off with
  | true =>
    rw [ho, if_pos rfl] at k1
    rw [if_pos rfl, if_pos rfl]
    have K := Lib.hid k1
    clear k1 ho K2
    go_enter Try.func34, Try.ntmps34
    go_wp2_with (go_at_call 58; refine K.out.mono ?_; rintro e w' ⟨rfl, rfl⟩)
    go_ret
    exact ⟨rfl, H.out, KeptOff.refl _ _⟩
  | false =>
    rw [ho, if_neg Bool.false_ne_true] at k1
    rw [if_neg Bool.false_ne_true, if_neg Bool.false_ne_true]
    cases he : atE d.E n with
    | none =>
      rw [he] at k1
      have K := Lib.hid k1
      clear k1 ho he K2
      go_enter Try.func34, Try.ntmps34
      go_wp2_with (go_at_call 58; refine K.out.mono ?_; rintro e w' ⟨rfl, rfl⟩)
      go_ret
      exact ⟨rfl, H.out, KeptOff.refl _ _⟩
    | some e =>
      rw [he] at k1
      dsimp only at k1 ⊢
      have K := Lib.hid k1
      clear k1 ho he
      by_cases h0 : d.lasts = 0
      · have hv : spendV d = 30 := by unfold spendV; rw [if_pos h0]
        rw [if_pos h0, hv]
        have k2 := K2.out
        rw [hv] at k2
        have K3 := Lib.hid k2
        clear k2 h0 hv K2
        go_enter Try.func34, Try.ntmps34
        go_wp2_with (first
          | (go_at_call 58; refine K.out.mono ?_; rintro e w' ⟨rfl, rfl⟩)
          | (go_at_call 57; refine K3.out.mono ?_; rintro e w1 ⟨rfl, hd1, ho1⟩))
        go_ret
        exact ⟨rfl, hd1, ho1.wide fun k hk => .inl hk⟩
      · have hv : spendV d = 0 := by unfold spendV; rw [if_neg h0]
        rw [if_neg h0, hv]
        have k2 := K2.out
        rw [hv] at k2
        have K3 := Lib.hid k2
        clear k2 h0 hv K2
        go_enter Try.func34, Try.ntmps34
        go_wp2_with (go_at_call 58; refine K.out.mono ?_; rintro e w' ⟨rfl, rfl⟩)
        refine K3.out.mono ?_
        rintro e1 w1 ⟨rfl, hd1, ho1⟩
        have c1 : w1.cell? ⟨g, 1, none⟩ = some (.map (some b)) := hd1.2.2.1.cell 1
        have HD := Lib.hid hd1
        have HO := Lib.hid ho1
        clear hd1 ho1
        go_wp2_with (at_delete; refine wpList_delete_own _ rfl _ _ _ _ rfl _ Try.keyed Try.underlying62 ptrR b _ _ rfl HD.out.2.2.2.1 _ _ rfl (keyName n hn) ?_; intro w2 hown ht)
        rw [mapD_del, spendE] at hown
        have ho2 := turned_off ht
        have hd2 := HD.out.remap ho2 (MapAt.resize hown) (fun e he => HD.out.2.2.2.2.1 e (by rw [spendE]; exact (delE_mem he).1)) (HD.out.2.2.2.2.2.sublist (by rw [spendE]; exact List.filter_sublist))
        have HD2 := Lib.hid hd2
        have HO2 := Lib.hid ho2
        clear hd2 ho2 hown ht
        go_wp2_with fail
        go_ret
        exact ⟨rfl, HD2.out, (HO.out.wide (G := Foot g b d.E) fun k hk => .inl hk).trans (HO2.out.wide (G := Foot g b d.E) fun k hk => .inr (.inl hk)) fun x hx => .inl hx⟩
end Go.Proofs.Ytincdegoiknfhab
