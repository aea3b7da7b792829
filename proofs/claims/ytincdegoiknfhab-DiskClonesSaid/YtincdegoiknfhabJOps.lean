/-
  The document's disk: Delete, Read. Conditions: sizes within what an int holds; the files lie in order of their names.
-/
import Derived.Test.YtincdegoiknfhabJPut
namespace Go.Proofs.Ytincdegoiknfhab
open Go.RowKit

/-- What a step comes to, out of its parts. -/
theorem rstep_mk {w w3 : World} {lo g : Nat} {d d3 : RDisk} {A' : ADisk} {v : Value} {e : Ending} (hv : e = .returned v) (h3 : RDiskAt w3 lo g d3) (ha : absR d3 = A') (hk : KeptOff (fun k => k = g ∨ d.v.ownBlock = some k) w w3)
    (hf : d3.v = d.v ∨ ∀ k, d3.v.ownBlock = some k → w.heap.size ≤ k) (hE : ∀ x ∈ d3.E, (∃ f ∈ d.E, x.v = f.v) ∨ ∀ k, x.v.ownBlock = some k → w.heap.size ≤ k) : RStep w lo g d A' v e w3 := by
  refine ⟨hv, d3, h3, ha, hk, ?_⟩
  rintro k (rfl | hx | ⟨x, hx, hxk⟩)
  · exact .inl (.inl rfl)
  · rcases hf with hf | hf
    · exact .inl (.inr (.inl (by rw [← hf]; exact hx)))
    · exact .inr (hf k hx)
  · rcases hE x hx with ⟨f, hf2, he⟩ | he
    · exact .inl (.inr (.inr ⟨f, hf2, by rw [← he]; exact hxk⟩))
    · exact .inr (he k hxk)
theorem rkept {w w1 w2 : World} {g : Nat} {d : RDisk} (hb : Below w.heap.size w w1) (hk : KeptOff (fun k => k = g) w1 w2) : KeptOff (fun k => k = g ∨ d.v.ownBlock = some k) w w2 :=
  KeptOff.trans (Below.off hb) hk fun _ hx => .inl (.inl hx)
theorem rkept2 {w w1 w2 : World} {g : Nat} {d : RDisk} (hb : KeptOff (fun k => k = g ∨ d.v.ownBlock = some k) w w1) (hk : KeptOff (fun k => k = g) w1 w2) : KeptOff (fun k => k = g ∨ d.v.ownBlock = some k) w w2 :=
  KeptOff.trans hb hk fun _ hx => .inl (.inl hx)
theorem rsame (d : RDisk) (x : RF) (hx : x ∈ d.E) : (∃ f ∈ d.E, x.v = f.v) ∨ ∀ k, x.v.ownBlock = some k → (0 : Nat) ≤ k := .inl ⟨x, hx, rfl⟩
theorem del_L (d : RDisk) (n : List UInt8) (hr : RiseA (absR d).L) (hi : isA n (absR d).L = true) : (d.E.take (posA n (absR d).L) ++ d.E.drop (posA n (absR d).L + 1)).map absRF = delA n (absR d).L := by
  rw [del_pos hr hi, List.map_append, List.map_take, List.map_drop]
  rfl
theorem pos_lt (d : RDisk) (n : List UInt8) (hi : isA n (absR d).L = true) : posA n (absR d).L < d.E.length := by
  have h1 := pos_le n (absR d).L
  have h2 : ¬ posA n (absR d).L = (absR d).L.length := fun e => by rw [is_end e] at hi; cases hi
  rw [absR_len] at h1 h2
  omega
theorem at_yes {L : List AFile} {n : List UInt8} (hr : RiseA L) (hi : isA n L = true) : atA L n = L[posA n L]? := by rw [at_pos hr, if_pos hi]
theorem at_no {L : List AFile} {n : List UInt8} (hr : RiseA L) (hi : isA n L = false) : atA L n = none := by rw [at_pos hr, hi, if_neg Bool.false_ne_true]
theorem at_R (d : RDisk) (n : List UInt8) (hr : RiseA (absR d).L) (hi : isA n (absR d).L = true) : atA (absR d).L n = some (absRF (d.E[posA n (absR d).L]'(pos_lt d n hi))) := by
  have hl := pos_lt d n hi
  rw [at_yes hr hi]
  show (d.E.map absRF)[posA n (absR d).L]? = _
  rw [List.getElem?_map, List.getElem?_eq_getElem hl]
  rfl
theorem at_name (d : RDisk) (n : List UInt8) (hi : isA n (absR d).L = true) : (d.E[posA n (absR d).L]'(pos_lt d n hi)).name = n := by
  have hl := pos_lt d n hi
  have h2 := is_at (n := n) (L := (absR d).L) (k := posA n (absR d).L) (by rw [absR_len]; exact hl) rfl
  rw [hi, absR_name d hl] at h2
  simpa using h2.symm
theorem deed_dec {d : RDisk} (h : ¬ d.lasts = 0) : decide (d.lasts ≠ 0) = true := decide_eq_true h
theorem deed_dec0 {d : RDisk} (h : d.lasts = 0) : decide (d.lasts ≠ 0) = false := decide_eq_false fun e => e h
set_option maxHeartbeats 3200000 in
set_option maxRecDepth 100000 in
theorem rdelete {w : World} {lo g : Nat} {d : RDisk} (h : RDiskAt w lo g d) (hw : WfA (absR d)) (hr : RiseA (absR d).L) (n : List UInt8) :
    Calls Try.prog 38 #[.pointer (some ⟨g, 0, none⟩), .string (str n)] w (RStep w lo g d (deleteA (absR d) n) (.int .i64 (deleteAV (absR d) n))) := by
  have hE : d.E.length ≤ 1000000 := by have := hw.2.2.2.2.1; rwa [absR_len] at this
  have kf := rfind h n hE
  unfold findRV at kf
  have K := Lib.hid kf
  have H := Lib.hid h
  have HW := Lib.hid hw
  have HE := Lib.hid hE
  unfold deleteA deleteAV
  show Calls _ _ _ _ (RStep w lo g d (if d.off = true then _ else _) (.int .i64 (if d.off = true then _ else _)))
  by_cases ho : d.off = true
  · rw [if_pos ho, if_pos ho]
    have HO := Lib.hid ho
    clear kf h hw hr ho
    generalize posA n (absR d).L = p at *
    generalize isA n (absR d).L = q at *
    go_enter Try.func38, Try.ntmps38
    go_wp2_with (go_at_call 61; refine K.out.mono ?_; rintro e w1 ⟨rfl, hb⟩; have HD1 := Lib.hid (H.out.below hb); have x3 : w1.cell? ⟨g, 3, none⟩ = some (.bool d.off) := HD1.out.2.1.cell 3; rw [HO.out] at x3; have HB := Lib.hid hb; clear hb)
    go_ret
    exact rstep_mk rfl HD1.out rfl (Below.off HB.out) (.inl rfl) (fun x hx => .inl ⟨x, hx, rfl⟩)
  · rw [if_neg ho, if_neg ho]
    have ho' : d.off = false := by cases hq : d.off with | false => rfl | true => exact (ho hq).elim
    have HO := Lib.hid ho'
    cases hi : isA n (absR d).L with
    | false =>
      rw [at_no hr hi]
      rw [hi] at K
      clear kf h hw hr ho ho' hi
      generalize posA n (absR d).L = p at *
      go_enter Try.func38, Try.ntmps38
      go_wp2_with (go_at_call 61; refine K.out.mono ?_; rintro e w1 ⟨rfl, hb⟩; have HD1 := Lib.hid (H.out.below hb); have x3 : w1.cell? ⟨g, 3, none⟩ = some (.bool d.off) := HD1.out.2.1.cell 3; rw [HO.out] at x3; have HB := Lib.hid hb; clear hb)
      go_ret
      exact rstep_mk rfl HD1.out rfl (Below.off HB.out) (.inl rfl) (fun x hx => .inl ⟨x, hx, rfl⟩)
    | true =>
      rw [at_R d n hr hi]
      rw [hi] at K
      have hpl := pos_lt d n hi
      have hdl := del_L d n hr hi
      have hsv : spendAV (absR d) = if d.lasts = 0 then 30 else 0 := rfl
      show Calls _ _ _ _ (RStep w lo g d (if d.lasts = 0 then _ else _) (.int .i64 (spendAV (absR d))))
      rw [hsv]
      by_cases h0 : d.lasts = 0
      · rw [if_pos h0, if_pos h0]
        have HDC := Lib.hid (deed_dec0 h0)
        clear kf h hw hr ho ho' hi h0 hpl hdl hsv
        generalize posA n (absR d).L = p at *
        go_enter Try.func38, Try.ntmps38
        go_wp2_with (first
          | (go_at_call 61; refine K.out.mono ?_; rintro e w1 ⟨rfl, hb⟩; have HD1 := Lib.hid (H.out.below hb); have x3 : w1.cell? ⟨g, 3, none⟩ = some (.bool d.off) := HD1.out.2.1.cell 3; rw [HO.out] at x3; have HB := Lib.hid hb; clear hb)
          | (go_at_call 63; refine (rdeed HD1.out HW.out).mono ?_; rintro e w2 ⟨rfl, hd2, hk2⟩; have HD2 := Lib.hid hd2; have HK2 := Lib.hid hk2; rw [HDC.out]; clear hd2 hk2))
        go_ret
        exact rstep_mk rfl HD2.out (spendR_abs d) (rkept HB.out HK2.out) (.inl (spendR_E d).2) (fun x hx => .inl ⟨x, by rwa [(spendR_E d).1] at hx, rfl⟩)
      · rw [if_neg h0, if_neg h0]
        have HDC := Lib.hid (deed_dec h0)
        have HPL := Lib.hid hpl
        have HDL := Lib.hid hdl
        clear kf h hw hr ho ho' hi h0 hsv hpl hdl
        generalize posA n (absR d).L = p at *
        go_enter Try.func38, Try.ntmps38
        go_wp2_with (first
          | (go_at_call 61; refine K.out.mono ?_; rintro e w1 ⟨rfl, hb⟩; have HD1 := Lib.hid (H.out.below hb); have x3 : w1.cell? ⟨g, 3, none⟩ = some (.bool d.off) := HD1.out.2.1.cell 3; rw [HO.out] at x3; have HB := Lib.hid hb; clear hb)
          | (go_at_call 63; refine (rdeed HD1.out HW.out).mono ?_; rintro e w2 ⟨rfl, hd2, hk2⟩; have HD2 := Lib.hid hd2; have HK2 := Lib.hid hk2; rw [HDC.out]; clear hd2 hk2)
          | (go_at_call 65; refine (rdrop HD2.out (by rw [(spendR_E d).1]; exact HE.out) p (by rw [(spendR_E d).1]; exact HPL.out)).mono ?_; rintro e w3 ⟨rfl, v3, hd3, hk3, hn3⟩; have HD3 := Lib.hid hd3; have HK3 := Lib.hid hk3; have HN3 := Lib.hid hn3; clear hd3 hk3 hn3))
        go_ret
        refine rstep_mk rfl HD3.out ?_ (rkept2 (rkept HB.out HK2.out) HK3.out) (.inr fun k hk => Nat.le_trans (Nat.le_trans HB.out.size HK2.out.2.2.2.1) (HN3.out k hk)) (fun x hx => ?_)
        · rw [← spendR_abs, ← HDL.out]
          show ADisk.mk _ _ _ _ (((spendR d).E.take p ++ (spendR d).E.drop (p + 1)).map absRF) = _
          rw [(spendR_E d).1]
          rfl
        · have hx' : x ∈ (spendR d).E.take p ++ (spendR d).E.drop (p + 1) := hx
          rw [(spendR_E d).1] at hx'
          rcases List.mem_append.1 hx' with hx' | hx'
          · exact .inl ⟨x, List.mem_of_mem_take hx', rfl⟩
          · exact .inl ⟨x, List.mem_of_mem_drop hx', rfl⟩
end Go.Proofs.Ytincdegoiknfhab
