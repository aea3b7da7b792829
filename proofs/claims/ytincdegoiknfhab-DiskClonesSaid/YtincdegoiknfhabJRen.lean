/-
  The document's disk: Rename. Conditions: sizes within what an int holds; the files lie in order of their names; names' lengths are lengths.
-/
import Derived.Test.YtincdegoiknfhabJOps2
namespace Go.Proofs.Ytincdegoiknfhab
open Go.RowKit

theorem del_del (n : List UInt8) (L : List AFile) : delA n (delA n L) = delA n L := by
  unfold delA
  rw [List.filter_filter]
  congr 1
  funext e
  simp
theorem put_del (e : AFile) (L : List AFile) : putA e (delA e.name L) = putA e L := by
  unfold putA
  rw [del_del]
theorem RFile.kept {w w' : World} {lo : Nat} {e : RF} {F : Nat → Prop} (h : RFile w lo e) (hk : KeptOff F w w') (hF : ∀ k, e.v.ownBlock = some k → ¬ F k) : RFile w' lo e := h.blk fun k hk2 => hk.2.2.2.2 k (h.1.ownLt k hk2).2 (hF k hk2)
theorem RFile.notDisk {w : World} {lo g : Nat} {d : RDisk} {e : RF} (h : RFile w lo e) (hd : RDiskAt w lo g d) : ∀ k, e.v.ownBlock = some k → ¬ k = g := fun k hk => by
  obtain ⟨cur, hc⟩ := h.1.rowAt k hk
  exact cells_ne hc hd.2.1 (by decide)
theorem spendR_len (d : RDisk) : (spendR d).E.length = d.E.length := by rw [(spendR_E d).1]
/-- What is left when a file was dropped, by the document's words. -/
theorem drop_abs (d : RDisk) (v : Value) (n : List UInt8) (hr : RiseA (absR d).L) (hi : isA n (absR d).L = true) :
    (absR { spendR d with v := v, E := d.E.take (posA n (absR d).L) ++ d.E.drop (posA n (absR d).L + 1) }).L = delA n (absR d).L := del_L d n hr hi
theorem mem_drop {α : Type} {l : List α} {i : Nat} {x : α} (h : x ∈ l.take i ++ l.drop (i + 1)) : x ∈ l := by
  rcases List.mem_append.1 h with h | h
  · exact List.mem_of_mem_take h
  · exact List.mem_of_mem_drop h
theorem mem_put {α : Type} {l : List α} {i : Nat} {x e : α} (h : x ∈ l.take i ++ e :: l.drop i) : x = e ∨ x ∈ l := by
  rcases List.mem_append.1 h with h | h
  · exact .inr (List.mem_of_mem_take h)
  · rcases List.mem_cons.1 h with h | h
    · exact .inl h
    · exact .inr (List.mem_of_mem_drop h)
/-- A file put at its place, by the document's words. -/
theorem put_abs {E : List RF} {L : List AFile} {e : RF} (hL : E.map absRF = L) (hr : RiseA L) (hi : isA e.name L = false) : (E.take (posA e.name L) ++ e :: E.drop (posA e.name L)).map absRF = putA (absRF e) L := by
  rw [put_pos (e := absRF e) hr hi, List.map_append, List.map_cons, List.map_take, List.map_drop, hL]
  rfl

set_option maxHeartbeats 6400000 in
set_option maxRecDepth 100000 in
theorem rrename {w : World} {lo g : Nat} {d : RDisk} (h : RDiskAt w lo g d) (hw : WfA (absR d)) (hr : RiseA (absR d).L) (x y : List UInt8) (hy : y.length ≤ maxLen) :
    Calls Try.prog 37 #[.pointer (some ⟨g, 0, none⟩), .string (str x), .string (str y)] w (RStep w lo g d (renameA (absR d) x y) (.int .i64 (renameAV (absR d) x y))) := by
  have hE : d.E.length ≤ 1000000 := by have := hw.2.2.2.2.1; rwa [absR_len] at this
  have kf := rfind h x hE
  have kn := fun W => rname y W hy
  unfold findRV at kf
  have K := Lib.hid kf
  have H := Lib.hid h
  have HW := Lib.hid hw
  have HE := Lib.hid hE
  unfold renameA renameAV
  show Calls _ _ _ _ (RStep w lo g d (if d.off = true then _ else _) (.int .i64 (if d.off = true then _ else _)))
  by_cases ho : d.off = true
  · rw [if_pos ho, if_pos ho]
    have HO := Lib.hid ho
    clear kf kn h hw hr ho
    generalize posA x (absR d).L = p at *
    generalize isA x (absR d).L = q at *
    go_enter Try.func37, Try.ntmps37
    go_wp2_with (go_at_call 61; refine K.out.mono ?_; rintro e w1 ⟨rfl, hb⟩; have HD1 := Lib.hid (H.out.below hb); have x3 : w1.cell? ⟨g, 3, none⟩ = some (.bool d.off) := HD1.out.2.1.cell 3; rw [HO.out] at x3; have HB := Lib.hid hb; clear hb)
    go_ret
    exact rstep_mk rfl HD1.out rfl (Below.off HB.out) (.inl rfl) (fun x hx => .inl ⟨x, hx, rfl⟩)
  · rw [if_neg ho, if_neg ho]
    have ho' : d.off = false := by cases hq : d.off with | false => rfl | true => exact (ho hq).elim
    have HO := Lib.hid ho'
    cases hn : nameB y with
    | false =>
      rw [if_pos rfl, if_pos rfl]
      rw [hn] at kn
      have KN := Lib.hid kn
      clear kf kn h hw hr ho ho' hn
      generalize posA x (absR d).L = p at *
      generalize isA x (absR d).L = q at *
      go_enter Try.func37, Try.ntmps37
      go_wp2_with (first
        | (go_at_call 61; refine K.out.mono ?_; rintro e w1 ⟨rfl, hb⟩; have HD1 := Lib.hid (H.out.below hb); have x3 : w1.cell? ⟨g, 3, none⟩ = some (.bool d.off) := HD1.out.2.1.cell 3; rw [HO.out] at x3; have HB := Lib.hid hb; clear hb)
        | (go_at_call 62; refine (KN.out _).mono ?_; rintro e w' ⟨rfl, rfl⟩))
      go_ret
      exact rstep_mk rfl HD1.out rfl (Below.off HB.out) (.inl rfl) (fun x hx => .inl ⟨x, hx, rfl⟩)
    | true =>
      rw [if_neg (by decide), if_neg (by decide)]
      rw [hn] at kn
      have KN := Lib.hid kn
      cases hi : isA x (absR d).L with
      | false =>
        rw [at_no hr hi]
        rw [hi] at K
        clear kf kn h hw hr ho ho' hi hn
        generalize posA x (absR d).L = p at *
        go_enter Try.func37, Try.ntmps37
        go_wp2_with (first
          | (go_at_call 61; refine K.out.mono ?_; rintro e w1 ⟨rfl, hb⟩; have HD1 := Lib.hid (H.out.below hb); have x3 : w1.cell? ⟨g, 3, none⟩ = some (.bool d.off) := HD1.out.2.1.cell 3; rw [HO.out] at x3; have HB := Lib.hid hb; clear hb)
          | (go_at_call 62; refine (KN.out _).mono ?_; rintro e w' ⟨rfl, rfl⟩))
        go_ret
        exact rstep_mk rfl HD1.out rfl (Below.off HB.out) (.inl rfl) (fun x hx => .inl ⟨x, hx, rfl⟩)
      | true =>
        rw [at_R d x hr hi]
        rw [hi] at K
        have hpl := pos_lt d x hi
        have hsv : spendAV (absR d) = if d.lasts = 0 then 30 else 0 := rfl
        show Calls _ _ _ _ (RStep w lo g d (if d.lasts = 0 then _ else _) (.int .i64 (spendAV (absR d))))
        rw [hsv]
        by_cases h0 : d.lasts = 0
        · rw [if_pos h0, if_pos h0]
          have HDC := Lib.hid (deed_dec0 h0)
          clear kf kn h hw hr ho ho' hi h0 hpl hsv hn
          generalize posA x (absR d).L = p at *
          go_enter Try.func37, Try.ntmps37
          go_wp2_with (first
            | (go_at_call 61; refine K.out.mono ?_; rintro e w1 ⟨rfl, hb⟩; have HD1 := Lib.hid (H.out.below hb); have x3 : w1.cell? ⟨g, 3, none⟩ = some (.bool d.off) := HD1.out.2.1.cell 3; rw [HO.out] at x3; have HB := Lib.hid hb; clear hb)
            | (go_at_call 62; refine (KN.out _).mono ?_; rintro e w' ⟨rfl, rfl⟩)
            | (go_at_call 63; refine (rdeed HD1.out HW.out).mono ?_; rintro e w2 ⟨rfl, hd2, hk2⟩; have HD2 := Lib.hid hd2; have HK2 := Lib.hid hk2; rw [HDC.out]; clear hd2 hk2))
          go_ret
          exact rstep_mk rfl HD2.out (spendR_abs d) (rkept HB.out HK2.out) (.inl (spendR_E d).2) (fun x hx => .inl ⟨x, by rwa [(spendR_E d).1] at hx, rfl⟩)
        · rw [if_neg h0, if_neg h0]
          have HDC := Lib.hid (deed_dec h0)
          have HPL := Lib.hid hpl
          have hL1 := fun v => drop_abs d v x hr hi
          have hr1 : RiseA (delA x (absR d).L) := del_rise hr
          have HL1 := Lib.hid hL1
          have HR1 := Lib.hid hr1
          obtain ⟨f, hf⟩ : ∃ f, f = d.E[posA x (absR d).L]'hpl := ⟨_, rfl⟩
          have hfl : RFile w lo f := by rw [hf]; exact h.2.2.2 _ (List.getElem_mem hpl)
          have hfm : f ∈ d.E := by rw [hf]; exact List.getElem_mem hpl
          have HFL := Lib.hid hfl
          have HFM := Lib.hid hfm
          obtain ⟨A3, c3, hA3⟩ := row_shape hfl.1
          have HA3 := Lib.hid hA3
          rw [← hf]
          have hi0 : ((posA x (absR d).L : Nat) : Int) < (d.E.length : Int) := by omega
          clear kf kn h hw hr ho ho' h0 hsv hn hL1 hr1 hfl hfm hA3
          have HI := Lib.hid hi
          clear hi
          obtain ⟨q, hq⟩ : ∃ q, q = isA y (delA x (absR d).L) := ⟨_, rfl⟩
          have HQ := Lib.hid hq
          clear hq
          have hat : ∀ {W : World} {d' : RDisk}, d'.E = d.E → RDiskAt W lo g d' → ∃ r c, W.cell? ⟨g, 0, none⟩ = some (.slice (some ⟨r, 0, none⟩) d.E.length c) ∧ (d.E.length : Int) ≤ (c : Int) ∧ W.cell? ⟨r, posA x (absR d).L * 3, none⟩ = some (.string (str f.name)) ∧ W.cell? ⟨r, posA x (absR d).L * 3 + 1, none⟩ = some f.v ∧ W.cell? ⟨r, posA x (absR d).L * 3 + 2, none⟩ = some (.int .i64 (f.safe : Int)) := by
            intro W d' he hd
            obtain ⟨r, c, hv, _, _, y0, y1, y2, _⟩ := hd.cells (i := posA x (absR d).L) (by rw [he]; exact hpl)
            have e1 : d'.E[posA x (absR d).L]'(by rw [he]; exact hpl) = f := by rw [hf]; simp only [he]
            rw [e1] at y0 y1 y2
            obtain ⟨A', c', h1, h2, _⟩ := hd.vshape
            have h3 := h1
            rw [hv] at h3
            injection h3 with _ _ h3
            refine ⟨r, c, ?_, ?_, y0, y1, y2⟩
            · rw [← he, ← hv]; exact hd.2.1.cell 0
            · rw [← he]; omega
          have HAT : Hid (∀ {W : World} {d' : RDisk}, d'.E = d.E → RDiskAt W lo g d' → ∃ r c, W.cell? ⟨g, 0, none⟩ = some (.slice (some ⟨r, 0, none⟩) d.E.length c) ∧ (d.E.length : Int) ≤ (c : Int) ∧ W.cell? ⟨r, posA x (absR d).L * 3, none⟩ = some (.string (str f.name)) ∧ W.cell? ⟨r, posA x (absR d).L * 3 + 1, none⟩ = some f.v ∧ W.cell? ⟨r, posA x (absR d).L * 3 + 2, none⟩ = some (.int .i64 (f.safe : Int))) := Lib.hid hat
          clear hat hf hpl
          generalize posA x (absR d).L = p at *
          obtain ⟨p2, hp2⟩ : ∃ p2, p2 = posA y (delA x (absR d).L) := ⟨_, rfl⟩
          have HP2 := Lib.hid hp2
          have HLE : Hid (∀ v5 : Value, p2 ≤ (d.E.take p ++ d.E.drop (p + 1)).length) := Lib.hid fun v5 => by
            have h1 := pos_le y (absR { spendR d with v := v5, E := d.E.take p ++ d.E.drop (p + 1) }).L
            have h2 := absR_len { spendR d with v := v5, E := d.E.take p ++ d.E.drop (p + 1) }
            rw [h2, HL1.out, ← hp2] at h1
            exact h1
          clear hp2
          cases q with
          | false =>
            go_enter Try.func37, Try.ntmps37
            go_wp2_with (first
              | (go_at_call 64; go_must (refine (rput HD6.out (by have := HE.out; have := HPL.out; simp only [List.length_append, List.length_take, List.length_drop]; omega) p2 (by have h1 := HLE.out v5; simp only [List.length_append, List.length_take, List.length_drop] at h1 ⊢; omega) ⟨y, .slice A3 f.bytes.length c3, f.bytes, f.safe⟩ (by have h1 := HFL6.out; unfold RFile at h1 ⊢; rw [HA3.out] at h1; exact h1)).mono ?_); rintro e w9 ⟨rfl, v9, hd9, hk9, hn9⟩; have HD9 := Lib.hid hd9; have HK9 := Lib.hid hk9; have HN9 := Lib.hid hn9; clear hd9 hk9 hn9)
              | (go_at_call 61; have kf5 := rfind HD5.out y (by have := HE.out; simp only [List.length_append, List.length_take, List.length_drop]; omega); unfold findRV at kf5; rw [HL1.out v5, ← HP2.out, ← HQ.out] at kf5; refine kf5.mono ?_; rintro e w6 ⟨rfl, hb6⟩; have HD6 := Lib.hid (HD5.out.below hb6); have B6 := Lib.hid (B5.out.below hb6 B5.out.lt); have HFL6 := Lib.hid (HFL5.out.blk fun k hk => hb6.block k (HFL5.out.1.ownLt k hk).2); have q0 : w6.cell? ⟨w2.heap.size, 0, none⟩ = some (.string (str y)) := B6.out.cell 0; have q1 : w6.cell? ⟨w2.heap.size, 1, none⟩ = some (.slice A3 f.bytes.length c3) := B6.out.cell 1; have q2 : w6.cell? ⟨w2.heap.size, 2, none⟩ = some (.int .i64 (f.safe : Int)) := B6.out.cell 2; have HB6 := Lib.hid hb6; clear hb6 kf5)
              | (go_at_call 65; refine (rdrop HD4.out (by rw [(spendR_E d).1]; exact HE.out) p (by rw [(spendR_E d).1]; exact HPL.out)).mono ?_; rintro e w5 ⟨rfl, v5, hd5, hk5, hn5⟩; rw [(spendR_E d).1] at hd5; have HD5 := Lib.hid hd5; have HK5 := Lib.hid hk5; have HN5 := Lib.hid hn5; have HGN : Hid (¬ w2.heap.size = g) := Lib.hid (by have := (HD2.out.lt g (.inl rfl)).2; omega); have B5 : Hid (Blk w5 w2.heap.size 78 #[.string (str y), .slice A3 f.bytes.length c3, .int .i64 (f.safe : Int)]) := Lib.hid ((hk5.2.2.2.2 _ B4.out.lt HGN.out).trans B4.out); have HFL5 := Lib.hid (HFL4.out.kept hk5 (HFL4.out.notDisk HD4.out)); clear hd5 hk5 hn5)
              | (go_at_call 61; refine K.out.mono ?_; rintro e w1 ⟨rfl, hb⟩; have HD1 := Lib.hid (H.out.below hb); have x3 : w1.cell? ⟨g, 3, none⟩ = some (.bool d.off) := HD1.out.2.1.cell 3; rw [HO.out] at x3; have HB := Lib.hid hb; clear hb)
              | (go_at_call 62; refine (KN.out _).mono ?_; rintro e w' ⟨rfl, rfl⟩)
              | (go_at_call 63; refine (rdeed HD1.out HW.out).mono ?_; rintro e w2 ⟨rfl, hd2, hk2⟩; have HD2 := Lib.hid hd2; have HK2 := Lib.hid hk2; obtain ⟨r, c, y0, y1c, y1, y2, y3⟩ := HAT.out (spendR_E d).1 hd2; rw [HDC.out]; rw [HA3.out] at y2; have HFL2 := Lib.hid ((HFL.out.blk fun k hk => HB.out.block k (HFL.out.1.ownLt k hk).2).kept hk2 fun k hk => (HFL.out.blk fun k hk => HB.out.block k (HFL.out.1.ownLt k hk).2).notDisk HD1.out k hk); clear hd2 hk2)
              | ((with_reducible refine wpList_store_file rfl (.tmp 9) (.tmp 40) rfl w2.heap.size _ _ _ (str f.name) A3 f.bytes.length c3 (f.safe : Int) rfl rfl (Blk.fresh _ _ _) ?_); intro w3 hb3 hg3; have hb4 := hb3.set 0 (.string (str y)); have B4 : Hid (Blk (w3.setCell ⟨w2.heap.size, 0, none⟩ (.string (str y))) w2.heap.size 78 #[.string (str y), .slice A3 f.bytes.length c3, .int .i64 (f.safe : Int)]) := Lib.hid hb4; have hb24 : Below w2.heap.size w2 (w3.setCell ⟨w2.heap.size, 0, none⟩ (.string (str y))) := (((Below.refl w2.heap.size w2).alloc (Nat.le_refl _) _).grown hg3 (by simp) (fun k hk => by injection hk with hk; omega)).grown (grown_set w3 w2.heap.size 0 _) (by have := hg3.size; simp at this; omega) (fun k hk => by injection hk with hk; omega); have HB24 := Lib.hid hb24; have HD4 := Lib.hid (HD2.out.below hb24); have HFL4 := Lib.hid (HFL2.out.blk fun k hk => hb24.block k (HFL2.out.1.ownLt k hk).2); have z0 : w3.cell? ⟨w2.heap.size, 0, none⟩ = some (.string (str f.name)) := hb3.cell 0; have z1 := hb3.free 0; clear hb3 hg3 hb4 hb24 y0 y1 y2 y3))
            go_ret
            have hch2 : KeptOff (fun k => k = g ∨ d.v.ownBlock = some k) w w2 := rkept HB.out HK2.out
            have hch4 := hch2.trans (Below.off (F := fun _ => False) HB24.out) (fun _ h => h.elim)
            have hch5 := rkept2 hch4 HK5.out
            have hch6 := hch5.trans (Below.off (F := fun _ => False) HB6.out) (fun _ h => h.elim)
            have hs9 := hch6.2.2.2.1
            refine rstep_mk rfl HD9.out ?_ (rkept2 hch6 HK9.out) (.inr fun k hk => Nat.le_trans hs9 (HN9.out k hk)) (fun z hz => ?_)
            · have hL := HL1.out v5
              have hpa := put_abs (E := d.E.take p ++ d.E.drop (p + 1)) (e := ⟨y, .slice A3 f.bytes.length c3, f.bytes, f.safe⟩) hL HR1.out HQ.out.symm
              rw [← spendR_abs]
              show ADisk.mk _ _ _ _ (List.map absRF _) = _
              have hpa2 : List.map absRF ((d.E.take p ++ d.E.drop (p + 1)).take p2 ++ ⟨y, .slice A3 f.bytes.length c3, f.bytes, f.safe⟩ :: (d.E.take p ++ d.E.drop (p + 1)).drop p2) = putA (absRF ⟨y, .slice A3 f.bytes.length c3, f.bytes, f.safe⟩) (delA x (absR d).L) := by rw [HP2.out]; exact hpa
              rw [hpa2]
              rfl
            · rcases mem_put hz with rfl | hz
              · exact .inl ⟨f, HFM.out, by rw [HA3.out]⟩
              · exact .inl ⟨z, mem_drop hz, rfl⟩
          | true =>
            go_enter Try.func37, Try.ntmps37
            go_wp2_with (first
              | (go_at_call 64; go_must (refine (rput HD7.out (by have := HE.out; have := HPL.out; simp only [List.length_append, List.length_take, List.length_drop]; omega) p2 (by have h1 := HLE.out v5; simp only [List.length_append, List.length_take, List.length_drop] at h1 ⊢; omega) ⟨y, .slice A3 f.bytes.length c3, f.bytes, f.safe⟩ (by have h1 := HFL7.out; unfold RFile at h1 ⊢; rw [HA3.out] at h1; exact h1)).mono ?_); rintro e w9 ⟨rfl, v9, hd9, hk9, hn9⟩; have HD9 := Lib.hid hd9; have HK9 := Lib.hid hk9; have HN9 := Lib.hid hn9; clear hd9 hk9 hn9)
              | (go_at_call 65; refine (rdrop HD6.out (by have := HE.out; simp only [List.length_append, List.length_take, List.length_drop]; omega) p2 (by have h1 := pos_lt { spendR d with v := v5, E := d.E.take p ++ d.E.drop (p + 1) } y (by rw [HL1.out]; exact HQ.out.symm); rw [HL1.out, ← HP2.out] at h1; exact h1)).mono ?_; rintro e w7 ⟨rfl, v7, hd7, hk7, hn7⟩; have HD7 := Lib.hid hd7; have HK7 := Lib.hid hk7; have HN7 := Lib.hid hn7; have B7 : Hid (Blk w7 w2.heap.size 78 #[.string (str y), .slice A3 f.bytes.length c3, .int .i64 (f.safe : Int)]) := Lib.hid ((hk7.2.2.2.2 _ B6.out.lt HGN.out).trans B6.out); have HFL7 := Lib.hid (HFL6.out.kept hk7 (HFL6.out.notDisk HD6.out)); have q0 : w7.cell? ⟨w2.heap.size, 0, none⟩ = some (.string (str y)) := B7.out.cell 0; have q1 : w7.cell? ⟨w2.heap.size, 1, none⟩ = some (.slice A3 f.bytes.length c3) := B7.out.cell 1; have q2 : w7.cell? ⟨w2.heap.size, 2, none⟩ = some (.int .i64 (f.safe : Int)) := B7.out.cell 2; clear hd7 hk7 hn7)
              | (go_at_call 61; have kf5 := rfind HD5.out y (by have := HE.out; simp only [List.length_append, List.length_take, List.length_drop]; omega); unfold findRV at kf5; rw [HL1.out v5, ← HP2.out, ← HQ.out] at kf5; refine kf5.mono ?_; rintro e w6 ⟨rfl, hb6⟩; have HD6 := Lib.hid (HD5.out.below hb6); have B6 := Lib.hid (B5.out.below hb6 B5.out.lt); have HFL6 := Lib.hid (HFL5.out.blk fun k hk => hb6.block k (HFL5.out.1.ownLt k hk).2); have q0 : w6.cell? ⟨w2.heap.size, 0, none⟩ = some (.string (str y)) := B6.out.cell 0; have q1 : w6.cell? ⟨w2.heap.size, 1, none⟩ = some (.slice A3 f.bytes.length c3) := B6.out.cell 1; have q2 : w6.cell? ⟨w2.heap.size, 2, none⟩ = some (.int .i64 (f.safe : Int)) := B6.out.cell 2; have HB6 := Lib.hid hb6; clear hb6 kf5)
              | (go_at_call 65; refine (rdrop HD4.out (by rw [(spendR_E d).1]; exact HE.out) p (by rw [(spendR_E d).1]; exact HPL.out)).mono ?_; rintro e w5 ⟨rfl, v5, hd5, hk5, hn5⟩; rw [(spendR_E d).1] at hd5; have HD5 := Lib.hid hd5; have HK5 := Lib.hid hk5; have HN5 := Lib.hid hn5; have HGN : Hid (¬ w2.heap.size = g) := Lib.hid (by have := (HD2.out.lt g (.inl rfl)).2; omega); have B5 : Hid (Blk w5 w2.heap.size 78 #[.string (str y), .slice A3 f.bytes.length c3, .int .i64 (f.safe : Int)]) := Lib.hid ((hk5.2.2.2.2 _ B4.out.lt HGN.out).trans B4.out); have HFL5 := Lib.hid (HFL4.out.kept hk5 (HFL4.out.notDisk HD4.out)); clear hd5 hk5 hn5)
              | (go_at_call 61; refine K.out.mono ?_; rintro e w1 ⟨rfl, hb⟩; have HD1 := Lib.hid (H.out.below hb); have x3 : w1.cell? ⟨g, 3, none⟩ = some (.bool d.off) := HD1.out.2.1.cell 3; rw [HO.out] at x3; have HB := Lib.hid hb; clear hb)
              | (go_at_call 62; refine (KN.out _).mono ?_; rintro e w' ⟨rfl, rfl⟩)
              | (go_at_call 63; refine (rdeed HD1.out HW.out).mono ?_; rintro e w2 ⟨rfl, hd2, hk2⟩; have HD2 := Lib.hid hd2; have HK2 := Lib.hid hk2; obtain ⟨r, c, y0, y1c, y1, y2, y3⟩ := HAT.out (spendR_E d).1 hd2; rw [HDC.out]; rw [HA3.out] at y2; have HFL2 := Lib.hid ((HFL.out.blk fun k hk => HB.out.block k (HFL.out.1.ownLt k hk).2).kept hk2 fun k hk => (HFL.out.blk fun k hk => HB.out.block k (HFL.out.1.ownLt k hk).2).notDisk HD1.out k hk); clear hd2 hk2)
              | ((with_reducible refine wpList_store_file rfl (.tmp 9) (.tmp 40) rfl w2.heap.size _ _ _ (str f.name) A3 f.bytes.length c3 (f.safe : Int) rfl rfl (Blk.fresh _ _ _) ?_); intro w3 hb3 hg3; have hb4 := hb3.set 0 (.string (str y)); have B4 : Hid (Blk (w3.setCell ⟨w2.heap.size, 0, none⟩ (.string (str y))) w2.heap.size 78 #[.string (str y), .slice A3 f.bytes.length c3, .int .i64 (f.safe : Int)]) := Lib.hid hb4; have hb24 : Below w2.heap.size w2 (w3.setCell ⟨w2.heap.size, 0, none⟩ (.string (str y))) := (((Below.refl w2.heap.size w2).alloc (Nat.le_refl _) _).grown hg3 (by simp) (fun k hk => by injection hk with hk; omega)).grown (grown_set w3 w2.heap.size 0 _) (by have := hg3.size; simp at this; omega) (fun k hk => by injection hk with hk; omega); have HB24 := Lib.hid hb24; have HD4 := Lib.hid (HD2.out.below hb24); have HFL4 := Lib.hid (HFL2.out.blk fun k hk => hb24.block k (HFL2.out.1.ownLt k hk).2); have z0 : w3.cell? ⟨w2.heap.size, 0, none⟩ = some (.string (str f.name)) := hb3.cell 0; have z1 := hb3.free 0; clear hb3 hg3 hb4 hb24 y0 y1 y2 y3))
            go_ret
            have hch2 : KeptOff (fun k => k = g ∨ d.v.ownBlock = some k) w w2 := rkept HB.out HK2.out
            have hch4 := hch2.trans (Below.off (F := fun _ => False) HB24.out) (fun _ h => h.elim)
            have hch5 := rkept2 hch4 HK5.out
            have hch6 := hch5.trans (Below.off (F := fun _ => False) HB6.out) (fun _ h => h.elim)
            have hch7 := rkept2 hch6 HK7.out
            have hs9 := hch7.2.2.2.1
            refine rstep_mk rfl HD9.out ?_ (rkept2 hch7 HK9.out) (.inr fun k hk => Nat.le_trans hs9 (HN9.out k hk)) (fun z hz => ?_)
            · have hL := HL1.out v5
              have hdl := del_L { spendR d with v := v5, E := d.E.take p ++ d.E.drop (p + 1) } y (by rw [hL]; exact HR1.out) (by rw [hL]; exact HQ.out.symm)
              rw [hL, ← HP2.out] at hdl
              have hpd := pos_del (n := y) HR1.out
              have hpa := put_abs (E := (d.E.take p ++ d.E.drop (p + 1)).take p2 ++ (d.E.take p ++ d.E.drop (p + 1)).drop (p2 + 1)) (e := ⟨y, .slice A3 f.bytes.length c3, f.bytes, f.safe⟩) hdl (del_rise HR1.out) hpd.2
              rw [show posA (RF.mk y (.slice A3 f.bytes.length c3) f.bytes f.safe).name (delA y (delA x (absR d).L)) = p2 from hpd.1.trans HP2.out.symm] at hpa
              have hpe := put_del (absRF ⟨y, .slice A3 f.bytes.length c3, f.bytes, f.safe⟩) (delA x (absR d).L)
              rw [show (absRF ⟨y, .slice A3 f.bytes.length c3, f.bytes, f.safe⟩).name = y from rfl] at hpe
              rw [hpe] at hpa
              rw [← spendR_abs]
              show ADisk.mk _ _ _ _ (List.map absRF _) = _
              rw [hpa]
              rfl
            · rcases mem_put hz with rfl | hz
              · exact .inl ⟨f, HFM.out, by rw [HA3.out]⟩
              · exact .inl ⟨z, mem_drop (mem_drop hz), rfl⟩
end Go.Proofs.Ytincdegoiknfhab
