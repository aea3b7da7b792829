/-
  xml.Write: the text of tokens. Conditions: their cells lie in memory; at most 400 of them; lengths are lengths; the table of signs lies in memory.
-/
import Derived.Test.YtelhdkidnhfnbaaDoorXWrit
namespace Go.Proofs.YtelhdkidnhfnbaaDoor
open Go.RowKit

def LenT (e : TokE) : Prop := e.name.length ≤ 1000000 ∧ e.text.length ≤ 1000000 ∧ ∀ a ∈ e.attrs, a.1.length ≤ 1000000 ∧ a.2.length ≤ 1000000
def mayW (was : Int) (t : Tk) : Bool := mayTok t.kind t.name t.attrs t.text && !(t.kind == 3 && was == 3)
/-- What Write answers, when so much is written. -/
def wriF : Int → List UInt8 → List Tk → List UInt8 × Int
  | _, out, [] => (out, 0)
  | was, out, t :: r => if mayW was t = true then wriF t.kind (out ++ writeK t) r else ([], 1)
theorem may_32 {k : Int} {n t : List UInt8} {L : AttrL} (h : mayTok k n L t = true) (hk : k = 1) : L.length ≤ 32 := by
  subst hk
  unfold mayTok at h
  rw [if_pos rfl] at h
  simp only [Bool.and_eq_true] at h
  have := h.1.2
  unfold attrsOk at this
  rw [Bool.and_eq_true] at this
  exact of_decide_eq_true this.1
theorem writ_any {w0 w : World} {g : Nat} {out : List UInt8} {k : Int} {name text : List UInt8} {L : AttrL} {v : Value} (hb : Bld g out w) (hg : g < w.heap.size) (h0 : w0.heap.size ≤ g) (hbw : Below w0.heap.size w0 w) (hout : out.length ≤ 100000000000) (hl : LenT ⟨k, name, L, v, text⟩) (hs : SrcA w0 v L)
    (hm : mayTok k name L text = true) (hS : Sig w0) : Calls Tryd.prog 24 #[.pointer (some ⟨g, 0, none⟩), .agg #[.int .i64 k, .string (str name), v, .string (str text)]] w (WritAns w0 w g (out ++ writeK ⟨k, name, L, text⟩)) := by
  by_cases h1 : k = 1
  · have h32 := may_32 hm h1
    subst h1
    exact writ_1 hb hg h0 hbw hout hl.1 hs h32 hl.2.2 hS
  · obtain ⟨A, c, rfl, _⟩ := hs
    by_cases h2 : k = 2
    · subst h2
      exact writ_2 hb hg h0 hbw hout hl.1
    · by_cases h3 : k = 3
      · subst h3
        exact writ_3 hb hg h0 hbw hout hl.1 hl.2.1 (hS.below hbw)
      · have h := writ_0 (name := name) (text := text) (A := A) (n := L.length) (c := c) hb hg h0 hbw hout hl.1 h1 h2 h3
        have e : writeK ⟨k, name, L, text⟩ = [] := by unfold writeK; rw [if_neg h1, if_neg h2, if_neg h3]
        rw [e, List.append_nil]
        exact h
theorem writeK_len (e : TokE) (hl : LenT e) (h32 : e.kind = 1 → e.attrs.length ≤ 32) : (writeK e.tk).length ≤ 230000000 := by
  obtain ⟨k, name, L, v, text⟩ := e
  unfold writeK
  show (if k = 1 then _ else _ : List UInt8).length ≤ _
  obtain ⟨h1, h2, h3⟩ := hl
  simp only at h1 h2 h3 h32
  split
  · rename_i hk
    have h4 := attrsW_len L h3
    have h5 := h32 hk
    have h6 : 7000010 * L.length ≤ 7000010 * 32 := Nat.mul_le_mul_left _ h5
    show (60 :: (name ++ (attrsW L ++ [62]))).length ≤ _
    simp only [List.length_cons, List.length_append, List.length_nil]
    omega
  · split
    · show (60 :: 47 :: (name ++ [62])).length ≤ _
      simp only [List.length_cons, List.length_append, List.length_nil]
      omega
    · split
      · have := (writeR_len text).2
        show (writeR text).length ≤ _
        omega
      · exact Nat.zero_le _
def WriteRelX (w : World) (L : List TokE) (u5 u10 : Value) (W : World) : Prop :=
  ∃ (k : Nat) (last : Int) (out : List UInt8), k ≤ L.length ∧ u10 = .int .i64 (k : Int) ∧ u5 = .int .i64 last ∧ wriF last out ((L.map TokE.tk).drop k) = wriF 0 [] (L.map TokE.tk) ∧ Bld w.heap.size out W ∧ Below w.heap.size w W ∧ w.heap.size < W.heap.size ∧ out.length ≤ 230000000 * k
def XWAns (w : World) (L : List TokE) (e : Ending) (w' : World) : Prop := Made w (.tuple #[.string (str (wriF 0 [] (L.map TokE.tk)).1), .int .i64 (wriF 0 [] (L.map TokE.tk)).2]) e w'
set_option maxHeartbeats 12800000 in
set_option maxRecDepth 100000 in
theorem xwrite_any {w : World} {v : Value} {L : List TokE} (hs : SrcT w v L) (hL : L.length ≤ 400) (hla : ∀ e ∈ L, LenT e) (hS : Sig w) : Calls Tryd.prog 12 #[v] w (XWAns w L) := by
  have HT := Lib.hid hs
  obtain ⟨⟨A, c, rfl, _⟩, _⟩ := hs
  obtain ⟨n, hn⟩ : ∃ n, n = L.length := ⟨_, rfl⟩
  rw [← hn]
  have HN := Lib.hid hn
  have HLA := Lib.hid hla
  have HS := Lib.hid hS
  have hni : (n : Int) ≤ 400 := by omega
  have HL := Lib.hid hL
  clear hn hL hla hS
  go_enter Tryd.func12, Tryd.ntmps12
  go_wp2_with fail
  go_loopw [5, 10] (WriteRelX w L) (fun _ u _ => L.length - (intOf u).toNat)
  case atStart =>
    exact ⟨0, 0, [], Nat.zero_le _, rfl, rfl, rfl, bld_new w, (Below.refl _ _).alloc (Nat.le_refl _) _, by simp, by simp⟩
  case round =>
    obtain ⟨k, last, out, hk, rfl, rfl, hwr, hbd, hbw, hgs, hol⟩ := hrel
    have HWR := Lib.hid hwr
    have HBD := Lib.hid hbd
    have HBW := Lib.hid hbw
    have HGS := Lib.hid hgs
    have HOL := Lib.hid hol
    clear hwr hbd hbw hgs hol
    by_cases hkn : k < n
    · have hkI : (k : Int) < (n : Int) := by omega
      have hk1 : k < L.length := by have := HN.out; omega
      obtain ⟨⟨A', c', hv, hA⟩, hsa⟩ := HT.out.below HBW.out
      obtain ⟨b, o, hz, _, hc⟩ := hA (by omega)
      injection hv with i1 _ i3
      subst i3
      rw [hz] at i1
      subst i1
      obtain ⟨z1, z2, z3, z4⟩ := tcells_src hc hk1
      have SA0 := HT.out.2 _ (List.getElem_mem hk1)
      have LE := Lib.hid (HLA.out _ (List.getElem_mem hk1))
      have HK1 : Hid (k + 1 ≤ L.length) := Lib.hid hk1
      have HDR : Hid ((L.map TokE.tk).drop k = L[k].tk :: (L.map TokE.tk).drop (k + 1)) := Lib.hid (by rw [List.drop_eq_getElem_cons (by rw [List.length_map]; exact hk1), List.getElem_map]; rfl)
      generalize L[k] = e at *
      obtain ⟨ek, en, ea, ev, et⟩ := e
      simp only at z1 z2 z3 z4 SA0
      obtain ⟨Ae, ce, hev, _⟩ := id SA0
      obtain ⟨ne, hne⟩ : ∃ ne, ne = ea.length := ⟨_, rfl⟩
      rw [← hne] at hev
      subst hev
      have HSA0 := Lib.hid SA0
      have hb1 : Below wr.heap.size wr (wr.alloc (.cells #[.int .i64 ek, .string (str en), .slice Ae ne ce, .string (str et)] 36)) := (Below.refl _ _).alloc (Nat.le_refl _) _
      have HB1 := Lib.hid (below_then HBW.out hb1)
      have HBD1 := Lib.hid (Bld.below HBD.out hb1)
      have HGS1 : Hid (w.heap.size < (wr.alloc (.cells #[.int .i64 ek, .string (str en), .slice Ae ne ce, .string (str et)] 36)).heap.size) := Lib.hid (Nat.lt_of_lt_of_le HGS.out hb1.size)
      have BX : Hid (Blk (wr.alloc (.cells #[.int .i64 ek, .string (str en), .slice Ae ne ce, .string (str et)] 36)) wr.heap.size 36 #[.int .i64 ek, .string (str en), .slice Ae ne ce, .string (str et)]) := Lib.hid (Blk.fresh _ _ _)
      have HQG : Hid (wr.heap.size ≠ w.heap.size) := Lib.hid (by have := HGS.out; omega)
      have km := mayBe_any (k := ek) (name := en) (text := et) (SA0.below HB1.out) (fun a ha => (LE.out.2.2 a ha).1)
      obtain ⟨B, hB⟩ : ∃ B, B = mayTok ek en ea et := ⟨_, rfl⟩
      rw [← hB] at km
      have KM := Lib.hid km
      have HBT := Lib.hid hB
      clear SA0 hc hA hsa hz hk1 hne hb1 km hB
      cases B with
      | false =>
        have HX : Hid (wriF 0 [] (L.map TokE.tk) = ([], 1)) := Lib.hid (by rw [← HWR.out, HDR.out]; exact if_neg (by unfold mayW; show ¬ ((mayTok ek en ea et && _) = true); rw [← HBT.out]; simp))
        go_wp2_with (go_at_call 23; refine KM.out.mono ?_; rintro e w5 ⟨rfl, hb5⟩; have HB5 := Lib.hid (below_then HB1.out hb5); clear hb5)
        go_ret2
        exact ⟨by rw [HX.out]; rfl, HB5.out⟩
      | true =>
        by_cases hj : ek = 3 ∧ last = 3
        · obtain ⟨rfl, rfl⟩ := hj
          have HX : Hid (wriF 0 [] (L.map TokE.tk) = ([], 1)) := Lib.hid (by rw [← HWR.out, HDR.out]; exact if_neg (by unfold mayW; show ¬ ((_ && !((3 : Int) == 3 && (3 : Int) == 3)) = true); simp))
          go_wp2_with (go_at_call 23; refine KM.out.mono ?_; rintro e w5 ⟨rfl, hb5⟩; have y0 : w5.cell? ⟨wr.heap.size, 0, none⟩ = some (.int .i64 3) := (BX.out.below hb5 BX.out.lt).cell 0; have HB5 := Lib.hid (below_then HB1.out hb5); clear hb5)
          go_ret2
          exact ⟨by rw [HX.out]; rfl, HB5.out⟩
        · have HMW : Hid (mayW last ⟨ek, en, ea, et⟩ = true) := Lib.hid (by
            unfold mayW
            show (mayTok ek en ea et && !(ek == 3 && last == 3)) = true
            rw [← HBT.out, Bool.true_and]
            cases h : (ek == 3 && last == 3) with
            | false => rfl
            | true =>
              rw [Bool.and_eq_true] at h
              exact absurd ⟨by simpa using h.1, by simpa using h.2⟩ hj)
          have HX : Hid (wriF ek (out ++ writeK ⟨ek, en, ea, et⟩) ((L.map TokE.tk).drop (k + 1)) = wriF 0 [] (L.map TokE.tk)) := Lib.hid (by rw [← HWR.out, HDR.out]; exact (if_pos HMW.out).symm)
          have HWL : Hid ((writeK ⟨ek, en, ea, et⟩).length ≤ 230000000) := Lib.hid (writeK_len ⟨ek, en, ea, .slice Ae ne ce, et⟩ LE.out (fun h => may_32 HBT.out.symm h))
          have HOB : Hid (out.length ≤ 100000000000) := Lib.hid (by have h := HOL.out; have h1 := HK1.out; have h3 := HL.out; have h2 : 230000000 * k ≤ 230000000 * 400 := Nat.mul_le_mul_left _ (by omega); omega)
          by_cases h3 : ek = 3
          · subst h3
            have hl3 : ¬ last = 3 := fun e => hj ⟨rfl, e⟩
            have e1 : (last == 3) = false := by simpa using hl3
            have e2 : decide (last = 3) = false := decide_eq_false hl3
            have e3 : (last != 3) = true := by simpa using hl3
            clear hj hl3
            go_wp2_with (first
              | (go_at_call 24; have kw := writ_any (w0 := w) HBD5.out HGS5.out (Nat.le_refl _) HB5.out HOB.out LE.out HSA0.out HBT.out.symm HS.out; refine kw.mono ?_; rintro e w6 ⟨rfl, hb6, hw6, hg6, ho6⟩; have HBD6 := Lib.hid hb6; have HW6 := Lib.hid hw6; have HG6 := Lib.hid hg6; have x0 : w6.cell? ⟨wr.heap.size, 0, none⟩ = some (.int .i64 3) := (kept_other ho6 BX5.out HQG.out (by decide)).cell 0; clear kw hb6 hw6 hg6 ho6 y0 y1 y2 y3)
              | (go_at_call 23; refine KM.out.mono ?_; rintro e w5 ⟨rfl, hb5⟩; have bx5 := BX.out.below hb5 BX.out.lt; have y0 : w5.cell? ⟨wr.heap.size, 0, none⟩ = some (.int .i64 3) := bx5.cell 0; have y1 : w5.cell? ⟨wr.heap.size, 1, none⟩ = some (.string (str en)) := bx5.cell 1; have y2 : w5.cell? ⟨wr.heap.size, 2, none⟩ = some (.slice Ae ne ce) := bx5.cell 2; have y3 : w5.cell? ⟨wr.heap.size, 3, none⟩ = some (.string (str et)) := bx5.cell 3; have BX5 := Lib.hid bx5; have HB5 := Lib.hid (below_then HB1.out hb5); have HBD5 := Lib.hid (Bld.below HBD1.out hb5); have HGS5 : Hid (w.heap.size < w5.heap.size) := Lib.hid (Nat.lt_of_lt_of_le HGS1.out hb5.size); clear hb5 bx5))
            go_roundw
            case rel => exact ⟨k + 1, 3, out ++ writeK ⟨3, en, ea, et⟩, HK1.out, by go_num, rfl, HX.out, HBD6.out, HW6.out, HG6.out, by rw [List.length_append]; have := HOL.out; have := HWL.out; omega⟩
            case measure => have := HK1.out; simp [intOf]; omega
          · have e1 : (ek == 3) = false := by simpa using h3
            have e2 : decide (ek = 3) = false := decide_eq_false h3
            clear hj h3
            go_wp2_with (first
              | (go_at_call 24; have kw := writ_any (w0 := w) HBD5.out HGS5.out (Nat.le_refl _) HB5.out HOB.out LE.out HSA0.out HBT.out.symm HS.out; refine kw.mono ?_; rintro e w6 ⟨rfl, hb6, hw6, hg6, ho6⟩; have HBD6 := Lib.hid hb6; have HW6 := Lib.hid hw6; have HG6 := Lib.hid hg6; have x0 : w6.cell? ⟨wr.heap.size, 0, none⟩ = some (.int .i64 ek) := (kept_other ho6 BX5.out HQG.out (by decide)).cell 0; clear kw hb6 hw6 hg6 ho6 y0 y1 y2 y3)
              | (go_at_call 23; refine KM.out.mono ?_; rintro e w5 ⟨rfl, hb5⟩; have bx5 := BX.out.below hb5 BX.out.lt; have y0 : w5.cell? ⟨wr.heap.size, 0, none⟩ = some (.int .i64 ek) := bx5.cell 0; have y1 : w5.cell? ⟨wr.heap.size, 1, none⟩ = some (.string (str en)) := bx5.cell 1; have y2 : w5.cell? ⟨wr.heap.size, 2, none⟩ = some (.slice Ae ne ce) := bx5.cell 2; have y3 : w5.cell? ⟨wr.heap.size, 3, none⟩ = some (.string (str et)) := bx5.cell 3; have BX5 := Lib.hid bx5; have HB5 := Lib.hid (below_then HB1.out hb5); have HBD5 := Lib.hid (Bld.below HBD1.out hb5); have HGS5 : Hid (w.heap.size < w5.heap.size) := Lib.hid (Nat.lt_of_lt_of_le HGS1.out hb5.size); clear hb5 bx5))
            go_roundw
            case rel => exact ⟨k + 1, ek, out ++ writeK ⟨ek, en, ea, et⟩, HK1.out, by go_num, rfl, HX.out, HBD6.out, HW6.out, HG6.out, by rw [List.length_append]; have := HOL.out; have := HWL.out; omega⟩
            case measure => have := HK1.out; simp [intOf]; omega
    · have hkI : ¬ (k : Int) < (n : Int) := by omega
      have HX : Hid (wriF 0 [] (L.map TokE.tk) = (out, 0)) := Lib.hid (by rw [← HWR.out, List.drop_of_length_le (by rw [List.length_map]; have := HN.out; omega)]; rfl)
      go_wp2_with (go_at_call 25; go_must (refine (bld_end w.heap.size _ _ HBD.out (Nat.le_of_lt HGS.out)).mono ?_); rintro e w9 ⟨rfl, b9⟩; have B9 := Lib.hid (below_at HBW.out b9 (Nat.le_refl _) HGS.out); clear b9)
      go_ret2
      exact ⟨by rw [HX.out]; rfl, B9.out⟩
end Go.Proofs.YtelhdkidnhfnbaaDoor
