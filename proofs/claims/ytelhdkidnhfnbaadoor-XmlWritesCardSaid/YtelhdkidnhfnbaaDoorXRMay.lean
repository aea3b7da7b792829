/-
  The document's Attrs, may and May: which tokens may be written. Conditions: their cells lie in memory; at most 1000 attributes each; lengths are lengths.
-/
import Derived.Test.YtelhdkidnhfnbaaDoorXBack
namespace Go.Proofs.YtelhdkidnhfnbaaDoor
open Go.RowKit

theorem okN_split : ∀ (A H B : List (List UInt8)), okN H (A ++ B) = (okN H A && okN (H ++ A) B)
  | [], H, B => by rw [List.nil_append, List.append_nil]; rfl
  | a :: r, H, B => by
    rw [List.cons_append, okN, okN, okN_split r (H ++ [a]) B]
    simp only [Bool.and_assoc, List.append_assoc, List.singleton_append]
theorem okN_no {N : List (List UInt8)} {k : Nat} (h : okN [] (N.take k) = false) : okN [] N = false := by
  rw [← List.take_append_drop k N, okN_split, h, Bool.false_and]
theorem okN_next {N : List (List UInt8)} {k : Nat} (hk : k < N.length) : okN [] (N.take (k + 1)) = (okN [] (N.take k) && (nameX N[k] && !(N.take k).contains N[k])) := by
  rw [List.take_succ_eq_append_getElem hk, okN_app, List.nil_append]
def RAtRel (w : World) (L : AttrL) (u : Value) (W : World) : Prop := ∃ k : Nat, k ≤ L.length ∧ u = .int .i64 (k : Int) ∧ okN [] ((L.map (·.1)).take k) = true ∧ Below w.heap.size w W
def RAtIn (w : World) (L : AttrL) (k : Nat) (n : List UInt8) (u : Value) (W : World) : Prop := ∃ j : Nat, j ≤ k ∧ u = .int .i64 (j : Int) ∧ ((L.map (·.1)).take j).contains n = false ∧ Below w.heap.size w W
theorem contains_next {N : List (List UInt8)} {j : Nat} {n : List UInt8} (hj : j < N.length) (h : (N.take j).contains n = false) (hne : ¬ N[j] = n) : (N.take (j + 1)).contains n = false := take_contains hj h hne
theorem contains_yes {N : List (List UInt8)} {j k : Nat} {n : List UInt8} (hj : j < N.length) (hjk : j < k) (he : N[j] = n) : (N.take k).contains n = true := by
  rw [List.contains_eq_any_beq, List.any_eq_true]
  refine ⟨N[j], ?_, by rw [he]; simp⟩
  rw [List.mem_iff_getElem?]
  exact ⟨j, by rw [List.getElem?_take, if_pos hjk, List.getElem?_eq_getElem hj]⟩
set_option maxHeartbeats 12800000 in
set_option maxRecDepth 100000 in
theorem rattrs_any {w : World} {v : Value} {L : AttrL} (h : SrcA w v L) (hl : L.length ≤ 1000) (hn : ∀ a ∈ L, a.1.length ≤ maxLen) : Calls Tryd.prog 53 #[v] w (Made w (.bool (attrsOk L))) := by
  have HS := Lib.hid h
  obtain ⟨A, c, rfl, hA⟩ := h
  have HNL := Lib.hid hn
  obtain ⟨n, hnn⟩ : ∃ n, n = L.length := ⟨_, rfl⟩
  rw [← hnn] at HS ⊢
  have HN := Lib.hid hnn
  have hnI : (n : Int) ≤ 1000 := by omega
  clear hA hn hl hnn
  go_enter Tryd.func53, Tryd.ntmps53
  go_wp2_with fail
  go_loopw [3] (RAtRel w L) (fun u _ => L.length - (intOf u).toNat)
  case atStart => exact ⟨0, Nat.zero_le _, rfl, rfl, Below.refl _ _⟩
  case round =>
    obtain ⟨k, hk, rfl, hok, hb⟩ := hrel
    have HOK := Lib.hid hok
    have HB := Lib.hid hb
    clear hok hb
    by_cases hkn : k < n
    · have hkI : (k : Int) < (n : Int) := by omega
      have hkL : k < L.length := by have := HN.out; omega
      obtain ⟨A2, c2, hv, hA⟩ := HS.out.below HB.out
      injection hv with i1 i7 i3
      clear i7
      subst i1 i3
      obtain ⟨b, o, rfl, hlt, hc⟩ := hA (by omega)
      have z1 := (cells_drewN hc hkL).1
      have HLK := Lib.hid (HNL.out _ (List.getElem_mem hkL))
      have hkm : k < (L.map (·.1)).length := by rw [List.length_map]; exact hkL
      have HNX := Lib.hid (okN_next hkm)
      have HGK : Hid ((L.map (·.1))[k] = L[k].1) := Lib.hid (by rw [List.getElem_map])
      have HK1 : Hid (k + 1 ≤ L.length) := Lib.hid hkL
      generalize L[k] = x at *
      obtain ⟨nm, nv⟩ := x
      simp only at z1 HLK HGK
      rw [HGK.out] at HNX
      clear hA hc hlt hkL
      have kn := fun W => rnamex_any nm W HLK.out
      cases hx : nameX nm with
      | false =>
        rw [hx] at kn HNX
        have KN := Lib.hid kn
        have HX : Hid (attrsOk L = false) := Lib.hid (by unfold attrsOk; rw [okN_no (k := k + 1) (by rw [HNX.out]; simp), Bool.and_false])
        clear kn hx
        go_wp2_with (go_at_call 16; refine (KN.out _).mono ?_; rintro e w5 ⟨rfl, b5⟩; have B5 := Lib.hid (below_then HB.out b5); clear b5)
        go_ret
        exact ⟨by rw [HX.out]; rfl, B5.out⟩
      | true =>
        rw [hx] at kn HNX
        have KN := Lib.hid kn
        clear kn hx
        go_wp2_with (go_at_call 16; refine (KN.out _).mono ?_; rintro e w5 ⟨rfl, b5⟩; have B5 := Lib.hid (below_then HB.out b5); clear b5)
        go_loopw [4] (RAtIn w L k nm) (fun u _ => k - (intOf u).toNat)
        case atStart => exact ⟨0, Nat.zero_le _, rfl, rfl, B5.out⟩
        case round =>
          obtain ⟨j, hj, rfl, hco, hb⟩ := hrel
          have HCO := Lib.hid hco
          have HBJ := Lib.hid hb
          clear hco hb
          by_cases hjk : j < k
          · have hjI : (j : Int) < (k : Int) := by omega
            have hjL : j < L.length := by have := HK1.out; omega
            have hkL : k < L.length := HK1.out
            obtain ⟨A2, c2, hv, hA⟩ := HS.out.below HBJ.out
            injection hv with i1 i7 i3
            clear i7
            subst i3
            obtain ⟨b2, o2, i2, hlt, hc⟩ := hA (by omega)
            rw [i2] at i1
            injection i1 with i1
            injection i1 with i4 i5 _
            subst i4 i5
            have y1 := (cells_drewN hc hjL).1
            have y2 := (cells_drewN hc hkL).1
            have hjm : j < (L.map (·.1)).length := by rw [List.length_map]; exact hjL
            have HGJ : Hid ((L.map (·.1))[j] = L[j].1) := Lib.hid (by rw [List.getElem_map])
            have hgk : L[k].1 = nm := by rw [← HGK.out, List.getElem_map]
            generalize L[k] = xk at *
            rw [hgk] at y2
            have HNO : Hid (¬ L[j].1 = nm → ((L.map (·.1)).take (j + 1)).contains nm = false) := Lib.hid fun h => contains_next hjm HCO.out (by rw [HGJ.out]; exact h)
            have HYE : Hid (L[j].1 = nm → attrsOk L = false) := Lib.hid fun h => by
              unfold attrsOk
              rw [okN_no (k := k + 1) (by rw [HNX.out, contains_yes hjm hjk (by rw [HGJ.out]; exact h)]; simp), Bool.and_false]
            have hIK : (k : Int) < (n : Int) := by have := HN.out; omega
            generalize L[j] = xj at *
            obtain ⟨mj, mv⟩ := xj
            simp only at y1 HNO HYE
            clear hA hc hlt hjm HGJ hgk hkL hjL i2
            by_cases he : mj = nm
            · subst he
              have HX := Lib.hid (HYE.out rfl)
              go_wp2_with fail
              go_quiet (fail)
              go_wp2_with fail
              go_ret
              exact ⟨by rw [HX.out]; rfl, below_drewN HBJ.out _⟩
            · have e1 : (mj == nm) = false := by simpa using he
              have HX := Lib.hid (HNO.out he)
              clear he
              go_wp2_with fail
              go_quiet (fail)
              go_wp2_with fail
              go_roundw
              case rel => exact ⟨j + 1, hjk, by go_num, HX.out, below_drewN HBJ.out _⟩
              case measure => simp [intOf]; omega
          · have hjI : ¬ (j : Int) < (k : Int) := by omega
            have HX : Hid (okN [] ((L.map (·.1)).take (k + 1)) = true) := Lib.hid (by
              have h1 : j = k := by omega
              subst h1
              rw [HNX.out, HOK.out, HCO.out]
              rfl)
            go_wp2_with fail
            go_roundw
            case rel => exact ⟨k + 1, HK1.out, by go_num, HX.out, HBJ.out⟩
            case measure => have := HK1.out; simp [intOf]; omega
    · have hkI : ¬ (k : Int) < (n : Int) := by omega
      have HX : Hid (attrsOk L = decide ((n : Int) ≤ 32)) := Lib.hid (by
        have h := HOK.out
        rw [List.take_of_length_le (by rw [List.length_map]; have := HN.out; omega)] at h
        unfold attrsOk
        rw [h, Bool.and_true, ← HN.out]
        exact decide_eq_decide.2 (by omega))
      go_wp2_with fail
      go_ret
      exact ⟨by rw [HX.out]; first | rfl | simp, HB.out⟩
set_option maxHeartbeats 3200000 in
set_option maxRecDepth 100000 in
theorem rmay1_no {w : World} {was : Int} {name : List UInt8} {text : List UInt8} {A : Option Addr} {N c : Nat} (hnm : name.length ≤ maxLen) (hn : nameX name = false) :
    Calls Tryd.prog 26 #[.agg #[.int .i64 1, .string (str name), .slice A N c, .string (str text)], .int .i64 was] w (Made w (.bool false)) := by
  have HB0 : Hid (Below w.heap.size w (w.alloc (.cells #[.int .i64 1, .string (str name), .slice A N c, .string (str text)] 36))) := Lib.hid ((Below.refl _ _).alloc (Nat.le_refl _) _)
  have BX : Hid (Blk (w.alloc (.cells #[.int .i64 1, .string (str name), .slice A N c, .string (str text)] 36)) w.heap.size 36 #[.int .i64 1, .string (str name), .slice A N c, .string (str text)]) := Lib.hid (Blk.fresh _ _ _)
  have KN : Hid (∀ W, Calls Tryd.prog 16 #[.string (str name)] W (Made W (.bool false))) := Lib.hid fun W => by have h := rnamex_any name W hnm; rw [hn] at h; exact h
  clear hn hnm
  go_enter Tryd.func26, Tryd.ntmps26
  go_wp2_with (go_at_call 16; refine (KN.out _).mono ?_; rintro e w2 ⟨rfl, hb2⟩; have z2 : w2.cell? ⟨w.heap.size, 2, none⟩ = some (.slice A N c) := (hb2.cell (p := ⟨w.heap.size, 2, none⟩) BX.out.lt).trans (BX.out.cell 2); have z3 : w2.cell? ⟨w.heap.size, 3, none⟩ = some (.string (str text)) := (hb2.cell (p := ⟨w.heap.size, 3, none⟩) BX.out.lt).trans (BX.out.cell 3); have HB2 := Lib.hid (below_then HB0.out hb2); clear hb2)
  go_ret
  exact ⟨rfl, HB2.out⟩
set_option maxHeartbeats 3200000 in
set_option maxRecDepth 100000 in
theorem rmay1_text {w : World} {was : Int} {name : List UInt8} {text : List UInt8} {A : Option Addr} {N c : Nat} (hnm : name.length ≤ maxLen) (hn : nameX name = true) (e1 : (text == ([] : List UInt8)) = false) (_e2 : (([] : List UInt8) == text) = false) :
    Calls Tryd.prog 26 #[.agg #[.int .i64 1, .string (str name), .slice A N c, .string (str text)], .int .i64 was] w (Made w (.bool false)) := by
  have HB0 : Hid (Below w.heap.size w (w.alloc (.cells #[.int .i64 1, .string (str name), .slice A N c, .string (str text)] 36))) := Lib.hid ((Below.refl _ _).alloc (Nat.le_refl _) _)
  have BX : Hid (Blk (w.alloc (.cells #[.int .i64 1, .string (str name), .slice A N c, .string (str text)] 36)) w.heap.size 36 #[.int .i64 1, .string (str name), .slice A N c, .string (str text)]) := Lib.hid (Blk.fresh _ _ _)
  have KN : Hid (∀ W, Calls Tryd.prog 16 #[.string (str name)] W (Made W (.bool true))) := Lib.hid fun W => by have h := rnamex_any name W hnm; rw [hn] at h; exact h
  clear hn hnm
  go_enter Tryd.func26, Tryd.ntmps26
  go_wp2_with (go_at_call 16; refine (KN.out _).mono ?_; rintro e w2 ⟨rfl, hb2⟩; have z2 : w2.cell? ⟨w.heap.size, 2, none⟩ = some (.slice A N c) := (hb2.cell (p := ⟨w.heap.size, 2, none⟩) BX.out.lt).trans (BX.out.cell 2); have z3 : w2.cell? ⟨w.heap.size, 3, none⟩ = some (.string (str text)) := (hb2.cell (p := ⟨w.heap.size, 3, none⟩) BX.out.lt).trans (BX.out.cell 3); have HB2 := Lib.hid (below_then HB0.out hb2); clear hb2)
  go_ret
  exact ⟨rfl, HB2.out⟩
set_option maxHeartbeats 3200000 in
set_option maxRecDepth 100000 in
theorem rmay2_no {w : World} {was : Int} {name : List UInt8} {text : List UInt8} {A : Option Addr} {N c : Nat} (hnm : name.length ≤ maxLen) (hn : nameX name = false) :
    Calls Tryd.prog 26 #[.agg #[.int .i64 2, .string (str name), .slice A N c, .string (str text)], .int .i64 was] w (Made w (.bool false)) := by
  have HB0 : Hid (Below w.heap.size w (w.alloc (.cells #[.int .i64 2, .string (str name), .slice A N c, .string (str text)] 36))) := Lib.hid ((Below.refl _ _).alloc (Nat.le_refl _) _)
  have BX : Hid (Blk (w.alloc (.cells #[.int .i64 2, .string (str name), .slice A N c, .string (str text)] 36)) w.heap.size 36 #[.int .i64 2, .string (str name), .slice A N c, .string (str text)]) := Lib.hid (Blk.fresh _ _ _)
  have KN : Hid (∀ W, Calls Tryd.prog 16 #[.string (str name)] W (Made W (.bool false))) := Lib.hid fun W => by have h := rnamex_any name W hnm; rw [hn] at h; exact h
  clear hn hnm
  go_enter Tryd.func26, Tryd.ntmps26
  go_wp2_with (go_at_call 16; refine (KN.out _).mono ?_; rintro e w2 ⟨rfl, hb2⟩; have z2 : w2.cell? ⟨w.heap.size, 2, none⟩ = some (.slice A N c) := (hb2.cell (p := ⟨w.heap.size, 2, none⟩) BX.out.lt).trans (BX.out.cell 2); have z3 : w2.cell? ⟨w.heap.size, 3, none⟩ = some (.string (str text)) := (hb2.cell (p := ⟨w.heap.size, 3, none⟩) BX.out.lt).trans (BX.out.cell 3); have HB2 := Lib.hid (below_then HB0.out hb2); clear hb2)
  go_ret
  exact ⟨rfl, HB2.out⟩
set_option maxHeartbeats 3200000 in
set_option maxRecDepth 100000 in
theorem rmay2_text {w : World} {was : Int} {name : List UInt8} {text : List UInt8} {A : Option Addr} {N c : Nat} (hnm : name.length ≤ maxLen) (hn : nameX name = true) (e1 : (text == ([] : List UInt8)) = false) (_e2 : (([] : List UInt8) == text) = false) :
    Calls Tryd.prog 26 #[.agg #[.int .i64 2, .string (str name), .slice A N c, .string (str text)], .int .i64 was] w (Made w (.bool false)) := by
  have HB0 : Hid (Below w.heap.size w (w.alloc (.cells #[.int .i64 2, .string (str name), .slice A N c, .string (str text)] 36))) := Lib.hid ((Below.refl _ _).alloc (Nat.le_refl _) _)
  have BX : Hid (Blk (w.alloc (.cells #[.int .i64 2, .string (str name), .slice A N c, .string (str text)] 36)) w.heap.size 36 #[.int .i64 2, .string (str name), .slice A N c, .string (str text)]) := Lib.hid (Blk.fresh _ _ _)
  have KN : Hid (∀ W, Calls Tryd.prog 16 #[.string (str name)] W (Made W (.bool true))) := Lib.hid fun W => by have h := rnamex_any name W hnm; rw [hn] at h; exact h
  clear hn hnm
  go_enter Tryd.func26, Tryd.ntmps26
  go_wp2_with (go_at_call 16; refine (KN.out _).mono ?_; rintro e w2 ⟨rfl, hb2⟩; have z2 : w2.cell? ⟨w.heap.size, 2, none⟩ = some (.slice A N c) := (hb2.cell (p := ⟨w.heap.size, 2, none⟩) BX.out.lt).trans (BX.out.cell 2); have z3 : w2.cell? ⟨w.heap.size, 3, none⟩ = some (.string (str text)) := (hb2.cell (p := ⟨w.heap.size, 3, none⟩) BX.out.lt).trans (BX.out.cell 3); have HB2 := Lib.hid (below_then HB0.out hb2); clear hb2)
  go_ret
  exact ⟨rfl, HB2.out⟩
set_option maxHeartbeats 3200000 in
set_option maxRecDepth 100000 in
theorem rmay1_yes {w : World} {was : Int} {name : List UInt8}  {v : Value} {L : AttrL} (hnm : name.length ≤ maxLen) (hn : nameX name = true) (hs : SrcA w v L) (hl : L.length ≤ 1000) (hln : ∀ a ∈ L, a.1.length ≤ maxLen) :
    Calls Tryd.prog 26 #[.agg #[.int .i64 1, .string (str name), v, .string (str [])], .int .i64 was] w (Made w (.bool (attrsOk L))) := by
  have HB0 : Hid (Below w.heap.size w (w.alloc (.cells #[.int .i64 1, .string (str name), v, .string (str [])] 36))) := Lib.hid ((Below.refl _ _).alloc (Nat.le_refl _) _)
  have BX : Hid (Blk (w.alloc (.cells #[.int .i64 1, .string (str name), v, .string (str [])] 36)) w.heap.size 36 #[.int .i64 1, .string (str name), v, .string (str [])]) := Lib.hid (Blk.fresh _ _ _)
  have KN : Hid (∀ W, Calls Tryd.prog 16 #[.string (str name)] W (Made W (.bool true))) := Lib.hid fun W => by have h := rnamex_any name W hnm; rw [hn] at h; exact h
  clear hn hnm
  have KA : Hid (∀ W, Below w.heap.size w W → Calls Tryd.prog 53 #[v] W (Made W (.bool (attrsOk L)))) := Lib.hid fun W hW => rattrs_any (hs.below hW) hl hln
  clear hs hl hln
  go_enter Tryd.func26, Tryd.ntmps26
  go_wp2_with (first | (go_at_call 53; refine (KA.out _ HB2.out).mono ?_; rintro e w3 ⟨rfl, hb3⟩; have HB3 := Lib.hid (below_then HB2.out hb3); clear hb3) | (go_at_call 16; refine (KN.out _).mono ?_; rintro e w2 ⟨rfl, hb2⟩; have z2 : w2.cell? ⟨w.heap.size, 2, none⟩ = some (v) := (hb2.cell (p := ⟨w.heap.size, 2, none⟩) BX.out.lt).trans (BX.out.cell 2); have z3 : w2.cell? ⟨w.heap.size, 3, none⟩ = some (.string (str [])) := (hb2.cell (p := ⟨w.heap.size, 3, none⟩) BX.out.lt).trans (BX.out.cell 3); have HB2 := Lib.hid (below_then HB0.out hb2); clear hb2))
  go_ret
  exact ⟨rfl, HB3.out⟩
set_option maxHeartbeats 3200000 in
set_option maxRecDepth 100000 in
theorem rmay2_len {w : World} {was : Int} {name : List UInt8}  {A : Option Addr} {N c : Nat} (hnm : name.length ≤ maxLen) (hn : nameX name = true) (hN : 0 < N) :
    Calls Tryd.prog 26 #[.agg #[.int .i64 2, .string (str name), .slice A N c, .string (str [])], .int .i64 was] w (Made w (.bool false)) := by
  have HB0 : Hid (Below w.heap.size w (w.alloc (.cells #[.int .i64 2, .string (str name), .slice A N c, .string (str [])] 36))) := Lib.hid ((Below.refl _ _).alloc (Nat.le_refl _) _)
  have BX : Hid (Blk (w.alloc (.cells #[.int .i64 2, .string (str name), .slice A N c, .string (str [])] 36)) w.heap.size 36 #[.int .i64 2, .string (str name), .slice A N c, .string (str [])]) := Lib.hid (Blk.fresh _ _ _)
  have KN : Hid (∀ W, Calls Tryd.prog 16 #[.string (str name)] W (Made W (.bool true))) := Lib.hid fun W => by have h := rnamex_any name W hnm; rw [hn] at h; exact h
  clear hn hnm
  have hN0 : ¬ N = 0 := by omega
  have hNb : ((N : Int) == 0) = false := by simpa using hN0
  have hNc : (N == 0) = false := by simpa using hN0
  have hNd : decide (N = 0) = false := decide_eq_false hN0
  clear hN hN0
  go_enter Tryd.func26, Tryd.ntmps26
  go_wp2_with (go_at_call 16; refine (KN.out _).mono ?_; rintro e w2 ⟨rfl, hb2⟩; have z2 : w2.cell? ⟨w.heap.size, 2, none⟩ = some (.slice A N c) := (hb2.cell (p := ⟨w.heap.size, 2, none⟩) BX.out.lt).trans (BX.out.cell 2); have z3 : w2.cell? ⟨w.heap.size, 3, none⟩ = some (.string (str [])) := (hb2.cell (p := ⟨w.heap.size, 3, none⟩) BX.out.lt).trans (BX.out.cell 3); have HB2 := Lib.hid (below_then HB0.out hb2); clear hb2)
  go_ret
  exact ⟨rfl, HB2.out⟩
set_option maxHeartbeats 3200000 in
set_option maxRecDepth 100000 in
theorem rmay2_yes {w : World} {was : Int} {name : List UInt8}  {A : Option Addr} {N c : Nat} (hnm : name.length ≤ maxLen) (hn : nameX name = true) (hN : N = 0) :
    Calls Tryd.prog 26 #[.agg #[.int .i64 2, .string (str name), .slice A N c, .string (str [])], .int .i64 was] w (Made w (.bool true)) := by
  have tok : True := trivial
  have HB0 : Hid (Below w.heap.size w (w.alloc (.cells #[.int .i64 2, .string (str name), .slice A N c, .string (str [])] 36))) := Lib.hid ((Below.refl _ _).alloc (Nat.le_refl _) _)
  have BX : Hid (Blk (w.alloc (.cells #[.int .i64 2, .string (str name), .slice A N c, .string (str [])] 36)) w.heap.size 36 #[.int .i64 2, .string (str name), .slice A N c, .string (str [])]) := Lib.hid (Blk.fresh _ _ _)
  subst hN
  have KN : Hid (∀ W, Calls Tryd.prog 16 #[.string (str name)] W (Made W (.bool true))) := Lib.hid fun W => by have h := rnamex_any name W hnm; rw [hn] at h; exact h
  clear hn hnm
  go_enter Tryd.func26, Tryd.ntmps26
  go_wp2_with (go_at_call 16; refine (KN.out _).mono ?_; rintro e w2 ⟨rfl, hb2⟩; have z2 : w2.cell? ⟨w.heap.size, 2, none⟩ = some (.slice A 0 c) := (hb2.cell (p := ⟨w.heap.size, 2, none⟩) BX.out.lt).trans (BX.out.cell 2); have z3 : w2.cell? ⟨w.heap.size, 3, none⟩ = some (.string (str [])) := (hb2.cell (p := ⟨w.heap.size, 3, none⟩) BX.out.lt).trans (BX.out.cell 3); have HB2 := Lib.hid (below_then HB0.out hb2); clear hb2)
  go_ret
  exact ⟨rfl, HB2.out⟩
set_option maxHeartbeats 3200000 in
set_option maxRecDepth 100000 in
theorem rmay3_name {w : World} {was : Int} {name : List UInt8} {text : List UInt8} {A : Option Addr} {N c : Nat} (e1 : (name == ([] : List UInt8)) = false) (_e2 : (([] : List UInt8) == name) = false) :
    Calls Tryd.prog 26 #[.agg #[.int .i64 3, .string (str name), .slice A N c, .string (str text)], .int .i64 was] w (Made w (.bool false)) := by
  have HB0 : Hid (Below w.heap.size w (w.alloc (.cells #[.int .i64 3, .string (str name), .slice A N c, .string (str text)] 36))) := Lib.hid ((Below.refl _ _).alloc (Nat.le_refl _) _)
  have BX : Hid (Blk (w.alloc (.cells #[.int .i64 3, .string (str name), .slice A N c, .string (str text)] 36)) w.heap.size 36 #[.int .i64 3, .string (str name), .slice A N c, .string (str text)]) := Lib.hid (Blk.fresh _ _ _)
  go_enter Tryd.func26, Tryd.ntmps26
  go_wp2_with fail
  go_ret
  exact ⟨rfl, HB0.out⟩
set_option maxHeartbeats 3200000 in
set_option maxRecDepth 100000 in
theorem rmay3_text {w : World} {was : Int}  {A : Option Addr} {N c : Nat} :
    Calls Tryd.prog 26 #[.agg #[.int .i64 3, .string (str []), .slice A N c, .string (str [])], .int .i64 was] w (Made w (.bool false)) := by
  have HB0 : Hid (Below w.heap.size w (w.alloc (.cells #[.int .i64 3, .string (str []), .slice A N c, .string (str [])] 36))) := Lib.hid ((Below.refl _ _).alloc (Nat.le_refl _) _)
  have BX : Hid (Blk (w.alloc (.cells #[.int .i64 3, .string (str []), .slice A N c, .string (str [])] 36)) w.heap.size 36 #[.int .i64 3, .string (str []), .slice A N c, .string (str [])]) := Lib.hid (Blk.fresh _ _ _)
  go_enter Tryd.func26, Tryd.ntmps26
  go_wp2_with fail
  go_ret
  exact ⟨rfl, HB0.out⟩
set_option maxHeartbeats 3200000 in
set_option maxRecDepth 100000 in
theorem rmay3_len {w : World} {was : Int} {text : List UInt8} {A : Option Addr} {N c : Nat} (e1 : (text == ([] : List UInt8)) = false) (_e2 : (([] : List UInt8) == text) = false) (hN : 0 < N) :
    Calls Tryd.prog 26 #[.agg #[.int .i64 3, .string (str []), .slice A N c, .string (str text)], .int .i64 was] w (Made w (.bool false)) := by
  have HB0 : Hid (Below w.heap.size w (w.alloc (.cells #[.int .i64 3, .string (str []), .slice A N c, .string (str text)] 36))) := Lib.hid ((Below.refl _ _).alloc (Nat.le_refl _) _)
  have BX : Hid (Blk (w.alloc (.cells #[.int .i64 3, .string (str []), .slice A N c, .string (str text)] 36)) w.heap.size 36 #[.int .i64 3, .string (str []), .slice A N c, .string (str text)]) := Lib.hid (Blk.fresh _ _ _)
  have hN0 : ¬ N = 0 := by omega
  have hNb : ((N : Int) == 0) = false := by simpa using hN0
  have hNc : (N == 0) = false := by simpa using hN0
  have hNd : decide (N = 0) = false := decide_eq_false hN0
  clear hN hN0
  go_enter Tryd.func26, Tryd.ntmps26
  go_wp2_with fail
  go_ret
  exact ⟨rfl, HB0.out⟩
set_option maxHeartbeats 3200000 in
set_option maxRecDepth 100000 in
theorem rmay3_was {w : World} {text : List UInt8} {A : Option Addr} {N c : Nat} (e1 : (text == ([] : List UInt8)) = false) (_e2 : (([] : List UInt8) == text) = false) (hN : N = 0) :
    Calls Tryd.prog 26 #[.agg #[.int .i64 3, .string (str []), .slice A N c, .string (str text)], .int .i64 3] w (Made w (.bool false)) := by
  have HB0 : Hid (Below w.heap.size w (w.alloc (.cells #[.int .i64 3, .string (str []), .slice A N c, .string (str text)] 36))) := Lib.hid ((Below.refl _ _).alloc (Nat.le_refl _) _)
  have BX : Hid (Blk (w.alloc (.cells #[.int .i64 3, .string (str []), .slice A N c, .string (str text)] 36)) w.heap.size 36 #[.int .i64 3, .string (str []), .slice A N c, .string (str text)]) := Lib.hid (Blk.fresh _ _ _)
  subst hN
  go_enter Tryd.func26, Tryd.ntmps26
  go_wp2_with fail
  go_ret
  exact ⟨rfl, HB0.out⟩
set_option maxHeartbeats 3200000 in
set_option maxRecDepth 100000 in
theorem rmay3_yes {w : World} {was : Int} {text : List UInt8} {A : Option Addr} {N c : Nat} (e1 : (text == ([] : List UInt8)) = false) (_e2 : (([] : List UInt8) == text) = false) (hN : N = 0) (_w1 : (was == 3) = false) (w2 : (was != 3) = true) (_w3 : decide (was = 3) = false) :
    Calls Tryd.prog 26 #[.agg #[.int .i64 3, .string (str []), .slice A N c, .string (str text)], .int .i64 was] w (Made w (.bool true)) := by
  have HB0 : Hid (Below w.heap.size w (w.alloc (.cells #[.int .i64 3, .string (str []), .slice A N c, .string (str text)] 36))) := Lib.hid ((Below.refl _ _).alloc (Nat.le_refl _) _)
  have BX : Hid (Blk (w.alloc (.cells #[.int .i64 3, .string (str []), .slice A N c, .string (str text)] 36)) w.heap.size 36 #[.int .i64 3, .string (str []), .slice A N c, .string (str text)]) := Lib.hid (Blk.fresh _ _ _)
  subst hN
  go_enter Tryd.func26, Tryd.ntmps26
  go_wp2_with fail
  go_ret
  exact ⟨rfl, HB0.out⟩
set_option maxHeartbeats 3200000 in
set_option maxRecDepth 100000 in
theorem rmay0 {w : World} {was : Int} {name : List UInt8} {text : List UInt8} {A : Option Addr} {N c : Nat} {k : Int} (k1 : (k == 1) = false) (k2 : (k == 2) = false) (k3 : (k == 3) = false) (_d1 : decide (k = 1) = false) (_d2 : decide (k = 2) = false) (_d3 : decide (k = 3) = false) :
    Calls Tryd.prog 26 #[.agg #[.int .i64 k, .string (str name), .slice A N c, .string (str text)], .int .i64 was] w (Made w (.bool false)) := by
  have HB0 : Hid (Below w.heap.size w (w.alloc (.cells #[.int .i64 k, .string (str name), .slice A N c, .string (str text)] 36))) := Lib.hid ((Below.refl _ _).alloc (Nat.le_refl _) _)
  have BX : Hid (Blk (w.alloc (.cells #[.int .i64 k, .string (str name), .slice A N c, .string (str text)] 36)) w.heap.size 36 #[.int .i64 k, .string (str name), .slice A N c, .string (str text)]) := Lib.hid (Blk.fresh _ _ _)
  go_enter Tryd.func26, Tryd.ntmps26
  go_wp2_with fail
  go_ret
  exact ⟨rfl, HB0.out⟩
theorem beq_nil {l : List UInt8} (h : ¬ l = []) : (l == ([] : List UInt8)) = false ∧ (([] : List UInt8) == l) = false := by
  cases l with
  | nil => exact absurd rfl h
  | cons a b => exact ⟨rfl, rfl⟩
theorem rmay_any {w : World} {k was : Int} {name text : List UInt8} {v : Value} {L : AttrL} (hs : SrcA w v L) (hl : L.length ≤ 1000) (hn : ∀ a ∈ L, a.1.length ≤ maxLen) (hnm : name.length ≤ maxLen) :
    Calls Tryd.prog 26 #[.agg #[.int .i64 k, .string (str name), v, .string (str text)], .int .i64 was] w (Made w (.bool (mayW was ⟨k, name, L, text⟩))) := by
  have hs0 := hs
  obtain ⟨A, c, hv, _⟩ := hs
  unfold mayW mayTok
  by_cases h1 : k = 1
  · subst h1
    rw [if_pos rfl, show ((1 : Int) == 3 && was == 3) = false from rfl, Bool.not_false, Bool.and_true]
    cases hx : nameX name with
    | false => rw [Bool.false_and, Bool.false_and, hv]; exact rmay1_no hnm hx
    | true =>
      by_cases ht : text = []
      · subst ht
        rw [Bool.true_and, show List.isEmpty ([] : List UInt8) = true from rfl, Bool.and_true]
        exact rmay1_yes hnm hx hs0 hl hn
      · rw [show text.isEmpty = false by simpa using ht, Bool.and_false, hv]
        exact rmay1_text hnm hx (beq_nil ht).1 (beq_nil ht).2
  · rw [if_neg h1]
    by_cases h2 : k = 2
    · subst h2
      rw [if_pos rfl, show ((2 : Int) == 3 && was == 3) = false from rfl, Bool.not_false, Bool.and_true, hv]
      cases hx : nameX name with
      | false => rw [Bool.false_and, Bool.false_and]; exact rmay2_no hnm hx
      | true =>
        by_cases ht : text = []
        · subst ht
          rw [Bool.true_and, show List.isEmpty ([] : List UInt8) = true from rfl, Bool.and_true]
          cases L with
          | nil => exact rmay2_yes hnm hx rfl
          | cons a r => exact rmay2_len hnm hx (by simp)
        · rw [show text.isEmpty = false by simpa using ht, Bool.and_false]
          exact rmay2_text hnm hx (beq_nil ht).1 (beq_nil ht).2
    · rw [if_neg h2]
      by_cases h3 : k = 3
      · subst h3
        rw [if_pos rfl, hv]
        by_cases hne : name = []
        · subst hne
          rw [show List.isEmpty ([] : List UInt8) = true from rfl, Bool.true_and]
          by_cases ht : text = []
          · subst ht
            rw [show List.isEmpty ([] : List UInt8) = true from rfl, Bool.not_true, Bool.and_false, Bool.false_and]
            exact rmay3_text
          · rw [show text.isEmpty = false by simpa using ht, Bool.not_false, Bool.and_true]
            cases L with
            | nil =>
              by_cases hw : was = 3
              · subst hw
                exact rmay3_was (beq_nil ht).1 (beq_nil ht).2 rfl
              · have e : (was == 3) = false := by simpa using hw
                rw [e]
                exact rmay3_yes (beq_nil ht).1 (beq_nil ht).2 rfl e (by simpa using hw) (decide_eq_false hw)
            | cons a r =>
              rw [show List.isEmpty (a :: r) = false from rfl, Bool.false_and]
              exact rmay3_len (beq_nil ht).1 (beq_nil ht).2 (by simp)
        · rw [show name.isEmpty = false by simpa using hne, Bool.false_and, Bool.false_and, Bool.false_and]
          exact rmay3_name (beq_nil hne).1 (beq_nil hne).2
      · rw [if_neg h3, Bool.false_and, hv]
        exact rmay0 (by simpa using h1) (by simpa using h2) (by simpa using h3) (decide_eq_false h1) (decide_eq_false h2) (decide_eq_false h3)
def MayAllRel (w : World) (T : List Tk) (u3 u4 : Value) (W : World) : Prop := ∃ (k : Nat) (was : Int), k ≤ T.length ∧ u4 = .int .i64 (k : Int) ∧ u3 = .int .i64 was ∧ mayA was (T.drop k) = mayA 0 T ∧ Below w.heap.size w W
def OkN (e : TokE) : Prop := e.attrs.length ≤ 1000 ∧ e.name.length ≤ maxLen ∧ ∀ a ∈ e.attrs, a.1.length ≤ maxLen
set_option maxHeartbeats 12800000 in
set_option maxRecDepth 100000 in
theorem rmayall_any {w : World} {v : Value} {G : List TokE} (h : SrcT w v G) (hl : G.length ≤ 1000000) (hk : ∀ e ∈ G, OkN e) : Calls Tryd.prog 13 #[v] w (Made w (.bool (mayA 0 (G.map TokE.tk)))) := by
  have HT := Lib.hid h
  have HKO := Lib.hid hk
  obtain ⟨⟨A, c, rfl, _⟩, _⟩ := h
  obtain ⟨n, hn⟩ : ∃ n, n = G.length := ⟨_, rfl⟩
  rw [← hn] at HT ⊢
  have HN := Lib.hid hn
  have hnI : (n : Int) ≤ 1000000 := by omega
  clear hl hn hk
  go_enter Tryd.func13, Tryd.ntmps13
  go_wp2_with fail
  go_loopw [3, 4] (MayAllRel w (G.map TokE.tk)) (fun _ u _ => G.length - (intOf u).toNat)
  case atStart => exact ⟨0, 0, Nat.zero_le _, rfl, rfl, rfl, Below.refl _ _⟩
  case round =>
    obtain ⟨k, was, hk, rfl, rfl, hm, hb⟩ := hrel
    have HMA := Lib.hid hm
    have HB := Lib.hid hb
    rw [List.length_map] at hk
    clear hm hb
    by_cases hkn : k < n
    · have hkI : (k : Int) < (n : Int) := by omega
      have hkG : k < G.length := by have := HN.out; omega
      obtain ⟨⟨A2, c2, hv, hA⟩, hs⟩ := HT.out.below HB.out
      injection hv with i1 i7 i3
      clear i7
      subst i1 i3
      obtain ⟨b, o, rfl, hlt, hc⟩ := hA (by omega)
      obtain ⟨z0, z1, z2, z3⟩ := tcells_src hc hkG
      have SA := hs _ (List.getElem_mem hkG)
      have OK := HKO.out _ (List.getElem_mem hkG)
      have HK1 : Hid (k + 1 ≤ G.length) := Lib.hid hkG
      have HNX : Hid (mayA was ((G.map TokE.tk).drop k) = (mayW was G[k].tk && mayA G[k].tk.kind ((G.map TokE.tk).drop (k + 1)))) := Lib.hid (by
        rw [List.drop_eq_getElem_cons (by rw [List.length_map]; exact hkG), mayA, List.getElem_map]; rfl)
      generalize G[k] = x at *
      obtain ⟨xk, xn, xa, xv, xt⟩ := x
      simp only at z0 z1 z2 z3 SA OK
      have km := rmay_any (k := xk) (was := was) (name := xn) (text := xt) SA OK.1 OK.2.2 OK.2.1
      obtain ⟨A3, c3, hv3, _⟩ := SA
      subst hv3
      have Z0 : Hid (∀ W, Below wr.heap.size wr W → W.cell? ⟨b, o + k * 4, none⟩ = some (.int .i64 xk)) := Lib.hid fun W hW => (hW.cell (p := ⟨b, o + k * 4, none⟩) hlt).trans z0
      clear hA hc hlt hkG OK hs
      have HTK : Hid ((TokE.tk ⟨xk, xn, xa, .slice A3 xa.length c3, xt⟩) = ⟨xk, xn, xa, xt⟩) := Lib.hid rfl
      rw [HTK.out] at HNX
      cases hx : mayW was ⟨xk, xn, xa, xt⟩ with
      | false =>
        rw [hx] at km HNX
        have KM := Lib.hid km
        have HX : Hid (mayA 0 (G.map TokE.tk) = false) := Lib.hid (by rw [← HMA.out, HNX.out, Bool.false_and])
        clear km hx
        go_wp2_with (go_at_call 26; refine KM.out.mono ?_; rintro e w5 ⟨rfl, b5⟩; have B5 := Lib.hid (below_then HB.out b5); clear b5)
        go_ret
        exact ⟨by rw [HX.out]; rfl, B5.out⟩
      | true =>
        rw [hx, Bool.true_and] at HNX
        rw [hx] at km
        have KM := Lib.hid km
        clear km hx
        go_wp2_with (go_at_call 26; refine KM.out.mono ?_; rintro e w5 ⟨rfl, b5⟩; have q0 := Z0.out w5 b5; have B5 := Lib.hid (below_then HB.out b5); clear b5)
        go_roundw
        case rel => exact ⟨k + 1, xk, by rw [List.length_map]; exact HK1.out, by go_num, rfl, by rw [← HMA.out, HNX.out], B5.out⟩
        case measure => have := HK1.out; simp [intOf]; omega
    · have hkI : ¬ (k : Int) < (n : Int) := by omega
      have HX : Hid (mayA 0 (G.map TokE.tk) = true) := Lib.hid (by
        rw [← HMA.out, List.drop_of_length_le (by rw [List.length_map]; have := HN.out; omega)]
        rfl)
      go_wp2_with fail
      go_ret
      exact ⟨by rw [HX.out]; rfl, HB.out⟩
end Go.Proofs.YtelhdkidnhfnbaaDoor
