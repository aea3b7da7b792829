/-
  Whether a token may be. Condition: its attributes' cells lie in memory.
-/
import Derived.Test.YtanefcpjbgfgbaaDoorMgU
namespace Go.Proofs.YtanefcpjbgfgbaaDoor
open Go.RowKit

def mayTok (k : Int) (name : List UInt8) (L : List (List UInt8 × List UInt8)) (text : List UInt8) : Bool :=
  if k = 1 then (nameX name && attrsOk L) && text.isEmpty else if k = 2 then (nameX name && L.isEmpty) && text.isEmpty else if k = 3 then (name.isEmpty && L.isEmpty) && !text.isEmpty else false
theorem SrcA.below {w w' : World} {v : Value} {L : List (List UInt8 × List UInt8)} (h : SrcA w v L) (hb : Below w.heap.size w w') : SrcA w' v L := by
  obtain ⟨A, c, hv, hA⟩ := h
  refine ⟨A, c, hv, fun hp => ?_⟩
  obtain ⟨b, o, hA1, hlt, hc⟩ := hA hp
  exact ⟨b, o, hA1, Nat.lt_of_lt_of_le hlt hb.size, fun j u hu => (hb.cell (p := ⟨b, o + j, none⟩) hlt).trans (hc j u hu)⟩
set_option maxHeartbeats 3200000 in
set_option maxRecDepth 100000 in
theorem may2_no {w : World} {name text : List UInt8} {A : Option Addr} {N c : Nat} (hn : nameX name = false) :
    Calls Tryd.prog 23 #[.agg #[.int .i64 2, .string (str name), .slice A N c, .string (str text)]] w (Made w (.bool false)) := by
  have HB0 : Hid (Below w.heap.size w (w.alloc (.cells #[.int .i64 2, .string (str name), .slice A N c, .string (str text)] 36))) := Lib.hid ((Below.refl _ _).alloc (Nat.le_refl _) _)
  have BX : Hid (Blk (w.alloc (.cells #[.int .i64 2, .string (str name), .slice A N c, .string (str text)] 36)) w.heap.size 36 #[.int .i64 2, .string (str name), .slice A N c, .string (str text)]) := Lib.hid (Blk.fresh _ _ _)
  have kn := fun W => xname_any name W
  rw [hn] at kn
  have KN := Lib.hid kn
  clear kn hn
  go_enter Tryd.func23, Tryd.ntmps23
  go_wp2_with (go_at_call 15; refine (KN.out _).mono ?_; rintro e w2 ⟨rfl, hb2⟩; have z2 : w2.cell? ⟨w.heap.size, 2, none⟩ = some (.slice A N c) := (hb2.cell (p := ⟨w.heap.size, 2, none⟩) BX.out.lt).trans (BX.out.cell 2); have HB2 := Lib.hid (below_then HB0.out hb2); clear hb2)
  go_ret
  exact ⟨rfl, HB2.out⟩
set_option maxHeartbeats 3200000 in
set_option maxRecDepth 100000 in
theorem may2_len {w : World} {name text : List UInt8} {A : Option Addr} {N c : Nat} (hn : nameX name = true) (hN : 0 < N) :
    Calls Tryd.prog 23 #[.agg #[.int .i64 2, .string (str name), .slice A N c, .string (str text)]] w (Made w (.bool false)) := by
  have HB0 : Hid (Below w.heap.size w (w.alloc (.cells #[.int .i64 2, .string (str name), .slice A N c, .string (str text)] 36))) := Lib.hid ((Below.refl _ _).alloc (Nat.le_refl _) _)
  have BX : Hid (Blk (w.alloc (.cells #[.int .i64 2, .string (str name), .slice A N c, .string (str text)] 36)) w.heap.size 36 #[.int .i64 2, .string (str name), .slice A N c, .string (str text)]) := Lib.hid (Blk.fresh _ _ _)
  have kn := fun W => xname_any name W
  rw [hn] at kn
  have KN := Lib.hid kn
  have hN0 : ¬ N = 0 := by omega
  have hNb : ((N : Int) == 0) = false := by simpa using hN0
  have hNc : (N == 0) = false := by simpa using hN0
  clear kn hn
  go_enter Tryd.func23, Tryd.ntmps23
  go_wp2_with (go_at_call 15; refine (KN.out _).mono ?_; rintro e w2 ⟨rfl, hb2⟩; have z2 : w2.cell? ⟨w.heap.size, 2, none⟩ = some (.slice A N c) := (hb2.cell (p := ⟨w.heap.size, 2, none⟩) BX.out.lt).trans (BX.out.cell 2); have z3 : w2.cell? ⟨w.heap.size, 3, none⟩ = some (.string (str text)) := (hb2.cell (p := ⟨w.heap.size, 3, none⟩) BX.out.lt).trans (BX.out.cell 3); have HB2 := Lib.hid (below_then HB0.out hb2); clear hb2)
  go_ret
  exact ⟨rfl, HB2.out⟩
set_option maxHeartbeats 3200000 in
set_option maxRecDepth 100000 in
theorem may2_text {w : World} {name text : List UInt8} {A : Option Addr} {N c : Nat} (hn : nameX name = true) (hN : N = 0) (e1 : (text == ([] : List UInt8)) = false) (_e2 : (([] : List UInt8) == text) = false) :
    Calls Tryd.prog 23 #[.agg #[.int .i64 2, .string (str name), .slice A N c, .string (str text)]] w (Made w (.bool false)) := by
  subst hN
  have HB0 : Hid (Below w.heap.size w (w.alloc (.cells #[.int .i64 2, .string (str name), .slice A 0 c, .string (str text)] 36))) := Lib.hid ((Below.refl _ _).alloc (Nat.le_refl _) _)
  have BX : Hid (Blk (w.alloc (.cells #[.int .i64 2, .string (str name), .slice A 0 c, .string (str text)] 36)) w.heap.size 36 #[.int .i64 2, .string (str name), .slice A 0 c, .string (str text)]) := Lib.hid (Blk.fresh _ _ _)
  have kn := fun W => xname_any name W
  rw [hn] at kn
  have KN := Lib.hid kn
  clear kn hn
  go_enter Tryd.func23, Tryd.ntmps23
  go_wp2_with (go_at_call 15; refine (KN.out _).mono ?_; rintro e w2 ⟨rfl, hb2⟩; have z2 : w2.cell? ⟨w.heap.size, 2, none⟩ = some (.slice A 0 c) := (hb2.cell (p := ⟨w.heap.size, 2, none⟩) BX.out.lt).trans (BX.out.cell 2); have z3 : w2.cell? ⟨w.heap.size, 3, none⟩ = some (.string (str text)) := (hb2.cell (p := ⟨w.heap.size, 3, none⟩) BX.out.lt).trans (BX.out.cell 3); have HB2 := Lib.hid (below_then HB0.out hb2); clear hb2)
  go_ret
  exact ⟨rfl, HB2.out⟩
set_option maxHeartbeats 3200000 in
set_option maxRecDepth 100000 in
theorem may2_yes {w : World} {name text : List UInt8} {A : Option Addr} {N c : Nat} (hn : nameX name = true) (hN : N = 0) (ht : text = []) :
    Calls Tryd.prog 23 #[.agg #[.int .i64 2, .string (str name), .slice A N c, .string (str text)]] w (Made w (.bool true)) := by
  subst hN
  subst ht
  have HB0 : Hid (Below w.heap.size w (w.alloc (.cells #[.int .i64 2, .string (str name), .slice A 0 c, .string (str [])] 36))) := Lib.hid ((Below.refl _ _).alloc (Nat.le_refl _) _)
  have BX : Hid (Blk (w.alloc (.cells #[.int .i64 2, .string (str name), .slice A 0 c, .string (str [])] 36)) w.heap.size 36 #[.int .i64 2, .string (str name), .slice A 0 c, .string (str [])]) := Lib.hid (Blk.fresh _ _ _)
  have kn := fun W => xname_any name W
  rw [hn] at kn
  have KN := Lib.hid kn
  clear kn hn
  go_enter Tryd.func23, Tryd.ntmps23
  go_wp2_with (go_at_call 15; refine (KN.out _).mono ?_; rintro e w2 ⟨rfl, hb2⟩; have z2 : w2.cell? ⟨w.heap.size, 2, none⟩ = some (.slice A 0 c) := (hb2.cell (p := ⟨w.heap.size, 2, none⟩) BX.out.lt).trans (BX.out.cell 2); have z3 : w2.cell? ⟨w.heap.size, 3, none⟩ = some (.string (str [])) := (hb2.cell (p := ⟨w.heap.size, 3, none⟩) BX.out.lt).trans (BX.out.cell 3); have HB2 := Lib.hid (below_then HB0.out hb2); clear hb2)
  go_ret
  exact ⟨rfl, HB2.out⟩
set_option maxHeartbeats 3200000 in
set_option maxRecDepth 100000 in
theorem may3_name {w : World} {name text : List UInt8} {A : Option Addr} {N c : Nat} (e1 : (name == ([] : List UInt8)) = false) (_e2 : (([] : List UInt8) == name) = false) :
    Calls Tryd.prog 23 #[.agg #[.int .i64 3, .string (str name), .slice A N c, .string (str text)]] w (Made w (.bool false)) := by
  go_enter Tryd.func23, Tryd.ntmps23
  go_wp2_with fail
  go_ret
  exact ⟨rfl, (Below.refl _ _).alloc (Nat.le_refl _) _⟩
set_option maxHeartbeats 3200000 in
set_option maxRecDepth 100000 in
theorem may3_len {w : World} {name text : List UInt8} {A : Option Addr} {N c : Nat} (hn : name = []) (hN : 0 < N) :
    Calls Tryd.prog 23 #[.agg #[.int .i64 3, .string (str name), .slice A N c, .string (str text)]] w (Made w (.bool false)) := by
  subst hn
  have hN0 : ¬ N = 0 := by omega
  have hNb : ((N : Int) == 0) = false := by simpa using hN0
  have hNc : (N == 0) = false := by simpa using hN0
  go_enter Tryd.func23, Tryd.ntmps23
  go_wp2_with fail
  go_ret
  exact ⟨rfl, (Below.refl _ _).alloc (Nat.le_refl _) _⟩
set_option maxHeartbeats 3200000 in
set_option maxRecDepth 100000 in
theorem may3_no {w : World} {name text : List UInt8} {A : Option Addr} {N c : Nat} (hn : name = []) (hN : N = 0) (ht : text = []) :
    Calls Tryd.prog 23 #[.agg #[.int .i64 3, .string (str name), .slice A N c, .string (str text)]] w (Made w (.bool false)) := by
  subst hn
  subst hN
  subst ht
  go_enter Tryd.func23, Tryd.ntmps23
  go_wp2_with fail
  go_ret
  exact ⟨rfl, (Below.refl _ _).alloc (Nat.le_refl _) _⟩
set_option maxHeartbeats 3200000 in
set_option maxRecDepth 100000 in
theorem may3_yes {w : World} {name text : List UInt8} {A : Option Addr} {N c : Nat} (hn : name = []) (hN : N = 0) (e1 : (text == ([] : List UInt8)) = false) (_e2 : (([] : List UInt8) == text) = false) :
    Calls Tryd.prog 23 #[.agg #[.int .i64 3, .string (str name), .slice A N c, .string (str text)]] w (Made w (.bool true)) := by
  subst hn
  subst hN
  go_enter Tryd.func23, Tryd.ntmps23
  go_wp2_with fail
  go_ret
  exact ⟨rfl, (Below.refl _ _).alloc (Nat.le_refl _) _⟩
set_option maxHeartbeats 3200000 in
set_option maxRecDepth 100000 in
theorem may_other {w : World} {k : Int} {name text : List UInt8} {A : Option Addr} {N c : Nat} (h1 : ¬ k = 1) (h2 : ¬ k = 2) (h3 : ¬ k = 3) :
    Calls Tryd.prog 23 #[.agg #[.int .i64 k, .string (str name), .slice A N c, .string (str text)]] w (Made w (.bool false)) := by
  have b1 : (k == 1) = false := by simpa using h1
  have b2 : (k == 2) = false := by simpa using h2
  have b3 : (k == 3) = false := by simpa using h3
  clear h1 h2 h3
  go_enter Tryd.func23, Tryd.ntmps23
  go_wp2_with fail
  go_ret
  exact ⟨rfl, (Below.refl _ _).alloc (Nat.le_refl _) _⟩
set_option maxHeartbeats 3200000 in
set_option maxRecDepth 100000 in
theorem mayBe_any {w : World} {v : Value} {k : Int} {name text : List UInt8} {L : List (List UInt8 × List UInt8)} (h : SrcA w v L) (hl : LensOk L) :
    Calls Tryd.prog 23 #[.agg #[.int .i64 k, .string (str name), v, .string (str text)]] w (Made w (.bool (mayTok k name L text))) := by
  obtain ⟨A, c, hv, _⟩ := id h
  subst hv
  have hb0 : Below w.heap.size w (w.alloc (.cells #[.int .i64 k, .string (str name), .slice A L.length c, .string (str text)] 36)) := (Below.refl _ _).alloc (Nat.le_refl _) _
  have HB0 := Lib.hid hb0
  have BX : Hid (Blk (w.alloc (.cells #[.int .i64 k, .string (str name), .slice A L.length c, .string (str text)] 36)) w.heap.size 36 #[.int .i64 k, .string (str name), .slice A L.length c, .string (str text)]) := Lib.hid (Blk.fresh _ _ _)
  have HS0 := Lib.hid (h.below hb0)
  have HLN := Lib.hid hl
  have kn := fun W => xname_any name W
  clear h hl hb0
  have ht : text = [] ∨ (text ≠ [] ∧ (text == ([] : List UInt8)) = false ∧ (([] : List UInt8) == text) = false) := by
    by_cases h : text = []
    · exact .inl h
    · exact .inr ⟨h, by simpa using h, by simpa using h⟩
  by_cases h1 : k = 1
  · subst h1
    have hm : mayTok 1 name L text = ((nameX name && attrsOk L) && text.isEmpty) := rfl
    rw [hm]
    cases hn : nameX name with
    | false =>
      rw [hn] at kn
      have KN := Lib.hid kn
      clear kn hn hm ht
      go_enter Tryd.func23, Tryd.ntmps23
      go_wp2_with (go_at_call 15; refine (KN.out _).mono ?_; rintro e w2 ⟨rfl, hb2⟩; have HB2 := Lib.hid (below_then HB0.out hb2); clear hb2)
      go_ret
      exact ⟨rfl, HB2.out⟩
    | true =>
      rw [hn] at kn
      have KN := Lib.hid kn
      obtain ⟨R, hR⟩ : ∃ R, R = attrsOk L := ⟨_, rfl⟩
      rw [← hR]
      have HR := Lib.hid hR
      clear kn hn hm hR
      cases R with
      | false =>
        clear ht
        go_enter Tryd.func23, Tryd.ntmps23
        go_wp2_with (first
          | (go_at_call 15; refine (KN.out _).mono ?_; rintro e w2 ⟨rfl, hb2⟩; have z2 : w2.cell? ⟨w.heap.size, 2, none⟩ = some (.slice A L.length c) := (hb2.cell (p := ⟨w.heap.size, 2, none⟩) BX.out.lt).trans (BX.out.cell 2); have HS2 := Lib.hid (HS0.out.below hb2); have HB2 := Lib.hid (below_then HB0.out hb2); have BX2 := Lib.hid (BX.out.below hb2 BX.out.lt); clear hb2)
          | (go_at_call 51; have ka := attrsMay_any HS2.out HLN.out; rw [← HR.out] at ka; refine ka.mono ?_; rintro e w3 ⟨rfl, hb3⟩; have HB3 := Lib.hid (below_then HB2.out hb3); clear hb3 ka))
        go_ret
        exact ⟨rfl, HB3.out⟩
      | true =>
        rcases ht with rfl | ⟨h0, e1, e2⟩
        · go_enter Tryd.func23, Tryd.ntmps23
          go_wp2_with (first
            | (go_at_call 15; refine (KN.out _).mono ?_; rintro e w2 ⟨rfl, hb2⟩; have z2 : w2.cell? ⟨w.heap.size, 2, none⟩ = some (.slice A L.length c) := (hb2.cell (p := ⟨w.heap.size, 2, none⟩) BX.out.lt).trans (BX.out.cell 2); have HS2 := Lib.hid (HS0.out.below hb2); have HB2 := Lib.hid (below_then HB0.out hb2); have BX2 := Lib.hid (BX.out.below hb2 BX.out.lt); clear hb2)
            | (go_at_call 51; have ka := attrsMay_any HS2.out HLN.out; rw [← HR.out] at ka; refine ka.mono ?_; rintro e w3 ⟨rfl, hb3⟩; have z3 : w3.cell? ⟨w.heap.size, 3, none⟩ = some (.string (str [])) := (hb3.cell (p := ⟨w.heap.size, 3, none⟩) BX2.out.lt).trans (BX2.out.cell 3); have HB3 := Lib.hid (below_then HB2.out hb3); clear hb3 ka z2))
          go_ret
          exact ⟨rfl, HB3.out⟩
        · have HT : Hid (text.isEmpty = false) := Lib.hid (by cases text <;> simp_all)
          clear h0
          go_enter Tryd.func23, Tryd.ntmps23
          go_wp2_with (first
            | (go_at_call 15; refine (KN.out _).mono ?_; rintro e w2 ⟨rfl, hb2⟩; have z2 : w2.cell? ⟨w.heap.size, 2, none⟩ = some (.slice A L.length c) := (hb2.cell (p := ⟨w.heap.size, 2, none⟩) BX.out.lt).trans (BX.out.cell 2); have HS2 := Lib.hid (HS0.out.below hb2); have HB2 := Lib.hid (below_then HB0.out hb2); have BX2 := Lib.hid (BX.out.below hb2 BX.out.lt); clear hb2)
            | (go_at_call 51; have ka := attrsMay_any HS2.out HLN.out; rw [← HR.out] at ka; refine ka.mono ?_; rintro e w3 ⟨rfl, hb3⟩; have z3 : w3.cell? ⟨w.heap.size, 3, none⟩ = some (.string (str text)) := (hb3.cell (p := ⟨w.heap.size, 3, none⟩) BX2.out.lt).trans (BX2.out.cell 3); have HB3 := Lib.hid (below_then HB2.out hb3); clear hb3 ka z2))
          go_ret
          exact ⟨by rw [HT.out]; rfl, HB3.out⟩
  · have hN : L = [] ∨ (0 < L.length ∧ L.isEmpty = false) := by cases L <;> simp
    have hnm : name = [] ∨ ((name == ([] : List UInt8)) = false ∧ (([] : List UInt8) == name) = false ∧ name.isEmpty = false) := by
      cases name with
      | nil => exact .inl rfl
      | cons x y => exact .inr ⟨rfl, rfl, rfl⟩
    have hte : text ≠ [] → text.isEmpty = false := by cases text <;> simp
    clear HB0 BX HS0 HLN kn
    unfold mayTok
    rw [if_neg h1]
    by_cases h2 : k = 2
    · subst h2
      rw [if_pos rfl]
      cases hn : nameX name with
      | false => exact may2_no hn
      | true =>
        rcases hN with rfl | ⟨hN, hNe⟩
        · rcases ht with rfl | ⟨h0, e1, e2⟩
          · exact may2_yes hn rfl rfl
          · rw [hte h0]; exact may2_text hn rfl e1 e2
        · rw [hNe]; exact may2_len hn hN
    · rw [if_neg h2]
      by_cases h3 : k = 3
      · subst h3
        rw [if_pos rfl]
        rcases hnm with rfl | ⟨e1, e2, hne⟩
        · rcases hN with rfl | ⟨hN, hNe⟩
          · rcases ht with rfl | ⟨h0, e1, e2⟩
            · exact may3_no rfl rfl rfl
            · rw [hte h0]; exact may3_yes rfl rfl e1 e2
          · rw [hNe]; exact may3_len rfl hN
        · rw [hne]; exact may3_name e1 e2
      · rw [if_neg h3]
        exact may_other h1 h2 h3
end Go.Proofs.YtanefcpjbgfgbaaDoor
