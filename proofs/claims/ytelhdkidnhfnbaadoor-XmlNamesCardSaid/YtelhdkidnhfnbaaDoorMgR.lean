/-
  Whether a token may be. Condition: its attributes' cells lie in memory.
-/
import Derived.Test.YtelhdkidnhfnbaaDoorMgQ
import Derived.Test.YtelhdkidnhfnbaaDoorMgM
import Derived.Test.YtelhdkidnhfnbaaDoorMgG
import Derived.Test.YtelhdkidnhfnbaaDoorEWMath
import Derived.Test.YtelhdkidnhfnbaaDoorShelf
namespace Go.Proofs.YtelhdkidnhfnbaaDoor
open Go.RowKit

def mayTok (k : Int) (name : List UInt8) (L : List (List UInt8 × List UInt8)) (text : List UInt8) : Bool :=
  if k = 1 then (nameX name && attrsOk L) && text.isEmpty else if k = 2 then (nameX name && L.isEmpty) && text.isEmpty else if k = 3 then (name.isEmpty && L.isEmpty) && !text.isEmpty else false
theorem SrcA.below {w w' : World} {v : Value} {L : List (List UInt8 × List UInt8)} (h : SrcA w v L) (hb : Below w.heap.size w w') : SrcA w' v L := by
  obtain ⟨A, c, hv, hA⟩ := h
  refine ⟨A, c, hv, fun hp => ?_⟩
  obtain ⟨b, o, hA1, hlt, hc⟩ := hA hp
  exact ⟨b, o, hA1, Nat.lt_of_lt_of_le hlt hb.size, fun j u hu => (hb.cell (p := ⟨b, o + j, none⟩) hlt).trans (hc j u hu)⟩
set_option maxHeartbeats 3200000 in
set_option maxRecDepth 100000 in
theorem may2_no {w : World} {name text : List UInt8} {A : Option Addr} {N c : Nat} (hn : nameX name = false) :
    Calls Tryd.prog 23 #[.agg #[.int .i64 2, .string (str name), .slice A N c, .string (str text)]] w (Made w (.bool false)) := by
  have HB0 : Hid (Below w.heap.size w (w.alloc (.cells #[.int .i64 2, .string (str name), .slice A N c, .string (str text)] 36))) := Lib.hid ((Below.refl _ _).alloc (Nat.le_refl _) _)
  have BX : Hid (Blk (w.alloc (.cells #[.int .i64 2, .string (str name), .slice A N c, .string (str text)] 36)) w.heap.size 36 #[.int .i64 2, .string (str name), .slice A N c, .string (str text)]) := Lib.hid (Blk.fresh _ _ _)
  have kn := fun W => xname_any name W
  rw [hn] at kn
  have KN := Lib.hid kn
  clear kn hn
  go_enter Tryd.func23, Tryd.ntmps23
  go_wp2_with (go_at_call 15; refine (KN.out _).mono ?_; rintro e w2 ⟨rfl, hb2⟩; have z2 : w2.cell? ⟨w.heap.size, 2, none⟩ = some (.slice A N c) := (hb2.cell (p := ⟨w.heap.size, 2, none⟩) BX.out.lt).trans (BX.out.cell 2); have HB2 := Lib.hid (below_then HB0.out hb2); clear hb2)
  go_ret
  exact ⟨rfl, HB2.out⟩
set_option maxHeartbeats 3200000 in
set_option maxRecDepth 100000 in
theorem may2_len {w : World} {name text : List UInt8} {A : Option Addr} {N c : Nat} (hn : nameX name = true) (hN : 0 < N) :
    Calls Tryd.prog 23 #[.agg #[.int .i64 2, .string (str name), .slice A N c, .string (str text)]] w (Made w (.bool false)) := by
  have HB0 : Hid (Below w.heap.size w (w.alloc (.cells #[.int .i64 2, .string (str name), .slice A N c, .string (str text)] 36))) := Lib.hid ((Below.refl _ _).alloc (Nat.le_refl _) _)
  have BX : Hid (Blk (w.alloc (.cells #[.int .i64 2, .string (str name), .slice A N c, .string (str text)] 36)) w.heap.size 36 #[.int .i64 2, .string (str name), .slice A N c, .string (str text)]) := Lib.hid (Blk.fresh _ _ _)
  have kn := fun W => xname_any name W
  rw [hn] at kn
  have KN := Lib.hid kn
  have hN0 : ¬ N = 0 := by omega
  have hNb : ((N : Int) == 0) = false := by simpa using hN0
  have hNc : (N == 0) = false := by simpa using hN0
  clear kn hn
  go_enter Tryd.func23, Tryd.ntmps23
  go_wp2_with (go_at_call 15; refine (KN.out _).mono ?_; rintro e w2 ⟨rfl, hb2⟩; have z2 : w2.cell? ⟨w.heap.size, 2, none⟩ = some (.slice A N c) := (hb2.cell (p := ⟨w.heap.size, 2, none⟩) BX.out.lt).trans (BX.out.cell 2); have z3 : w2.cell? ⟨w.heap.size, 3, none⟩ = some (.string (str text)) := (hb2.cell (p := ⟨w.heap.size, 3, none⟩) BX.out.lt).trans (BX.out.cell 3); have HB2 := Lib.hid (below_then HB0.out hb2); clear hb2)
  go_ret
  exact ⟨rfl, HB2.out⟩
set_option maxHeartbeats 3200000 in
set_option maxRecDepth 100000 in
theorem may2_text {w : World} {name text : List UInt8} {A : Option Addr} {N c : Nat} (hn : nameX name = true) (hN : N = 0) (e1 : (text == ([] : List UInt8)) = false) (_e2 : (([] : List UInt8) == text) = false) :
    Calls Tryd.prog 23 #[.agg #[.int .i64 2, .string (str name), .slice A N c, .string (str text)]] w (Made w (.bool false)) := by
  subst hN
  have HB0 : Hid (Below w.heap.size w (w.alloc (.cells #[.int .i64 2, .string (str name), .slice A 0 c, .string (str text)] 36))) := Lib.hid ((Below.refl _ _).alloc (Nat.le_refl _) _)
  have BX : Hid (Blk (w.alloc (.cells #[.int .i64 2, .string (str name), .slice A 0 c, .string (str text)] 36)) w.heap.size 36 #[.int .i64 2, .string (str name), .slice A 0 c, .string (str text)]) := Lib.hid (Blk.fresh _ _ _)
  have kn := fun W => xname_any name W
  rw [hn] at kn
  have KN := Lib.hid kn
  clear kn hn
  go_enter Tryd.func23, Tryd.ntmps23
  go_wp2_with (go_at_call 15; refine (KN.out _).mono ?_; rintro e w2 ⟨rfl, hb2⟩; have z2 : w2.cell? ⟨w.heap.size, 2, none⟩ = some (.slice A 0 c) := (hb2.cell (p := ⟨w.heap.size, 2, none⟩) BX.out.lt).trans (BX.out.cell 2); have z3 : w2.cell? ⟨w.heap.size, 3, none⟩ = some (.string (str text)) := (hb2.cell (p := ⟨w.heap.size, 3, none⟩) BX.out.lt).trans (BX.out.cell 3); have HB2 := Lib.hid (below_then HB0.out hb2); clear hb2)
  go_ret
  exact ⟨rfl, HB2.out⟩
set_option maxHeartbeats 3200000 in
set_option maxRecDepth 100000 in
theorem may2_yes {w : World} {name text : List UInt8} {A : Option Addr} {N c : Nat} (hn : nameX name = true) (hN : N = 0) (ht : text = []) :
    Calls Tryd.prog 23 #[.agg #[.int .i64 2, .string (str name), .slice A N c, .string (str text)]] w (Made w (.bool true)) := by
  subst hN
  subst ht
  have HB0 : Hid (Below w.heap.size w (w.alloc (.cells #[.int .i64 2, .string (str name), .slice A 0 c, .string (str [])] 36))) := Lib.hid ((Below.refl _ _).alloc (Nat.le_refl _) _)
  have BX : Hid (Blk (w.alloc (.cells #[.int .i64 2, .string (str name), .slice A 0 c, .string (str [])] 36)) w.heap.size 36 #[.int .i64 2, .string (str name), .slice A 0 c, .string (str [])]) := Lib.hid (Blk.fresh _ _ _)
  have kn := fun W => xname_any name W
  rw [hn] at kn
  have KN := Lib.hid kn
  clear kn hn
  go_enter Tryd.func23, Tryd.ntmps23
  go_wp2_with (go_at_call 15; refine (KN.out _).mono ?_; rintro e w2 ⟨rfl, hb2⟩; have z2 : w2.cell? ⟨w.heap.size, 2, none⟩ = some (.slice A 0 c) := (hb2.cell (p := ⟨w.heap.size, 2, none⟩) BX.out.lt).trans (BX.out.cell 2); have z3 : w2.cell? ⟨w.heap.size, 3, none⟩ = some (.string (str [])) := (hb2.cell (p := ⟨w.heap.size, 3, none⟩) BX.out.lt).trans (BX.out.cell 3); have HB2 := Lib.hid (below_then HB0.out hb2); clear hb2)
  go_ret
  exact ⟨rfl, HB2.out⟩
set_option maxHeartbeats 3200000 in
set_option maxRecDepth 100000 in
theorem may3_name {w : World} {name text : List UInt8} {A : Option Addr} {N c : Nat} (e1 : (name == ([] : List UInt8)) = false) (_e2 : (([] : List UInt8) == name) = false) :
    Calls Tryd.prog 23 #[.agg #[.int .i64 3, .string (str name), .slice A N c, .string (str text)]] w (Made w (.bool false)) := by
  go_enter Tryd.func23, Tryd.ntmps23
  go_wp2_with fail
  go_ret
  exact ⟨rfl, (Below.refl _ _).alloc (Nat.le_refl _) _⟩
set_option maxHeartbeats 3200000 in
set_option maxRecDepth 100000 in
theorem may3_len {w : World} {name text : List UInt8} {A : Option Addr} {N c : Nat} (hn : name = []) (hN : 0 < N) :
    Calls Tryd.prog 23 #[.agg #[.int .i64 3, .string (str name), .slice A N c, .string (str text)]] w (Made w (.bool false)) := by
  subst hn
  have hN0 : ¬ N = 0 := by omega
  have hNb : ((N : Int) == 0) = false := by simpa using hN0
  have hNc : (N == 0) = false := by simpa using hN0
  go_enter Tryd.func23, Tryd.ntmps23
  go_wp2_with fail
  go_ret
  exact ⟨rfl, (Below.refl _ _).alloc (Nat.le_refl _) _⟩
set_option maxHeartbeats 3200000 in
set_option maxRecDepth 100000 in
theorem may3_no {w : World} {name text : List UInt8} {A : Option Addr} {N c : Nat} (hn : name = []) (hN : N = 0) (ht : text = []) :
    Calls Tryd.prog 23 #[.agg #[.int .i64 3, .string (str name), .slice A N c, .string (str text)]] w (Made w (.bool false)) := by
  subst hn
  subst hN
  subst ht
  go_enter Tryd.func23, Tryd.ntmps23
  go_wp2_with fail
  go_ret
  exact ⟨rfl, (Below.refl _ _).alloc (Nat.le_refl _) _⟩
set_option maxHeartbeats 3200000 in
set_option maxRecDepth 100000 in
theorem may3_yes {w : World} {name text : List UInt8} {A : Option Addr} {N c : Nat} (hn : name = []) (hN : N = 0) (e1 : (text == ([] : List UInt8)) = false) (_e2 : (([] : List UInt8) == text) = false) :
    Calls Tryd.prog 23 #[.agg #[.int .i64 3, .string (str name), .slice A N c, .string (str text)]] w (Made w (.bool true)) := by
  subst hn
  subst hN
  go_enter Tryd.func23, Tryd.ntmps23
  go_wp2_with fail
  go_ret
  exact ⟨rfl, (Below.refl _ _).alloc (Nat.le_refl _) _⟩
set_option maxHeartbeats 3200000 in
set_option maxRecDepth 100000 in
theorem may_other {w : World} {k : Int} {name text : List UInt8} {A : Option Addr} {N c : Nat} (h1 : ¬ k = 1) (h2 : ¬ k = 2) (h3 : ¬ k = 3) :
    Calls Tryd.prog 23 #[.agg #[.int .i64 k, .string (str name), .slice A N c, .string (str text)]] w (Made w (.bool false)) := by
  have b1 : (k == 1) = false := by simpa using h1
  have b2 : (k == 2) = false := by simpa using h2
  have b3 : (k == 3) = false := by simpa using h3
  clear h1 h2 h3
  go_enter Tryd.func23, Tryd.ntmps23
  go_wp2_with fail
  go_ret
  exact ⟨rfl, (Below.refl _ _).alloc (Nat.le_refl _) _⟩
set_option maxHeartbeats 3200000 in
set_option maxRecDepth 100000 in
theorem mayBe_any {w : World} {v : Value} {k : Int} {name text : List UInt8} {L : List (List UInt8 × List UInt8)} (h : SrcA w v L) (hl : LensOk L) :
    Calls Tryd.prog 23 #[.agg #[.int .i64 k, .string (str name), v, .string (str text)]] w (Made w (.bool (mayTok k name L text))) := by
  obtain ⟨A, c, hv, _⟩ := id h
  subst hv
  have hb0 : Below w.heap.size w (w.alloc (.cells #[.int .i64 k, .string (str name), .slice A L.length c, .string (str text)] 36)) := (Below.refl _ _).alloc (Nat.le_refl _) _
  have HB0 := Lib.hid hb0
  have BX : Hid (Blk (w.alloc (.cells #[.int .i64 k, .string (str name), .slice A L.length c, .string (str text)] 36)) w.heap.size 36 #[.int .i64 k, .string (str name), .slice A L.length c, .string (str text)]) := Lib.hid (Blk.fresh _ _ _)
  have HS0 := Lib.hid (h.below hb0)
  have HLN := Lib.hid hl
  have kn := fun W => xname_any name W
  clear h hl hb0
  have ht : text = [] ∨ (text ≠ [] ∧ (text == ([] : List UInt8)) = false ∧ (([] : List UInt8) == text) = false) := by
    by_cases h : text = []
    · exact .inl h
    · exact .inr ⟨h, by simpa using h, by simpa using h⟩
  by_cases h1 : k = 1
  · subst h1
    have hm : mayTok 1 name L text = ((nameX name && attrsOk L) && text.isEmpty) := rfl
    rw [hm]
    cases hn : nameX name with
    | false =>
      rw [hn] at kn
      have KN := Lib.hid kn
      clear kn hn hm ht
      go_enter Tryd.func23, Tryd.ntmps23
      go_wp2_with (go_at_call 15; refine (KN.out _).mono ?_; rintro e w2 ⟨rfl, hb2⟩; have HB2 := Lib.hid (below_then HB0.out hb2); clear hb2)
      go_ret
      exact ⟨rfl, HB2.out⟩
    | true =>
      rw [hn] at kn
      have KN := Lib.hid kn
      obtain ⟨R, hR⟩ : ∃ R, R = attrsOk L := ⟨_, rfl⟩
      rw [← hR]
      have HR := Lib.hid hR
      clear kn hn hm hR
      cases R with
      | false =>
        clear ht
        go_enter Tryd.func23, Tryd.ntmps23
        go_wp2_with (first
          | (go_at_call 15; refine (KN.out _).mono ?_; rintro e w2 ⟨rfl, hb2⟩; have z2 : w2.cell? ⟨w.heap.size, 2, none⟩ = some (.slice A L.length c) := (hb2.cell (p := ⟨w.heap.size, 2, none⟩) BX.out.lt).trans (BX.out.cell 2); have HS2 := Lib.hid (HS0.out.below hb2); have HB2 := Lib.hid (below_then HB0.out hb2); have BX2 := Lib.hid (BX.out.below hb2 BX.out.lt); clear hb2)
          | (go_at_call 51; have ka := attrsMay_any HS2.out HLN.out; rw [← HR.out] at ka; refine ka.mono ?_; rintro e w3 ⟨rfl, hb3⟩; have HB3 := Lib.hid (below_then HB2.out hb3); clear hb3 ka))
        go_ret
        exact ⟨rfl, HB3.out⟩
      | true =>
        rcases ht with rfl | ⟨h0, e1, e2⟩
        · go_enter Tryd.func23, Tryd.ntmps23
          go_wp2_with (first
            | (go_at_call 15; refine (KN.out _).mono ?_; rintro e w2 ⟨rfl, hb2⟩; have z2 : w2.cell? ⟨w.heap.size, 2, none⟩ = some (.slice A L.length c) := (hb2.cell (p := ⟨w.heap.size, 2, none⟩) BX.out.lt).trans (BX.out.cell 2); have HS2 := Lib.hid (HS0.out.below hb2); have HB2 := Lib.hid (below_then HB0.out hb2); have BX2 := Lib.hid (BX.out.below hb2 BX.out.lt); clear hb2)
            | (go_at_call 51; have ka := attrsMay_any HS2.out HLN.out; rw [← HR.out] at ka; refine ka.mono ?_; rintro e w3 ⟨rfl, hb3⟩; have z3 : w3.cell? ⟨w.heap.size, 3, none⟩ = some (.string (str [])) := (hb3.cell (p := ⟨w.heap.size, 3, none⟩) BX2.out.lt).trans (BX2.out.cell 3); have HB3 := Lib.hid (below_then HB2.out hb3); clear hb3 ka z2))
          go_ret
          exact ⟨rfl, HB3.out⟩
        · have HT : Hid (text.isEmpty = false) := Lib.hid (by cases text <;> simp_all)
          clear h0
          go_enter Tryd.func23, Tryd.ntmps23
          go_wp2_with (first
            | (go_at_call 15; refine (KN.out _).mono ?_; rintro e w2 ⟨rfl, hb2⟩; have z2 : w2.cell? ⟨w.heap.size, 2, none⟩ = some (.slice A L.length c) := (hb2.cell (p := ⟨w.heap.size, 2, none⟩) BX.out.lt).trans (BX.out.cell 2); have HS2 := Lib.hid (HS0.out.below hb2); have HB2 := Lib.hid (below_then HB0.out hb2); have BX2 := Lib.hid (BX.out.below hb2 BX.out.lt); clear hb2)
            | (go_at_call 51; have ka := attrsMay_any HS2.out HLN.out; rw [← HR.out] at ka; refine ka.mono ?_; rintro e w3 ⟨rfl, hb3⟩; have z3 : w3.cell? ⟨w.heap.size, 3, none⟩ = some (.string (str text)) := (hb3.cell (p := ⟨w.heap.size, 3, none⟩) BX2.out.lt).trans (BX2.out.cell 3); have HB3 := Lib.hid (below_then HB2.out hb3); clear hb3 ka z2))
          go_ret
          exact ⟨by rw [HT.out]; rfl, HB3.out⟩
  · have hN : L = [] ∨ (0 < L.length ∧ L.isEmpty = false) := by cases L <;> simp
    have hnm : name = [] ∨ ((name == ([] : List UInt8)) = false ∧ (([] : List UInt8) == name) = false ∧ name.isEmpty = false) := by
      cases name with
      | nil => exact .inl rfl
      | cons x y => exact .inr ⟨rfl, rfl, rfl⟩
    have hte : text ≠ [] → text.isEmpty = false := by cases text <;> simp
    clear HB0 BX HS0 HLN kn
    unfold mayTok
    rw [if_neg h1]
    by_cases h2 : k = 2
    · subst h2
      rw [if_pos rfl]
      cases hn : nameX name with
      | false => exact may2_no hn
      | true =>
        rcases hN with rfl | ⟨hN, hNe⟩
        · rcases ht with rfl | ⟨h0, e1, e2⟩
          · exact may2_yes hn rfl rfl
          · rw [hte h0]; exact may2_text hn rfl e1 e2
        · rw [hNe]; exact may2_len hn hN
    · rw [if_neg h2]
      by_cases h3 : k = 3
      · subst h3
        rw [if_pos rfl]
        rcases hnm with rfl | ⟨e1, e2, hne⟩
        · rcases hN with rfl | ⟨hN, hNe⟩
          · rcases ht with rfl | ⟨h0, e1, e2⟩
            · exact may3_no rfl rfl rfl
            · rw [hte h0]; exact may3_yes rfl rfl e1 e2
          · rw [hNe]; exact may3_len rfl hN
        · rw [hne]; exact may3_name e1 e2
      · rw [if_neg h3]
        exact may_other h1 h2 h3
end Go.Proofs.YtelhdkidnhfnbaaDoor

/-
  What stands between two signs (xml: value$1, and take at it). Condition: the sign lies in a cell of its own.
-/
namespace Go.Proofs.YtelhdkidnhfnbaaDoor
open Go.RowKit
open Go.Lib (decodeL encodeRune)

theorem bybyte_and {p q : Int → Bool} {pb qb : UInt8 → Bool} (hp : ByByte p pb) (hq : ByByte q qb) : ByByte (fun c => p c && q c) (fun b => pb b && qb b) := by
  intro l k h
  have h1 := hp l k h
  have h2 := hq l k h
  generalize decodeL (l.drop k) = d at *
  show if (p (d.1 : Int) && q (d.1 : Int)) = true then ((l.drop k).take d.2).all (fun b => pb b && qb b) = true else (pb l[k] && qb l[k]) = false
  cases e1 : p (d.1 : Int) with
  | false =>
    rw [e1, if_neg Bool.false_ne_true] at h1
    rw [Bool.false_and, if_neg Bool.false_ne_true]
    rw [h1, Bool.false_and]
  | true =>
    rw [e1, if_pos rfl] at h1
    rw [Bool.true_and]
    cases e2 : q (d.1 : Int) with
    | false =>
      rw [e2, if_neg Bool.false_ne_true] at h2
      rw [if_neg Bool.false_ne_true]
      rw [h2, Bool.and_false]
    | true =>
      rw [e2, if_pos rfl] at h2
      rw [if_pos rfl, List.all_eq_true]
      intro x hx
      show (pb x && qb x) = true
      rw [List.all_eq_true.1 h1 x hx, List.all_eq_true.1 h2 x hx]
      rfl
/-- Neither the sign nor <. -/
def midB (n : Nat) (c : Int) : Bool := (c != (n : Int)) && (c != ((60 : Nat) : Int))
theorem val1_any {w : World} {q : Nat} {n : Nat} (hq : Blk w q 21 #[.int .i32 (n : Int)]) (c : Int) : Calls Tryd.prog 86 #[.int .i32 c, .pointer (some ⟨q, 0, none⟩)] w (Pure w (.bool (midB n c))) := by
  have c0 : w.cell? ⟨q, 0, none⟩ = some (.int .i32 (n : Int)) := hq.cell 0
  clear hq
  unfold midB
  rw [show ((60 : Nat) : Int) = 60 from rfl]
  generalize ((n : Nat) : Int) = m at *
  by_cases h1 : c = m
  · subst h1
    have e1 : (c != c) = false := by simp
    rw [e1, Bool.false_and]
    go_enter Tryd.func86, Tryd.ntmps86
    go_wp2_with fail
    go_ret
    exact ⟨rfl, rfl⟩
  · have e1 : (c != m) = true := by simpa using h1
    rw [e1, Bool.true_and]
    by_cases h2 : c = 60
    · subst h2
      clear h1
      go_enter Tryd.func86, Tryd.ntmps86
      go_wp2_with fail
      go_ret
      exact ⟨rfl, rfl⟩
    · have e2 : (c != 60) = true := by simpa using h2
      rw [e2]
      clear h1 h2
      go_enter Tryd.func86, Tryd.ntmps86
      go_wp2_with fail
      go_ret
      exact ⟨rfl, rfl⟩
set_option maxHeartbeats 1600000 in
theorem take_val {w : World} {g q : Nat} {l : List UInt8} {tk p bf : Value} (hr : RdrAt w g l tk p bf) {n : Nat} (hn : n < 128) (hqb : Blk w q 21 #[.int .i32 (n : Int)]) : Calls Tryd.prog 41 #[.pointer (some ⟨g, 0, none⟩), .func (.func 86) #[] #[.pointer (some ⟨q, 0, none⟩)]] w (TakeV w g l tk p bf (fun b : UInt8 => b.toNat != n && b.toNat != 60)) := by
  have hbb : ByByte (midB n) (fun b : UInt8 => b.toNat != n && b.toNat != 60) := bybyte_and (bybyte_not n hn) (bybyte_not 60 (by decide))
  obtain ⟨pb, hpb⟩ : ∃ pb : UInt8 → Bool, pb = (fun b : UInt8 => b.toNat != n && b.toNat != 60) := ⟨_, rfl⟩
  rw [← hpb] at hbb ⊢
  obtain ⟨qf, hq⟩ : ∃ qf : Int → Bool, qf = midB n := ⟨_, rfl⟩
  have kq : ∀ (k : Nat) (c : Int), Calls Tryd.prog 86 #[.int .i32 c, .pointer (some ⟨q, 0, none⟩)] (w.iter (str l) k) (Pure (w.iter (str l) k) (.bool (qf c))) := fun k c => by rw [hq]; exact val1_any (hqb.alloc _) c
  rw [← hq] at hbb
  have HR := Lib.hid hr
  have c0 : w.cell? ⟨g, 0, none⟩ = some (.string (str l)) := hr.cell 0
  have ci : ∀ k, (w.iter (str l) k).cell? ⟨g, 0, none⟩ = some (.string (str l)) := fun k => (hr.alloc _).cell 0
  have fi : ∀ k, (w.iter (str l) k).frozen? ⟨g, 0, none⟩ = false := fun k => (hr.alloc _).free 0
  have KQ := Lib.hid kq
  have HBB := Lib.hid hbb
  clear hr kq hbb hq hpb hqb
  go_enter Tryd.func41, Tryd.ntmps41
  go_wp2_with fail
  go_loopw [5] (XTkRel l w pb) (fun _ wr => l.length - wr.iterPos w.heap.size)
  case atStart => exact ⟨0, Nat.zero_le _, rfl, rfl, rfl⟩
  case round =>
    obtain ⟨k, hk, hal, rfl, rfl⟩ := hrel
    have cik := ci k
    have fik := fi k
    have s1 := slt l (l.take k).length (by rw [List.length_take]; omega)
    have hlt : (l.take k).length = k := by rw [List.length_take]; omega
    by_cases hkl : k < l.length
    · have hnx := fun ty => nxt_it w l k ty hkl
      have hbk := HBB.out l k hkl
      have hd := dec_on hkl
      have s0 := slf l k hk
      have HTA : Hid (∀ d, (l.take (k + d)) = l.take k ++ (l.drop k).take d) := Lib.hid (fun d => List.take_add)
      have cin := ci (k + (decodeL (l.drop k)).2)
      have fin_ := fi (k + (decodeL (l.drop k)).2)
      generalize decodeL (l.drop k) = dd at *
      have kc := KQ.out (k + dd.2) (dd.1 : Int)
      cases hi : qf (dd.1 : Int) with
      | false =>
        rw [hi] at kc
        rw [hi, if_neg Bool.false_ne_true] at hbk
        have HS := Lib.hid (tk_split pb l hk hal (fun _ => hbk))
        have KC := Lib.hid kc
        have HLT := Lib.hid hlt
        rw [hlt] at s1
        have hl1 : (l.take k).length = k := hlt
        generalize hT : l.take k = T at *
        clear kc hbk hi hal hlt hd hT
        go_wp2_with (go_at_call 86; refine KC.out.mono ?_; rintro e w' ⟨rfl, rfl⟩)
        go_ret
        exact ⟨by rw [HS.out.1]; rfl, by rw [HS.out.2]; exact ((HR.out.alloc _).set 0 _), KeepsR.trans (World.grownBy_alloc w _ _) (grown_set _ g 0 _)⟩
      | true =>
        rw [hi] at kc
        rw [hi, if_pos rfl] at hbk
        have HA : Hid ((l.take (k + dd.2)).all pb = true) := Lib.hid (by rw [HTA.out, List.all_append, hal, hbk]; rfl)
        have KC := Lib.hid kc
        clear kc hbk hi hal hlt s1
        go_wp2_with (go_at_call 86; refine KC.out.mono ?_; rintro e w' ⟨rfl, rfl⟩)
        go_roundw
        case rel => exact ⟨k + dd.2, hd.2, HA.out, rfl, rfl⟩
        case measure => simp; omega
    · have hnx := fun ty => nxt_itno w l k ty hkl
      have hke : k = l.length := by omega
      subst hke
      have HS := Lib.hid (tk_split pb l hk hal (fun h => absurd h (by omega)))
      rw [List.take_length, List.drop_length] at HS
      rw [List.take_length] at s1 hal
      clear hal hlt
      go_wp2_with fail
      go_ret
      exact ⟨by rw [HS.out.1]; rfl, by rw [HS.out.2]; exact ((HR.out.alloc _).set 0 _), KeepsR.trans (World.grownBy_alloc w _ _) (grown_set _ g 0 _)⟩
end Go.Proofs.YtelhdkidnhfnbaaDoor

/-
  The reader's upTo (xml). Conditions: the reader lies in memory, four cells; the library's MaxLen is a number, whichever.
-/
namespace Go.Proofs.YtelhdkidnhfnbaaDoor
open Go.RowKit

/-- The library's MaxLen is a number. -/
def MaxAt (w : World) : Prop := ∃ m : Int, w.cell? ⟨1, 0, none⟩ = some (.int .i64 m)
def cutW (l m : List UInt8) : List UInt8 × List UInt8 × Bool := Lib.cut l m
theorem KeepsR.of {g : Nat} {a b : World} (h : Below a.heap.size a b) : KeepsR g a b := ⟨h.os, h.tape, h.output, h.size, fun k hk _ => h.block k hk⟩
theorem cutW_any (l m : List UInt8) (w : World) (hl : l.length ≤ 1000000) (hm : MaxAt w) : Calls Tryd.prog 58 #[.string (str l), .string (str m)] w (Made w (.tuple #[.string (str (cutW l m).1), .string (str (cutW l m).2.1), .bool (cutW l m).2.2])) := by
  obtain ⟨x, hx⟩ := hm
  refine (Tryd.strings_Cut (str l) (str m) x w (by rw [str_size]; omega) hx).mono ?_
  rw [str_data, str_data]
  rintro e w' ⟨rfl, n, rfl⟩
  exact ⟨rfl, below_drewN (Below.refl _ _) _⟩
theorem upTo_any {w : World} {g : Nat} {l : List UInt8} {tk p bf : Value} (hr : RdrAt w g l tk p bf) (m : List UInt8) (hl : l.length ≤ 1000000) (hm : MaxAt w) : Calls Tryd.prog 35 #[.pointer (some ⟨g, 0, none⟩), .string (str m)] w (RStep w g (cutW l m).2.1 tk p bf (.tuple #[.string (str (cutW l m).1), .bool (cutW l m).2.2])) := by
  have c0 : w.cell? ⟨g, 0, none⟩ = some (.string (str l)) := hr.cell 0
  have k1 := cutW_any l m w hl hm
  generalize cutW l m = o at *
  obtain ⟨a, b, d⟩ := o
  dsimp only at *
  have HR := Lib.hid hr
  have K1 := Lib.hid k1
  clear hr k1 hm
  go_enter Tryd.func35, Tryd.ntmps35
  go_wp2_with fail
  refine K1.out.mono ?_
  rintro e w1 ⟨rfl, b1⟩
  have H1 : Hid (RdrAt w1 g l tk p bf) := Lib.hid (HR.out.below b1 HR.out.lt)
  have c1 : w1.cell? ⟨g, 0, none⟩ = some (.string (str l)) := H1.out.cell 0
  have f1 : w1.frozen? ⟨g, 0, none⟩ = false := H1.out.free 0
  have HB := Lib.hid b1
  clear b1
  go_wp2_with fail
  go_ret2
  exact ⟨rfl, H1.out.set 0 _, (KeepsR.of HB.out).trans (grown_set _ g 0 _)⟩
end Go.Proofs.YtelhdkidnhfnbaaDoor

/-
  strings.Cut at one byte; whether a text has a rune of a kind (strings.ContainsFunc with entity's own function); Plain. Conditions: lengths are lengths; the table is as the program's text lays it.
-/
namespace Go.Proofs.YtelhdkidnhfnbaaDoor
open Go.RowKit
open Go.Lib (decodeL encodeRune)

theorem index_none (c : UInt8) : ∀ l : List UInt8, l.all (fun b => b != c) = true → Lib.indexByte l c = -1
  | [], _ => rfl
  | b :: t, h => by
    rw [List.all_cons, Bool.and_eq_true] at h
    have hb : (b == c) = false := by simpa using h.1
    unfold Lib.indexByte
    rw [hb, index_none c t h.2]
    rfl
theorem index_some (c : UInt8) : ∀ l : List UInt8, l.all (fun b => b != c) = false → Lib.indexByte l c = ((l.takeWhile fun b => b != c).length : Int) ∧ (l.takeWhile fun b => b != c).length < l.length
  | [], h => by cases h
  | b :: t, h => by
    rw [List.all_cons] at h
    unfold Lib.indexByte
    by_cases hb : b = c
    · subst hb
      have h1 : (b == b) = true := by simp
      have h2 : (b != b) = false := by simp
      rw [h1, if_pos rfl, List.takeWhile_cons_of_neg (by rw [h2]; exact Bool.false_ne_true)]
      exact ⟨rfl, by simp⟩
    · have h1 : (b == c) = false := by simpa using hb
      have h2 : (b != c) = true := by simpa using hb
      rw [h2, Bool.true_and] at h
      obtain ⟨h3, h4⟩ := index_some c t h
      rw [h1, if_neg Bool.false_ne_true, List.takeWhile_cons_of_pos (by exact h2), h3]
      have h5 : ((((t.takeWhile fun b => b != c).length : Int)) == -1) = false := by simp
      rw [h5, if_neg Bool.false_ne_true, List.length_cons, List.length_cons]
      exact ⟨by omega, by omega⟩
theorem take_while (c : UInt8) (l : List UInt8) : l.take (l.takeWhile fun b => b != c).length = l.takeWhile fun b => b != c := by
  conv => lhs; arg 2; rw [← List.takeWhile_append_dropWhile (p := fun b => b != c) (l := l)]
  rw [List.take_left]
theorem scut_any (l : List UInt8) (c : UInt8) (w : World) (hl : l.length ≤ 1099511627776) : Calls Tryd.prog 72 #[.string (str l), .string (str [c])] w (Made w (.tuple #[.string (str (cutC c l).1), .string (str (cutC c l).2.1), .bool (cutC c l).2.2])) := by
  have k1 := fun W => Tryd.stringslite_Index_one (str l) c W
  rw [str_data] at k1
  unfold cutC
  cases ha : l.all fun b => b != c with
  | true =>
    rw [index_none c l ha] at k1
    rw [if_pos rfl]
    have K1 := Lib.hid k1
    clear k1 ha
    go_enter Tryd.func72, Tryd.ntmps72
    go_wp2_with fail
    refine (K1.out _).mono ?_
    rintro e w1 ⟨rfl, rfl⟩
    go_wp2_with fail
    go_ret3
    exact ⟨rfl, Below.refl _ _⟩
  | false =>
    obtain ⟨h1, h2⟩ := index_some c l ha
    rw [h1] at k1
    rw [if_neg Bool.false_ne_true, ← take_while c l]
    generalize hn : (l.takeWhile fun b => b != c).length = n at *
    have ht : (l.take n).length = n := by rw [List.length_take]; omega
    have e1 := slf l n (by omega)
    have e2 := slt l (n + 1) (by omega)
    rw [Int.natCast_add] at e2
    have hwr : IntKind.i64.wrap ((n : Int) + 1) = (n : Int) + 1 := IntWalk.i64_in _ (by omega)
    have K1 := Lib.hid k1
    have HT := Lib.hid ht
    rw [ht]
    clear k1 ha h1 hn ht
    go_enter Tryd.func72, Tryd.ntmps72
    go_wp2_with fail
    refine (K1.out _).mono ?_
    rintro e w1 ⟨rfl, rfl⟩
    go_wp2_with fail
    go_quiet (fail)
    go_wp2_with fail
    go_ret3
    exact ⟨by rw [← str_drop l (n + 1)]; rfl, ⟨rfl, rfl, rfl, Nat.le_refl _, fun _ _ => rfl⟩⟩
theorem cut1_any (l : List UInt8) (c : UInt8) (w : World) (hl : l.length ≤ 1099511627776) : Calls Tryd.prog 58 #[.string (str l), .string (str [c])] w (Made w (.tuple #[.string (str (cutC c l).1), .string (str (cutC c l).2.1), .bool (cutC c l).2.2])) := by
  have k1 := fun W => scut_any l c W hl
  generalize cutC c l = o at *
  have K1 := Lib.hid k1
  clear k1
  go_enter Tryd.func58, Tryd.ntmps58
  go_wp2_with fail
  refine (K1.out _).mono ?_
  rintro e w1 ⟨rfl, b1⟩
  go_wp2_with fail
  go_ret3
  exact ⟨rfl, b1⟩

/-! ### Plain -/
def IdxRel (l : List UInt8) (w : World) (_ : Value) (W : World) : Prop :=
  ∃ k : Nat, k ≤ l.length ∧ (runes l).any signE = (runes (l.drop k)).any signE ∧ W.heap[w.heap.size]? = some (.stringIter (str l) k) ∧ Below w.heap.size w W
/-- It answers a place, or below 0. -/
def IdxAns (l : List UInt8) (w : World) (e : Ending) (w' : World) : Prop := ∃ n : Int, e = .returned (.int .i64 n) ∧ (0 ≤ n ↔ (runes l).any signE = true) ∧ Below w.heap.size w w'
end Go.Proofs.YtelhdkidnhfnbaaDoor
