/-
  The reader's attr: an attribute, as the reader takes it. Conditions: at most a million bytes; the table of signs lies below the reader.
-/
import Derived.Test.YtelhdkidnhfnbaaDoorXValue
import Derived.Test.YtelhdkidnhfnbaaDoorMgM
import Derived.Deep.MidRow
import Derived.Test.YtelhdkidnhfnbaaDoorMgR
namespace Go.Proofs.YtelhdkidnhfnbaaDoor
open Go.RowKit

theorem attrSize : (Tryd.prog.info? 39).map (·.size) = some 2 := by kernel_rfl
theorem wpList_store_attr {ops : Array Oper} {rest : List Oper} {op : Oper} {a : Act} {w : World} {Q : Exit → Act → World → Prop} (hgd : op.guard = none) (x z : Operand) (ho : op.op = .store 39 x z)
    (b : Nat) (a0 a1 : Value) (s t : ByteArray) (hx : a.eval x = .pointer (some ⟨b, 0, none⟩)) (hy : a.eval z = .agg #[.string s, .string t])
    (hb : Blk w b 39 #[a0, a1])
    (hn : ∀ w', Blk w' b 39 #[.string s, .string t] → w.grownBy w' (some b) → wpList Tryd.prog ops Q rest (a.put op.dst undef) w') : wpList Tryd.prog ops Q (op :: rest) a w := by
  have ht : w.there b 0 2 := fun j hj => ⟨by
    rw [Nat.zero_add, hb.cell j]
    match j, hj with
    | 0, _ => rfl
    | 1, _ => rfl, hb.free _⟩
  refine wpList_store_mid hgd 39 x z ho b 0 #[.string s, .string t] hx hy ht attrSize (by simp [Value.oneCell']) (hn _ ?_ ?_)
  · exact (hb.set 0 (.string s)).set 1 (.string t)
  · exact ((World.grownBy.refl w (some b)).trans (grown_set _ b 0 _)).trans (grown_set _ b 1 _)
def nameIn (l : List UInt8) : List UInt8 := l.takeWhile fun b => inN (b.toNat : Int)
def restIn (l : List UInt8) : List UInt8 := dropB (l.dropWhile fun b => inN (b.toNat : Int))
/-- An attribute: its name, its value, whether it is one; and the rest. -/
def attrX (l : List UInt8) : (List UInt8 × List UInt8 × Bool) × List UInt8 :=
  if hasB (restIn l) [61] = true then ((nameIn l, (valX (dropB ((restIn l).drop 1))).1.1, (valX (dropB ((restIn l).drop 1))).1.2), (valX (dropB ((restIn l).drop 1))).2) else (([], [], false), restIn l)
theorem dropB_len (l : List UInt8) : (dropB l).length ≤ l.length := by
  unfold dropB
  exact (List.dropWhile_sublist _).length_le
theorem restIn_len (l : List UInt8) : (restIn l).length ≤ l.length := Nat.le_trans (dropB_len _) (List.dropWhile_sublist _).length_le
/-- A reader stays where another block, above it, is written. -/
theorem RdrAt.grown {w w' : World} {g q : Nat} {l : List UInt8} {tk p bf : Value} (h : RdrAt w g l tk p bf) (hk : w.grownBy w' (some q)) (hq : q ≠ g) : RdrAt w' g l tk p bf := Blk.grown h hk (by intro e; injection e with e; exact hq e.symm)
theorem KeepsR.step {g q : Nat} {w a b : World} (h : KeepsR g w a) (hk : a.grownBy b (some q)) (hq : w.heap.size ≤ q) : KeepsR g w b :=
  ⟨hk.os.trans h.os, hk.tape.trans h.tape, hk.output.trans h.output, Nat.le_trans h.size hk.size, fun j hj hne => (hk.block j (Nat.lt_of_lt_of_le hj h.size) (by intro e; injection e with e; omega)).trans (h.block j hj hne)⟩
set_option maxHeartbeats 3200000 in
set_option maxRecDepth 100000 in
theorem attr_any {w : World} {g : Nat} {l : List UInt8} {tk p bf : Value} (hr : RdrAt w g l tk p bf) (hl : l.length ≤ 1000000) (hS : Sig w) (hg : 0 < g) :
    Calls Tryd.prog 64 #[.pointer (some ⟨g, 0, none⟩)] w (RStep w g (attrX l).2 tk p bf (.tuple #[.agg #[.string (str (attrX l).1.1), .string (str (attrX l).1.2.1)], .bool (attrX l).1.2.2])) := by
  have HG := Lib.hid hg
  have HGW : Hid (g < w.heap.size) := Lib.hid hr.lt6
  have hb0 : Below w.heap.size w (w.alloc (.cells #[.string ⟨#[]⟩, .string ⟨#[]⟩] 39)) := (Below.refl _ _).alloc (Nat.le_refl _) _
  have HR0 := Lib.hid (hr.below hb0 hr.lt6)
  have HS0 := Lib.hid (hS.below hb0)
  have HK0 : Hid (KeepsR g w (w.alloc (.cells #[.string ⟨#[]⟩, .string ⟨#[]⟩] 39))) := Lib.hid (KeepsR.of hb0)
  have HB0 : Hid (Blk (w.alloc (.cells #[.string ⟨#[]⟩, .string ⟨#[]⟩] 39)) w.heap.size 39 #[.string ⟨#[]⟩, .string ⟨#[]⟩]) := Lib.hid (Blk.fresh _ _ _)
  have HL := Lib.hid hl
  have HRL := Lib.hid (restIn_len l)
  clear hr hS hg hb0 hl
  cases hh : hasB (restIn l) [61] with
  | false =>
    have hv : attrX l = (([], [], false), restIn l) := by unfold attrX; rw [if_neg (by rw [hh]; exact Bool.false_ne_true)]
    rw [hv]
    have HSK : Hid (skipD (restIn l) [61] = restIn l) := Lib.hid (by unfold skipD; rw [if_neg (by rw [hh]; exact Bool.false_ne_true)])
    have HH := Lib.hid hh
    clear hv hh
    go_enter Tryd.func64, Tryd.ntmps64
    go_wp2_with (first
      | (go_at_call 41; refine (take_in HR0.out).mono ?_; rintro e w1 ⟨rfl, hr1, hk1⟩; have HR1 := Lib.hid hr1; have HK1 := Lib.hid (HK0.out.trans hk1); have HB1 := Lib.hid (HB0.out.keepsR hk1 (by have := HGW.out; omega)); clear hr1 hk1)
      | (go_at_call 61; refine (blanks_any HR1.out).mono ?_; rintro e w2 ⟨rfl, hr2, hk2⟩; have HR2 : Hid (RdrAt w2 g (restIn l) tk p bf) := Lib.hid hr2; have HK2 := Lib.hid (HK1.out.trans hk2); have HB2 := Lib.hid (HB1.out.keepsR hk2 (by have := HGW.out; omega)); clear hr2 hk2)
      | (go_at_call 34; have ks := skip_any HR2.out [61]; rw [HSK.out, HH.out] at ks; refine ks.mono ?_; rintro e w3 ⟨rfl, hr3, hk3⟩; have HR3 := Lib.hid hr3; have HK3 := Lib.hid (HK2.out.trans hk3); have HB3 := Lib.hid (HB2.out.keepsR hk3 (by have := HGW.out; omega)); clear ks hr3 hk3)
      | ((with_reducible refine wpList_store_attr rfl (.tmp 2) (.tmp 14) rfl w.heap.size _ _ ⟨#[]⟩ ⟨#[]⟩ rfl rfl HB3.out ?_); intro w4 hb4 hg4; have HR4 := Lib.hid (HR3.out.grown hg4 (by have := HGW.out; omega)); have HK4 := Lib.hid (HK3.out.step hg4 (Nat.le_refl _)); have y0 : w4.cell? ⟨w.heap.size, 0, none⟩ = some (.string ⟨#[]⟩) := hb4.cell 0; have y1 : w4.cell? ⟨w.heap.size, 1, none⟩ = some (.string ⟨#[]⟩) := hb4.cell 1; clear hb4 hg4))
    refine bodyPost_ret (v := .tuple #[.agg #[.string ⟨#[]⟩, .string ⟨#[]⟩], .bool false]) (by simp [results, Tryd.results64, go_sem, y0, y1]) rfl ?_
    exact ⟨rfl, HR4.out, HK4.out⟩
  | true =>
    have hsk : skipD (restIn l) [61] = (restIn l).drop 1 := by unfold skipD; rw [if_pos hh]; rfl
    have hv : attrX l = ((nameIn l, (valX (dropB ((restIn l).drop 1))).1.1, (valX (dropB ((restIn l).drop 1))).1.2), (valX (dropB ((restIn l).drop 1))).2) := by unfold attrX; rw [if_pos hh]
    rw [hv]
    have HSK := Lib.hid hsk
    have HH := Lib.hid hh
    obtain ⟨L3, hL3⟩ : ∃ L3, L3 = dropB ((restIn l).drop 1) := ⟨_, rfl⟩
    rw [← hL3]
    have HL3 : Hid (L3.length ≤ 1000000) := Lib.hid (by
      have h1 := dropB_len ((restIn l).drop 1)
      have h2 : ((restIn l).drop 1).length ≤ (restIn l).length := by rw [List.length_drop]; omega
      have h3 := HRL.out
      have h4 := HL.out
      rw [hL3]
      omega)
    have HLE := Lib.hid hL3
    clear hv hh hsk hL3
    go_enter Tryd.func64, Tryd.ntmps64
    go_wp2_with (first
      | (go_at_call 41; refine (take_in HR0.out).mono ?_; rintro e w1 ⟨rfl, hr1, hk1⟩; have HR1 := Lib.hid hr1; have HS1 := Lib.hid (HS0.out.keepsR hk1 HG.out); have HK1 := Lib.hid (HK0.out.trans hk1); have HB1 := Lib.hid (HB0.out.keepsR hk1 (by have := HGW.out; omega)); clear hr1 hk1)
      | (go_at_call 61; first
          | (refine (blanks_any HR3.out).mono ?_; rintro e w5 ⟨rfl, hr5, hk5⟩; rw [← HLE.out] at hr5; have HR5 := Lib.hid hr5; have HS5 := Lib.hid (HS3.out.keepsR hk5 HG.out); have HK5 := Lib.hid (HK3.out.trans hk5); have HB5 := Lib.hid (HB3.out.keepsR hk5 (by have := HGW.out; omega)); clear hr5 hk5)
          | (refine (blanks_any HR1.out).mono ?_; rintro e w2 ⟨rfl, hr2, hk2⟩; have HR2 : Hid (RdrAt w2 g (restIn l) tk p bf) := Lib.hid hr2; have HS2 := Lib.hid (HS1.out.keepsR hk2 HG.out); have HK2 := Lib.hid (HK1.out.trans hk2); have HB2 := Lib.hid (HB1.out.keepsR hk2 (by have := HGW.out; omega)); clear hr2 hk2))
      | (go_at_call 34; have ks := skip_any HR2.out [61]; rw [HSK.out, HH.out] at ks; refine ks.mono ?_; rintro e w3 ⟨rfl, hr3, hk3⟩; have HR3 := Lib.hid hr3; have HS3 := Lib.hid (HS2.out.keepsR hk3 HG.out); have HK3 := Lib.hid (HK2.out.trans hk3); have HB3 := Lib.hid (HB2.out.keepsR hk3 (by have := HGW.out; omega)); clear ks hr3 hk3)
      | (go_at_call 76; refine (value_any HR5.out HL3.out HS5.out HG.out).mono ?_; rintro e w6 ⟨rfl, hr6, hk6⟩; have HR6 := Lib.hid hr6; have HK6 := Lib.hid (HK5.out.trans hk6); have HB6 := Lib.hid (HB5.out.keepsR hk6 (by have := HGW.out; omega)); clear hr6 hk6)
      | ((with_reducible refine wpList_store_attr rfl (.tmp 2) (.tmp 24) rfl w.heap.size _ _ (str (l.takeWhile fun b => inN (b.toNat : Int))) (str (valX L3).1.1) rfl rfl HB6.out ?_); intro w7 hb7 hg7; have HR7 := Lib.hid (HR6.out.grown hg7 (by have := HGW.out; omega)); have HK7 := Lib.hid (HK6.out.step hg7 (Nat.le_refl _)); have y0 : w7.cell? ⟨w.heap.size, 0, none⟩ = some (.string (str (l.takeWhile fun b => inN (b.toNat : Int)))) := hb7.cell 0; have y1 : w7.cell? ⟨w.heap.size, 1, none⟩ = some (.string (str (valX L3).1.1)) := hb7.cell 1; clear hb7 hg7))
    refine bodyPost_ret (v := .tuple #[.agg #[.string (str (l.takeWhile fun b => inN (b.toNat : Int))), .string (str (valX L3).1.1)], .bool (valX L3).1.2]) (by simp [results, Tryd.results64, go_sem, y0, y1]) rfl ?_
    exact ⟨rfl, HR7.out, HK7.out⟩
end Go.Proofs.YtelhdkidnhfnbaaDoor

/-
  A closing tag is read. Condition: at most a million tokens; the rows lie above the reader.
-/
namespace Go.Proofs.YtelhdkidnhfnbaaDoor
open Go.RowKit

def closX (l : List UInt8) : Bool := hasB (restIn l) [62] && nameX (nameIn l)
def closT (l : List UInt8) : TokE := ⟨2, nameIn l, [], .slice none 0 0, []⟩
def ClosAns (w : World) (base g : Nat) (l : List UInt8) (tk bf : Value) (E : List TokE) (text : List UInt8) (e : Ending) (w' : World) : Prop :=
  e = .returned (.bool (closX l)) ∧ Off (fun k => k = g ∨ bf.ownBlock = some k ∨ tk.ownBlock = some k) w w' ∧
    (closX l = true → ∃ tk' p' bf', RdrS w' base g ((restIn l).drop 1) tk' p' bf' (E ++ textTok text ++ [closT l]) [])
theorem srcA_nil (w : World) : SrcA w (.slice none 0 0) [] := ⟨none, 0, rfl, fun h => absurd h (by simp)⟩
theorem lensNil : LensOk [] := fun a h => by cases h
set_option maxHeartbeats 3200000 in
set_option maxRecDepth 100000 in
theorem closing_any {w : World} {base g : Nat} {l : List UInt8} {tk p bf : Value} {E : List TokE} {text : List UInt8} (h : RdrS w base g l tk p bf E text) (hE : E.length + 2 ≤ 1000000) :
    Calls Tryd.prog 38 #[.pointer (some ⟨g, 0, none⟩)] w (ClosAns w base g l tk bf E text) := by
  have HR0 := Lib.hid h
  have HE := Lib.hid hE
  obtain ⟨B1, hB1⟩ : ∃ B1, B1 = hasB (restIn l) [62] := ⟨_, rfl⟩
  have hgw := Blk.lt h.1
  have HGW := Lib.hid hgw
  clear h hE hgw
  cases B1 with
  | false =>
    have HC : Hid (closX l = false) := Lib.hid (by unfold closX; rw [← hB1]; rfl)
    have HSK : Hid (skipD (restIn l) [62] = restIn l) := Lib.hid (by unfold skipD; rw [← hB1]; rfl)
    have HB1 := Lib.hid hB1
    clear hB1
    go_enter Tryd.func38, Tryd.ntmps38
    go_wp2_with (first
      | (go_at_call 41; refine (take_in HR0.out.1).mono ?_; rintro e w1 ⟨rfl, hr1, hk1⟩; have HR1 := Lib.hid (HR0.out.step hr1 hk1); have HO1 := Lib.hid (Off.step hk1); clear hr1 hk1)
      | (go_at_call 61; have hb2 : Below w1.heap.size w1 (w1.alloc (.cells #[.int .i64 2, .string (str (nameIn l)), .slice none 0 0, .string ⟨#[]⟩] 36)) := (Below.refl _ _).alloc (Nat.le_refl _) _; have HR2 := Lib.hid (HR1.out.below hb2); have HO2 := Lib.hid (HO1.out.trans (Off.below (F := fun _ => False) hb2) fun _ h => h.elim); clear hb2; refine (blanks_any HR2.out.1).mono ?_; rintro e w3 ⟨rfl, hr3, hk3⟩; have HR3 : Hid (RdrS w3 base g (restIn l) tk p bf E text) := Lib.hid (HR2.out.step hr3 hk3); have HO3 := Lib.hid (HO2.out.trans (Off.step hk3) fun _ h => .inl h); clear hr3 hk3)
      | (go_at_call 34; have ks := skip_any HR3.out.1 [62]; rw [HSK.out, ← HB1.out] at ks; refine ks.mono ?_; rintro e w4 ⟨rfl, hr4, hk4⟩; have HO4 := Lib.hid (HO3.out.trans (Off.step hk4) fun _ h => .inl h); clear ks hr4 hk4))
    go_ret
    exact ⟨by rw [HC.out]; rfl, HO4.out.wide fun k h => .inl h, fun h => by rw [HC.out] at h; cases h⟩
  | true =>
    have HSK : Hid (skipD (restIn l) [62] = (restIn l).drop 1) := Lib.hid (by unfold skipD; rw [← hB1]; rfl)
    have hCN : closX l = nameX (nameIn l) := by unfold closX; rw [← hB1]; rfl
    have HB1 := Lib.hid hB1
    have hmt : mayTok 2 (nameIn l) [] [] = nameX (nameIn l) := by unfold mayTok; simp
    obtain ⟨B2, hB2⟩ : ∃ B2, B2 = nameX (nameIn l) := ⟨_, rfl⟩
    rw [← hB2] at hCN hmt
    have HC := Lib.hid hCN
    have HMT := Lib.hid hmt
    clear hB1 hCN hmt hB2
    cases B2 with
    | false =>
      go_enter Tryd.func38, Tryd.ntmps38
      go_wp2_with (first
        | (go_at_call 41; refine (take_in HR0.out.1).mono ?_; rintro e w1 ⟨rfl, hr1, hk1⟩; have HR1 := Lib.hid (HR0.out.step hr1 hk1); have HO1 := Lib.hid (Off.step hk1); clear hr1 hk1)
        | (go_at_call 61; have hb2 : Below w1.heap.size w1 (w1.alloc (.cells #[.int .i64 2, .string (str (nameIn l)), .slice none 0 0, .string ⟨#[]⟩] 36)) := (Below.refl _ _).alloc (Nat.le_refl _) _; have HR2 := Lib.hid (HR1.out.below hb2); have BT2 : Hid (Blk (w1.alloc (.cells #[.int .i64 2, .string (str (nameIn l)), .slice none 0 0, .string ⟨#[]⟩] 36)) w1.heap.size 36 #[.int .i64 2, .string (str (nameIn l)), .slice none 0 0, .string ⟨#[]⟩]) := Lib.hid (Blk.fresh _ _ _); have HNG : Hid (w1.heap.size ≠ g) := Lib.hid (by have := HO1.out.2.2.2.1; have := HGW.out; omega); have HO2 := Lib.hid (HO1.out.trans (Off.below (F := fun _ => False) hb2) fun _ h => h.elim); clear hb2; refine (blanks_any HR2.out.1).mono ?_; rintro e w3 ⟨rfl, hr3, hk3⟩; have HR3 : Hid (RdrS w3 base g (restIn l) tk p bf E text) := Lib.hid (HR2.out.step hr3 hk3); have BT3 := Lib.hid (BT2.out.keepsR hk3 HNG.out); have HO3 := Lib.hid (HO2.out.trans (Off.step hk3) fun _ h => .inl h); clear hr3 hk3)
        | (go_at_call 34; have ks := skip_any HR3.out.1 [62]; rw [HSK.out, ← HB1.out] at ks; refine ks.mono ?_; rintro e w4 ⟨rfl, hr4, hk4⟩; have HO4 := Lib.hid (HO3.out.trans (Off.step hk4) fun _ h => .inl h); have bt4 := BT3.out.keepsR hk4 HNG.out; have z0 : w4.cell? ⟨w1.heap.size, 0, none⟩ = some (.int .i64 2) := bt4.cell 0; have z1 : w4.cell? ⟨w1.heap.size, 1, none⟩ = some (.string (str (nameIn l))) := bt4.cell 1; have z2 : w4.cell? ⟨w1.heap.size, 2, none⟩ = some (.slice none 0 0) := bt4.cell 2; have z3 : w4.cell? ⟨w1.heap.size, 3, none⟩ = some (.string ⟨#[]⟩) := bt4.cell 3; clear ks hr4 hk4 bt4)
        | (go_at_call 23; have km := mayBe_any (k := 2) (name := nameIn l) (text := []) (srcA_nil w4) lensNil; rw [HMT.out] at km; refine km.mono ?_; rintro e w5 ⟨rfl, hb5⟩; have HO5 := Lib.hid (HO4.out.trans (Off.below (F := fun _ => False) hb5) fun _ h => h.elim); clear km hb5 z0 z1 z2 z3))
      go_ret
      exact ⟨by rw [HC.out]; rfl, HO5.out.wide fun k h => .inl h, fun h => by rw [HC.out] at h; cases h⟩
    | true =>
      go_enter Tryd.func38, Tryd.ntmps38
      go_wp2_with (first
        | (go_at_call 41; refine (take_in HR0.out.1).mono ?_; rintro e w1 ⟨rfl, hr1, hk1⟩; have HR1 := Lib.hid (HR0.out.step hr1 hk1); have HO1 := Lib.hid (Off.step hk1); clear hr1 hk1)
        | (go_at_call 61; have hb2 : Below w1.heap.size w1 (w1.alloc (.cells #[.int .i64 2, .string (str (nameIn l)), .slice none 0 0, .string ⟨#[]⟩] 36)) := (Below.refl _ _).alloc (Nat.le_refl _) _; have HR2 := Lib.hid (HR1.out.below hb2); have BT2 : Hid (Blk (w1.alloc (.cells #[.int .i64 2, .string (str (nameIn l)), .slice none 0 0, .string ⟨#[]⟩] 36)) w1.heap.size 36 #[.int .i64 2, .string (str (nameIn l)), .slice none 0 0, .string ⟨#[]⟩]) := Lib.hid (Blk.fresh _ _ _); have HNG : Hid (w1.heap.size ≠ g) := Lib.hid (by have := HO1.out.2.2.2.1; have := HGW.out; omega); have HO2 := Lib.hid (HO1.out.trans (Off.below (F := fun _ => False) hb2) fun _ h => h.elim); clear hb2; refine (blanks_any HR2.out.1).mono ?_; rintro e w3 ⟨rfl, hr3, hk3⟩; have HR3 : Hid (RdrS w3 base g (restIn l) tk p bf E text) := Lib.hid (HR2.out.step hr3 hk3); have BT3 := Lib.hid (BT2.out.keepsR hk3 HNG.out); have HO3 := Lib.hid (HO2.out.trans (Off.step hk3) fun _ h => .inl h); clear hr3 hk3)
        | (go_at_call 34; have ks := skip_any HR3.out.1 [62]; rw [HSK.out, ← HB1.out] at ks; refine ks.mono ?_; rintro e w4 ⟨rfl, hr4, hk4⟩; have HR4 : Hid (RdrS w4 base g ((restIn l).drop 1) tk p bf E text) := Lib.hid (HR3.out.step hr4 hk4); have HO4 := Lib.hid (HO3.out.trans (Off.step hk4) fun _ h => .inl h); have bt4 := BT3.out.keepsR hk4 HNG.out; have BT4 := Lib.hid bt4; have z0 : w4.cell? ⟨w1.heap.size, 0, none⟩ = some (.int .i64 2) := bt4.cell 0; have z1 : w4.cell? ⟨w1.heap.size, 1, none⟩ = some (.string (str (nameIn l))) := bt4.cell 1; have z2 : w4.cell? ⟨w1.heap.size, 2, none⟩ = some (.slice none 0 0) := bt4.cell 2; have z3 : w4.cell? ⟨w1.heap.size, 3, none⟩ = some (.string ⟨#[]⟩) := bt4.cell 3; clear ks hr4 hk4 bt4)
        | (go_at_call 23; have km := mayBe_any (k := 2) (name := nameIn l) (text := []) (srcA_nil w4) lensNil; rw [HMT.out] at km; refine km.mono ?_; rintro e w5 ⟨rfl, hb5⟩; have HR5 := Lib.hid (HR4.out.below hb5); have HO5 := Lib.hid (HO4.out.trans (Off.below (F := fun _ => False) hb5) fun _ h => h.elim); have bt5 := BT4.out.below hb5 BT4.out.lt; clear z0 z1 z2 z3; have y0 : w5.cell? ⟨w1.heap.size, 0, none⟩ = some (.int .i64 2) := bt5.cell 0; have y1 : w5.cell? ⟨w1.heap.size, 1, none⟩ = some (.string (str (nameIn l))) := bt5.cell 1; have y2 : w5.cell? ⟨w1.heap.size, 2, none⟩ = some (.slice none 0 0) := bt5.cell 2; have y3 : w5.cell? ⟨w1.heap.size, 3, none⟩ = some (.string ⟨#[]⟩) := bt5.cell 3; clear km hb5 bt5)
        | (go_at_call 62; have ka := add_any HR5.out HE.out (closT l) (World.ownsRow_nil _ _ _ _); refine ka.mono ?_; rintro e w6 ⟨rfl, tk', p', bf', hr6, ho6, _⟩; have HR6 := Lib.hid hr6; have HO6 := Lib.hid ((HO5.out.wide fun k h => .inl h : Off (fun k => k = g ∨ bf.ownBlock = some k ∨ tk.ownBlock = some k) w w5).trans ho6 fun _ h => .inl h); clear ka hr6 ho6 y0 y1 y2 y3))
      go_ret
      exact ⟨by rw [HC.out]; rfl, HO6.out, fun _ => ⟨tk', p', bf', HR6.out⟩⟩
end Go.Proofs.YtelhdkidnhfnbaaDoor

/-
  An opening tag as the reader takes it, in plain words. No condition; no run.
-/
namespace Go.Proofs.YtelhdkidnhfnbaaDoor
open Go.RowKit

abbrev AttrL := List (List UInt8 × List UInt8)
/-- The attributes, as the reader takes them; and what is left. -/
def opnF : Nat → List UInt8 → AttrL → Option (AttrL × List UInt8)
  | 0, _, _ => none
  | n + 1, l, L => if blk1 l = true ∧ atEndB (dropB l) = false then (if (attrX (dropB l)).1.2.2 = true then opnF n (attrX (dropB l)).2 (L ++ [((attrX (dropB l)).1.1, (attrX (dropB l)).1.2.1)]) else none) else some (L, dropB l)
theorem opnF_stop {n : Nat} {l : List UInt8} {L : AttrL} (h : blk1 l = false ∨ atEndB (dropB l) = true) : opnF (n + 1) l L = some (L, dropB l) := by
  rw [opnF, if_neg]
  rintro ⟨h1, h2⟩
  rcases h with h | h
  · rw [h1] at h; cases h
  · rw [h2] at h; cases h
theorem opnF_bad {n : Nat} {l : List UInt8} {L : AttrL} (h1 : blk1 l = true) (h2 : atEndB (dropB l) = false) (h3 : (attrX (dropB l)).1.2.2 = false) : opnF (n + 1) l L = none := by
  rw [opnF, if_pos ⟨h1, h2⟩, if_neg (by rw [h3]; exact Bool.false_ne_true)]
theorem opnF_more {n : Nat} {l : List UInt8} {L : AttrL} (h1 : blk1 l = true) (h2 : atEndB (dropB l) = false) (h3 : (attrX (dropB l)).1.2.2 = true) : opnF (n + 1) l L = opnF n (attrX (dropB l)).2 (L ++ [((attrX (dropB l)).1.1, (attrX (dropB l)).1.2.1)]) := by
  rw [opnF, if_pos ⟨h1, h2⟩, if_pos h3]
def tailX (l : List UInt8) : List UInt8 := l.dropWhile fun b => inN (b.toNat : Int)
/-- An opening tag: its attributes, whether it closes too, and what is left. -/
def opnX (l : List UInt8) : Option (AttrL × Bool × List UInt8) :=
  match opnF ((tailX l).length + 1) (tailX l) [] with
  | none => none
  | some (L, d) => if (hasB (skipD d [47]) [62] && mayTok 1 (nameIn l) L []) = true then some (L, hasB d [47], (skipD d [47]).drop 1) else none
theorem skipD_len (l m : List UInt8) : (skipD l m).length ≤ l.length := by
  unfold skipD; split
  · rw [List.length_drop]; omega
  · exact Nat.le_refl _
theorem tailX_len (l : List UInt8) : (tailX l).length ≤ l.length := (List.dropWhile_sublist _).length_le
theorem nameIn_len (l : List UInt8) : (nameIn l).length ≤ l.length := (List.takeWhile_sublist _).length_le
theorem valX_len (l : List UInt8) : (valX l).2.length ≤ l.length := by
  have q : ∀ n, (valQ n l).2.length ≤ l.length := fun n => by
    unfold valQ
    refine Nat.le_trans (skipD_len _ _) (Nat.le_trans (List.dropWhile_sublist _).length_le ?_)
    rw [List.length_drop]; omega
  unfold valX
  split
  · exact q _
  · split
    · exact q _
    · exact Nat.le_refl _
theorem attrX_yes {l : List UInt8} (h : (attrX l).1.2.2 = true) : (attrX l).2.length < l.length ∧ (attrX l).1.1 = nameIn l := by
  unfold attrX at h ⊢
  by_cases hh : hasB (restIn l) [61] = true
  · rw [if_pos hh]
    refine ⟨?_, rfl⟩
    refine Nat.lt_of_le_of_lt (valX_len _) (Nat.lt_of_le_of_lt (dropB_len _) ?_)
    have h1 := restIn_len l
    have h2 : 0 < (restIn l).length := by
      cases hr : restIn l with
      | nil => rw [hr] at hh; cases hh
      | cons a b => simp
    rw [List.length_drop]; omega
  · rw [if_neg hh] at h; cases h
end Go.Proofs.YtelhdkidnhfnbaaDoor

/-
  The library's cut and the document's find say the same; a mark behind a mark. No condition; no run.
-/
namespace Go.Proofs.YtelhdkidnhfnbaaDoor

theorem pre_take (m : List UInt8) (l : List UInt8) : m.isPrefixOf l = decide (l.take m.length = m) := by
  cases h : m.isPrefixOf l with
  | true =>
    obtain ⟨t, rfl⟩ := List.isPrefixOf_iff_prefix.1 h
    rw [decide_eq_true (by rw [List.take_left])]
  | false =>
    rw [decide_eq_false]
    intro e
    have : m.isPrefixOf l = true := List.isPrefixOf_iff_prefix.2 ⟨l.drop m.length, by conv => rhs; rw [← List.take_append_drop m.length l, e]⟩
    rw [h] at this
    cases this
theorem index_find (m : List UInt8) : ∀ l : List UInt8, Lib.index l m = findZ (findI m l)
  | [] => by
    unfold Lib.index findI
    cases m with
    | nil => rfl
    | cons b t => rfl
  | b :: l => by
    have ih := index_find m l
    unfold Lib.index findI
    rw [pre_take, ih]
    by_cases h : (b :: l).take m.length = m
    · rw [decide_eq_true h, if_pos rfl, if_pos h]
      rfl
    · rw [decide_eq_false h, if_neg Bool.false_ne_true, if_neg h]
      cases findI m l with
      | none => rfl
      | some n =>
        have hne : (findZ (some n) == -1) = false := by
          show (((n : Nat) : Int) == -1) = false
          simp
        rw [hne, if_neg Bool.false_ne_true]
        rfl
theorem cutW_find (l m : List UInt8) : cutW l m = match findI m l with
    | some n => (l.take n, l.drop (n + m.length), true)
    | none => (l, [], false) := by
  unfold cutW Lib.cut
  rw [index_find]
  cases findI m l with
  | none =>
    have h0 : ¬ (0 : Int) ≤ findZ none := by decide
    rw [if_neg h0]
  | some n =>
    have h0 : (0 : Int) ≤ findZ (some n) := Int.natCast_nonneg n
    rw [if_pos h0]
    rfl
/-- What stands behind a mark up to another: the document's upto is skip, and the library's cut. -/
theorem upto_cut (l a b : List UInt8) : uptoV l a b = if (cutW (l.drop a.length) b).2.2 = true then ((cutW (l.drop a.length) b).1, (cutW (l.drop a.length) b).2.1, true) else ([], [], false) := by
  unfold uptoV
  rw [cutW_find]
  cases findI b (l.drop a.length) with
  | none => rfl
  | some n =>
    simp only [if_true]
    rw [List.drop_drop, Nat.add_assoc]
end Go.Proofs.YtelhdkidnhfnbaaDoor
