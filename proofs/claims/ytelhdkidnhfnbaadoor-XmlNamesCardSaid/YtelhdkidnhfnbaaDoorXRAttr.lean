/-
  The document's attr: an attribute with which a text begins. Condition: at most a million bytes.
-/
import Derived.Test.YtelhdkidnhfnbaaDoorXPlain
import Derived.Test.YtelhdkidnhfnbaaDoorMgL
import Derived.Test.YtelhdkidnhfnbaaDoorERefR
import Derived.Test.YtelhdkidnhfnbaaDoorMgN
import Derived.BigQuiet
namespace Go.Proofs.YtelhdkidnhfnbaaDoor
open Go.RowKit

def attrRes (l : List UInt8) : (List UInt8 × List UInt8) × List UInt8 × Bool := match attrV l with
  | none => (([], []), [], false)
  | some (a, r) => (a, r, true)
theorem res_bad {l : List UInt8} (h : attrV l = none) : attrRes l = (([], []), [], false) := by unfold attrRes; rw [h]
theorem attrV_a {l : List UInt8} (h : (nameV l).1 = []) : attrV l = none := by unfold attrV; rw [if_pos (.inl h)]
theorem attrV_b {l : List UInt8} (h : hasB (dropB (nameV l).2) [61] = false) : attrV l = none := by unfold attrV; rw [if_pos (.inr h)]
def attrM (n : List UInt8) : List UInt8 → Option ((List UInt8 × List UInt8) × List UInt8)
  | [] => none
  | b :: t => if b ≠ 34 ∧ b ≠ 39 then none else match valW b t with
    | none => none
    | some (s, r) => some ((n, readR s), r)
theorem attrV_c {l q : List UInt8} (h0 : (nameV l).1 ≠ []) (h1 : hasB (dropB (nameV l).2) [61] = true) (hq : dropB ((dropB (nameV l).2).drop 1) = q) : attrV l = attrM (nameV l).1 q := by
  subst hq
  unfold attrV
  rw [if_neg (by rintro (h | h); exact h0 h; rw [h1] at h; cases h)]
  cases dropB ((dropB (nameV l).2).drop 1) <;> rfl
theorem attrM_c1 {n : List UInt8} {b : UInt8} {t : List UInt8} (hb : b ≠ 34 ∧ b ≠ 39) : attrM n (b :: t) = none := by rw [attrM, if_pos hb]
theorem attrM_n {n : List UInt8} {b : UInt8} {t : List UInt8} (hf : findI [b] t = none) : attrM n (b :: t) = none := by
  rw [attrM, valW, hf]
  split <;> rfl
theorem attrM_bad {n : List UInt8} {b : UInt8} {t : List UInt8} {e : Nat} (hf : findI [b] t = some e) (hin : (findI [60] (t.take e)).isSome = true) : attrM n (b :: t) = none := by
  rw [attrM, valW, hf]
  simp only
  rw [if_pos hin]
  split <;> rfl
theorem attrM_ok {n : List UInt8} {b : UInt8} {t : List UInt8} {e : Nat} (hb : b = 34 ∨ b = 39) (hf : findI [b] t = some e) (hin : (findI [60] (t.take e)).isSome = false) : attrM n (b :: t) = some ((n, readR (t.take e)), t.drop (e + 1)) := by
  rw [attrM, valW, hf]
  simp only
  rw [if_neg (by rintro ⟨h1, h2⟩; rcases hb with h | h; exact h1 h; exact h2 h), if_neg (by rw [hin]; exact Bool.false_ne_true)]
theorem res_ok {l : List UInt8} {r} (h : attrV l = some r) : attrRes l = (r.1, r.2, true) := by unfold attrRes; rw [h]
theorem rfind_q (l m : List UInt8) (w : World) (hl : l.length ≤ 1099511627776) (hm : m.length ≤ 1000) (hm1 : 1 ≤ m.length) : Calls Tryd.prog 45 #[.string (str l), .string (str m)] w fun e w' => e = .returned (.int .i64 (findZ (findI m l))) ∧ w' = w := by
  refine (rfind_any l m w hl hm hm1).mono ?_
  rintro e w' ⟨rfl, rfl⟩
  exact ⟨rfl, rfl⟩
theorem nameV_len (l : List UInt8) : (nameV l).1.length ≤ l.length ∧ (nameV l).2.length ≤ l.length := by
  rw [nameV_in]
  split
  · exact ⟨nameIn_len l, tailX_len l⟩
  · exact ⟨Nat.zero_le _, Nat.le_refl _⟩
theorem store_attr_up {ops : Array Oper} {op : Oper} {a : Act} {w : World} {K : Act → World → Prop} {Q : Exit → Act → World → Prop} {E : Prop} (hgd : op.guard = none) (x z : Operand) (ho : op.op = .store 39 x z)
    (b : Nat) (a0 a1 : Value) (s t : ByteArray) (hx : a.eval x = .pointer (some ⟨b, 0, none⟩)) (hy : a.eval z = .agg #[.string s, .string t])
    (hb : Blk w b 39 #[a0, a1])
    (hn : ∀ w', Blk w' b 39 #[.string s, .string t] → w.grownBy w' (some b) → K (a.put op.dst undef) w') : if Region.wanted op (yielded ops a.tmps) = true then Oper.wp Tryd.prog op a w K Q else E := by
  rw [if_pos (by simp [Region.wanted, hgd])]
  have ht : w.there b 0 2 := fun j hj => ⟨by
    rw [Nat.zero_add, hb.cell j]
    match j, hj with
    | 0, _ => rfl
    | 1, _ => rfl, hb.free _⟩
  refine wp_store_mid 39 x z ho b 0 #[.string s, .string t] hx hy ht attrSize (by simp [Value.oneCell']) (hn _ ?_ ?_)
  · exact (hb.set 0 (.string s)).set 1 (.string t)
  · exact ((World.grownBy.refl w (some b)).trans (grown_set _ b 0 _)).trans (grown_set _ b 1 _)
def MadeR (w : World) (l : List UInt8) (e : Ending) (w' : World) : Prop := Made w (.tuple #[.agg #[.string (str (attrRes l).1.1), .string (str (attrRes l).1.2)], .string (str (attrRes l).2.1), .bool (attrRes l).2.2]) e w'
set_option maxHeartbeats 3200000 in
set_option maxRecDepth 100000 in
theorem rattr_a (l : List UInt8) (w : World) (hl : l.length ≤ 1000000) (h0 : (nameV l).1 = []) : Calls Tryd.prog 69 #[.string (str l)] w (MadeR w l) := by
  have HX := Lib.hid (res_bad (attrV_a h0))
  have HB0 : Hid (Below w.heap.size w (w.alloc (.cells #[.string ⟨#[]⟩, .string ⟨#[]⟩] 39))) := Lib.hid ((Below.refl _ _).alloc (Nat.le_refl _) _)
  have BX : Hid (Blk (w.alloc (.cells #[.string ⟨#[]⟩, .string ⟨#[]⟩] 39)) w.heap.size 39 #[.string ⟨#[]⟩, .string ⟨#[]⟩]) := Lib.hid (Blk.fresh _ _ _)
  have HL := Lib.hid hl
  have HNL := Lib.hid (nameV_len l)
  obtain ⟨⟨n, r0⟩, hn⟩ : ∃ x, x = nameV l := ⟨_, rfl⟩
  obtain ⟨r1, hr1⟩ : ∃ r1, r1 = dropB r0 := ⟨_, rfl⟩
  have HN := Lib.hid hn
  have HR1 := Lib.hid hr1
  have HRL : Hid (r0.length ≤ l.length) := Lib.hid (by have h := HNL.out.2; rw [← hn] at h; exact h)
  have HRL1 : Hid (r1.length ≤ l.length) := Lib.hid (by have h := dropB_len r0; rw [← hr1] at h; exact Nat.le_trans h HRL.out)
  have hn0 : n = [] := by rw [← hn] at h0; exact h0
  subst hn0
  clear hn hr1 h0 hl
  go_enter Tryd.func69, Tryd.ntmps69
  go_wp2_with (first | (go_at_call 30; have kn := rname_any l (w.alloc (.cells #[.string ⟨#[]⟩, .string ⟨#[]⟩] 39)) (by have := HL.out; unfold maxLen; omega); rw [← HN.out] at kn; refine kn.mono ?_; rintro e w1 ⟨rfl, hb1⟩; have HB1 := Lib.hid (below_then HB0.out hb1); have BX1 := Lib.hid (BX.out.below hb1 BX.out.lt); clear kn hb1) | (go_at_call 49; have kb := rblanks_any r0 w1 (by have := HL.out; have := HRL.out; omega); rw [← HR1.out] at kb; refine kb.mono ?_; rintro e wb ⟨rfl, rfl⟩; clear kb; have HM1 : Hid True := Lib.hid trivial) | ((with_reducible refine wpList_store_attr rfl (.tmp 2) (.tmp 22) rfl w.heap.size _ _ ⟨#[]⟩ ⟨#[]⟩ rfl rfl BX1.out ?_); intro w9 hb9 hg9; have HB9 : Hid (Below w.heap.size w w9) := Lib.hid (below_more HB1.out hg9 (Nat.le_refl _)); have y0 : w9.cell? ⟨w.heap.size, 0, none⟩ = some (.string ⟨#[]⟩) := hb9.cell 0; have y1 : w9.cell? ⟨w.heap.size, 1, none⟩ = some (.string ⟨#[]⟩) := hb9.cell 1; clear hb9 hg9))
  refine bodyPost_ret (v := .tuple #[.agg #[.string ⟨#[]⟩, .string ⟨#[]⟩], .string ⟨#[]⟩, .bool false]) (by simp [results, Tryd.results69, go_sem, y0, y1]) rfl ?_
  exact ⟨by rw [HX.out]; rfl, HB9.out⟩
set_option maxHeartbeats 3200000 in
set_option maxRecDepth 100000 in
theorem rattr_b (l : List UInt8) (w : World) (hl : l.length ≤ 1000000) (h0 : (nameV l).1 ≠ []) (h1 : hasB (dropB (nameV l).2) [61] = false) : Calls Tryd.prog 69 #[.string (str l)] w (MadeR w l) := by
  have HX := Lib.hid (res_bad (attrV_b h1))
  have HB0 : Hid (Below w.heap.size w (w.alloc (.cells #[.string ⟨#[]⟩, .string ⟨#[]⟩] 39))) := Lib.hid ((Below.refl _ _).alloc (Nat.le_refl _) _)
  have BX : Hid (Blk (w.alloc (.cells #[.string ⟨#[]⟩, .string ⟨#[]⟩] 39)) w.heap.size 39 #[.string ⟨#[]⟩, .string ⟨#[]⟩]) := Lib.hid (Blk.fresh _ _ _)
  have HL := Lib.hid hl
  have HNL := Lib.hid (nameV_len l)
  obtain ⟨⟨n, r0⟩, hn⟩ : ∃ x, x = nameV l := ⟨_, rfl⟩
  obtain ⟨r1, hr1⟩ : ∃ r1, r1 = dropB r0 := ⟨_, rfl⟩
  have HN := Lib.hid hn
  have HR1 := Lib.hid hr1
  have HRL : Hid (r0.length ≤ l.length) := Lib.hid (by have h := HNL.out.2; rw [← hn] at h; exact h)
  have HRL1 : Hid (r1.length ≤ l.length) := Lib.hid (by have h := dropB_len r0; rw [← hr1] at h; exact Nat.le_trans h HRL.out)
  have hn0 : n ≠ [] := by rw [← hn] at h0; exact h0
  have e1 : (n == ([] : List UInt8)) = false := by simpa using hn0
  have HH : Hid (false = hasB r1 [61]) := Lib.hid (by rw [← hn] at h1; rw [hr1]; exact h1.symm)
  clear hn hr1 h0 h1 hl hn0
  go_enter Tryd.func69, Tryd.ntmps69
  go_wp2_with (first | (go_at_call 30; have kn := rname_any l (w.alloc (.cells #[.string ⟨#[]⟩, .string ⟨#[]⟩] 39)) (by have := HL.out; unfold maxLen; omega); rw [← HN.out] at kn; refine kn.mono ?_; rintro e w1 ⟨rfl, hb1⟩; have HB1 := Lib.hid (below_then HB0.out hb1); have BX1 := Lib.hid (BX.out.below hb1 BX.out.lt); clear kn hb1) | (go_at_call 49; have kb := rblanks_any r0 w1 (by have := HL.out; have := HRL.out; omega); rw [← HR1.out] at kb; refine kb.mono ?_; rintro e wb ⟨rfl, rfl⟩; clear kb; have HM1 : Hid True := Lib.hid trivial) | (go_at_call 47; have kh := rhas_any r1 [61] w1; rw [← HH.out] at kh; refine kh.mono ?_; rintro e wh ⟨rfl, rfl⟩; clear kh) | ((with_reducible refine wpList_store_attr rfl (.tmp 2) (.tmp 22) rfl w.heap.size _ _ ⟨#[]⟩ ⟨#[]⟩ rfl rfl BX1.out ?_); intro w9 hb9 hg9; have HB9 : Hid (Below w.heap.size w w9) := Lib.hid (below_more HB1.out hg9 (Nat.le_refl _)); have y0 : w9.cell? ⟨w.heap.size, 0, none⟩ = some (.string ⟨#[]⟩) := hb9.cell 0; have y1 : w9.cell? ⟨w.heap.size, 1, none⟩ = some (.string ⟨#[]⟩) := hb9.cell 1; clear hb9 hg9))
  refine bodyPost_ret (v := .tuple #[.agg #[.string ⟨#[]⟩, .string ⟨#[]⟩], .string ⟨#[]⟩, .bool false]) (by simp [results, Tryd.results69, go_sem, y0, y1]) rfl ?_
  exact ⟨by rw [HX.out]; rfl, HB9.out⟩
set_option maxHeartbeats 6400000 in
set_option maxRecDepth 100000 in
theorem rattr_c0 (l : List UInt8) (w : World) (hl : l.length ≤ 1000000) (h0 : (nameV l).1 ≠ []) (h1 : hasB (dropB (nameV l).2) [61] = true) (hq : dropB ((dropB (nameV l).2).drop 1) = []) : Calls Tryd.prog 69 #[.string (str l)] w (MadeR w l) := by
  have HX := Lib.hid (res_bad (attrV_c h0 h1 hq))
  have HB0 : Hid (Below w.heap.size w (w.alloc (.cells #[.string ⟨#[]⟩, .string ⟨#[]⟩] 39))) := Lib.hid ((Below.refl _ _).alloc (Nat.le_refl _) _)
  have BX : Hid (Blk (w.alloc (.cells #[.string ⟨#[]⟩, .string ⟨#[]⟩] 39)) w.heap.size 39 #[.string ⟨#[]⟩, .string ⟨#[]⟩]) := Lib.hid (Blk.fresh _ _ _)
  have HL := Lib.hid hl
  have HNL := Lib.hid (nameV_len l)
  obtain ⟨⟨n, r0⟩, hn⟩ : ∃ x, x = nameV l := ⟨_, rfl⟩
  obtain ⟨r1, hr1⟩ : ∃ r1, r1 = dropB r0 := ⟨_, rfl⟩
  have HN := Lib.hid hn
  have HR1 := Lib.hid hr1
  have HRL : Hid (r0.length ≤ l.length) := Lib.hid (by have h := HNL.out.2; rw [← hn] at h; exact h)
  have HRL1 : Hid (r1.length ≤ l.length) := Lib.hid (by have h := dropB_len r0; rw [← hr1] at h; exact Nat.le_trans h HRL.out)
  have hn0 : n ≠ [] := by rw [← hn] at h0; exact h0
  have e1 : (n == ([] : List UInt8)) = false := by simpa using hn0
  have HH : Hid (true = hasB r1 [61]) := Lib.hid (by rw [← hn] at h1; rw [hr1]; exact h1.symm)
  have s0 : ∀ W, (Instr.slice 9 (.string (str r1)) (some (.int .i64 1)) none none).run Tryd.prog W = .ok (.string (str (r1.drop 1))) W := fun W => slt r1 1 (by have h := HH.out; cases r1 with | nil => cases h | cons a b => simp) W
  obtain ⟨r2, hr2⟩ : ∃ r2, r2 = r1.drop 1 := ⟨_, rfl⟩
  rw [← hr2] at s0
  have HR2 := Lib.hid hr2
  have HQ : Hid (dropB r2 = []) := Lib.hid (by rw [← hn] at hq; rw [hr2, hr1]; exact hq)
  clear hn hr1 h0 h1 hl hn0 hr2 hq
  go_enter Tryd.func69, Tryd.ntmps69
  go_wp2_with (first | ((with_reducible refine wpList_store_attr rfl (.tmp 2) (.tmp 39) rfl w.heap.size _ _ ⟨#[]⟩ ⟨#[]⟩ rfl rfl BX1.out ?_); intro w9 hb9 hg9; have HB9 : Hid (Below w.heap.size w w9) := Lib.hid (below_more HB1.out hg9 (Nat.le_refl _)); have y0 : w9.cell? ⟨w.heap.size, 0, none⟩ = some (.string ⟨#[]⟩) := hb9.cell 0; have y1 : w9.cell? ⟨w.heap.size, 1, none⟩ = some (.string ⟨#[]⟩) := hb9.cell 1; clear hb9 hg9) | (go_at_call 30; have kn := rname_any l (w.alloc (.cells #[.string ⟨#[]⟩, .string ⟨#[]⟩] 39)) (by have := HL.out; unfold maxLen; omega); rw [← HN.out] at kn; refine kn.mono ?_; rintro e w1 ⟨rfl, hb1⟩; have HB1 := Lib.hid (below_then HB0.out hb1); have BX1 := Lib.hid (BX.out.below hb1 BX.out.lt); clear kn hb1) | (go_at_call 47; have kh := rhas_any r1 [61] w1; rw [← HH.out] at kh; refine kh.mono ?_; rintro e wh ⟨rfl, rfl⟩; clear kh) | (go_at_call 49; have hm1 := HM1.out; clear hm1; have kb := rblanks_any r2 w1 (by have := HL.out; have := HRL1.out; rw [HR2.out, List.length_drop]; omega); rw [HQ.out] at kb; refine kb.mono ?_; rintro e wc ⟨rfl, rfl⟩; clear kb) | (go_at_call 49; have kb := rblanks_any r0 w1 (by have := HL.out; have := HRL.out; omega); rw [← HR1.out] at kb; refine kb.mono ?_; rintro e wb ⟨rfl, rfl⟩; clear kb; have HM1 : Hid True := Lib.hid trivial))
  refine bodyPost_ret (v := .tuple #[.agg #[.string ⟨#[]⟩, .string ⟨#[]⟩], .string ⟨#[]⟩, .bool false]) (by simp [results, Tryd.results69, go_sem, y0, y1]) rfl ?_
  exact ⟨by rw [HX.out]; rfl, HB9.out⟩
set_option maxHeartbeats 6400000 in
set_option maxRecDepth 100000 in
theorem rattr_c1 (l : List UInt8) (w : World) (hl : l.length ≤ 1000000) (h0 : (nameV l).1 ≠ []) (h1 : hasB (dropB (nameV l).2) [61] = true) (b : UInt8) (t : List UInt8) (hq : dropB ((dropB (nameV l).2).drop 1) = b :: t) (hb : b ≠ 34 ∧ b ≠ 39) : Calls Tryd.prog 69 #[.string (str l)] w (MadeR w l) := by
  have HX := Lib.hid (res_bad ((attrV_c h0 h1 hq).trans (attrM_c1 hb)))
  have HB0 : Hid (Below w.heap.size w (w.alloc (.cells #[.string ⟨#[]⟩, .string ⟨#[]⟩] 39))) := Lib.hid ((Below.refl _ _).alloc (Nat.le_refl _) _)
  have BX : Hid (Blk (w.alloc (.cells #[.string ⟨#[]⟩, .string ⟨#[]⟩] 39)) w.heap.size 39 #[.string ⟨#[]⟩, .string ⟨#[]⟩]) := Lib.hid (Blk.fresh _ _ _)
  have HL := Lib.hid hl
  have HNL := Lib.hid (nameV_len l)
  obtain ⟨⟨n, r0⟩, hn⟩ : ∃ x, x = nameV l := ⟨_, rfl⟩
  obtain ⟨r1, hr1⟩ : ∃ r1, r1 = dropB r0 := ⟨_, rfl⟩
  have HN := Lib.hid hn
  have HR1 := Lib.hid hr1
  have HRL : Hid (r0.length ≤ l.length) := Lib.hid (by have h := HNL.out.2; rw [← hn] at h; exact h)
  have HRL1 : Hid (r1.length ≤ l.length) := Lib.hid (by have h := dropB_len r0; rw [← hr1] at h; exact Nat.le_trans h HRL.out)
  have hn0 : n ≠ [] := by rw [← hn] at h0; exact h0
  have e1 : (n == ([] : List UInt8)) = false := by simpa using hn0
  have HH : Hid (true = hasB r1 [61]) := Lib.hid (by rw [← hn] at h1; rw [hr1]; exact h1.symm)
  have s0 : ∀ W, (Instr.slice 9 (.string (str r1)) (some (.int .i64 1)) none none).run Tryd.prog W = .ok (.string (str (r1.drop 1))) W := fun W => slt r1 1 (by have h := HH.out; cases r1 with | nil => cases h | cons a b => simp) W
  obtain ⟨r2, hr2⟩ : ∃ r2, r2 = r1.drop 1 := ⟨_, rfl⟩
  rw [← hr2] at s0
  have HR2 := Lib.hid hr2
  have HQ : Hid (dropB r2 = b :: t) := Lib.hid (by rw [← hn] at hq; rw [hr2, hr1]; exact hq)
  have ix : ∀ W, (Instr.index 9 (.string (str (b :: t))) (.int .i64 0)).run Tryd.prog W = .ok (.int .u8 (b.toNat : Int)) W := fun W => by
    have h := idx_at (b :: t) 0 (by simp) W
    rw [show at0B (b :: t) 0 = b.toNat from rfl] at h
    exact h
  have h34 : ((b.toNat : Int) == 34) = false := by
    have : b.toNat ≠ 34 := fun e => hb.1 (UInt8.toNat_inj.1 e)
    simpa using (by omega : (b.toNat : Int) ≠ 34)
  have h34n : ¬ (b.toNat : Int) = 34 := by simpa using h34
  have h34d : decide ((b.toNat : Int) = 34) = false := decide_eq_false h34n
  have h39 : ((b.toNat : Int) == 39) = false := by
    have : b.toNat ≠ 39 := fun e => hb.2 (UInt8.toNat_inj.1 e)
    simpa using (by omega : (b.toNat : Int) ≠ 39)
  have h39n : ¬ (b.toNat : Int) = 39 := by simpa using h39
  have h39d : decide ((b.toNat : Int) = 39) = false := decide_eq_false h39n
  have hlz : (((b :: t).length : Int) == 0) = false := by simp; omega
  generalize (b.toNat : Int) = x at *
  obtain ⟨q, hqq⟩ : ∃ q, q = b :: t := ⟨_, rfl⟩
  rw [← hqq] at ix hlz
  have HQ2 : Hid (dropB r2 = q) := Lib.hid (by rw [HQ.out, hqq])
  clear hn hr1 h0 h1 hl hn0 hr2 hq hqq hb HQ
  go_enter Tryd.func69, Tryd.ntmps69
  go_wp2_with (first | ((with_reducible refine wpList_store_attr rfl (.tmp 2) (.tmp 39) rfl w.heap.size _ _ ⟨#[]⟩ ⟨#[]⟩ rfl rfl BX1.out ?_); intro w9 hb9 hg9; have HB9 : Hid (Below w.heap.size w w9) := Lib.hid (below_more HB1.out hg9 (Nat.le_refl _)); have y0 : w9.cell? ⟨w.heap.size, 0, none⟩ = some (.string ⟨#[]⟩) := hb9.cell 0; have y1 : w9.cell? ⟨w.heap.size, 1, none⟩ = some (.string ⟨#[]⟩) := hb9.cell 1; clear hb9 hg9) | (go_at_call 30; have kn := rname_any l (w.alloc (.cells #[.string ⟨#[]⟩, .string ⟨#[]⟩] 39)) (by have := HL.out; unfold maxLen; omega); rw [← HN.out] at kn; refine kn.mono ?_; rintro e w1 ⟨rfl, hb1⟩; have HB1 := Lib.hid (below_then HB0.out hb1); have BX1 := Lib.hid (BX.out.below hb1 BX.out.lt); clear kn hb1) | (go_at_call 47; have kh := rhas_any r1 [61] w1; rw [← HH.out] at kh; refine kh.mono ?_; rintro e wh ⟨rfl, rfl⟩; clear kh) | (go_at_call 49; have hm1 := HM1.out; clear hm1; have kb := rblanks_any r2 w1 (by have := HL.out; have := HRL1.out; rw [HR2.out, List.length_drop]; omega); rw [HQ2.out] at kb; refine kb.mono ?_; rintro e wc ⟨rfl, rfl⟩; clear kb) | (go_at_call 49; have kb := rblanks_any r0 w1 (by have := HL.out; have := HRL.out; omega); rw [← HR1.out] at kb; refine kb.mono ?_; rintro e wb ⟨rfl, rfl⟩; clear kb; have HM1 : Hid True := Lib.hid trivial))
  refine bodyPost_ret (v := .tuple #[.agg #[.string ⟨#[]⟩, .string ⟨#[]⟩], .string ⟨#[]⟩, .bool false]) (by simp [results, Tryd.results69, go_sem, y0, y1]) rfl ?_
  exact ⟨by rw [HX.out]; rfl, HB9.out⟩
set_option maxHeartbeats 6400000 in
set_option maxRecDepth 100000 in
theorem rattr_34n (l : List UInt8) (w : World) (hl : l.length ≤ 1000000) (h0 : (nameV l).1 ≠ []) (h1 : hasB (dropB (nameV l).2) [61] = true) (t : List UInt8) (hq : dropB ((dropB (nameV l).2).drop 1) = 34 :: t) (hf : findI [34] t = none) : Calls Tryd.prog 69 #[.string (str l)] w (MadeR w l) := by
  have HX := Lib.hid (res_bad ((attrV_c h0 h1 hq).trans (attrM_n hf)))
  have HB0 : Hid (Below w.heap.size w (w.alloc (.cells #[.string ⟨#[]⟩, .string ⟨#[]⟩] 39))) := Lib.hid ((Below.refl _ _).alloc (Nat.le_refl _) _)
  have BX : Hid (Blk (w.alloc (.cells #[.string ⟨#[]⟩, .string ⟨#[]⟩] 39)) w.heap.size 39 #[.string ⟨#[]⟩, .string ⟨#[]⟩]) := Lib.hid (Blk.fresh _ _ _)
  have HL := Lib.hid hl
  have HNL := Lib.hid (nameV_len l)
  obtain ⟨⟨n, r0⟩, hn⟩ : ∃ x, x = nameV l := ⟨_, rfl⟩
  obtain ⟨r1, hr1⟩ : ∃ r1, r1 = dropB r0 := ⟨_, rfl⟩
  have HN := Lib.hid hn
  have HR1 := Lib.hid hr1
  have HRL : Hid (r0.length ≤ l.length) := Lib.hid (by have h := HNL.out.2; rw [← hn] at h; exact h)
  have HRL1 : Hid (r1.length ≤ l.length) := Lib.hid (by have h := dropB_len r0; rw [← hr1] at h; exact Nat.le_trans h HRL.out)
  have hn0 : n ≠ [] := by rw [← hn] at h0; exact h0
  have e1 : (n == ([] : List UInt8)) = false := by simpa using hn0
  have HH : Hid (true = hasB r1 [61]) := Lib.hid (by rw [← hn] at h1; rw [hr1]; exact h1.symm)
  have s0 : ∀ W, (Instr.slice 9 (.string (str r1)) (some (.int .i64 1)) none none).run Tryd.prog W = .ok (.string (str (r1.drop 1))) W := fun W => slt r1 1 (by have h := HH.out; cases r1 with | nil => cases h | cons a b => simp) W
  obtain ⟨r2, hr2⟩ : ∃ r2, r2 = r1.drop 1 := ⟨_, rfl⟩
  rw [← hr2] at s0
  have HR2 := Lib.hid hr2
  have HQ : Hid (dropB r2 = 34 :: t) := Lib.hid (by rw [← hn] at hq; rw [hr2, hr1]; exact hq)
  have ix : ∀ W, (Instr.index 9 (.string (str (34 :: t))) (.int .i64 0)).run Tryd.prog W = .ok (.int .u8 34) W := fun W => idx_at (34 :: t) 0 (by simp) W
  have hlz : (((34 :: t : List UInt8).length : Int) == 0) = false := by simp; omega
  have s1 : ∀ W, (Instr.slice 9 (.string (str (34 :: t))) (some (.int .i64 1)) none none).run Tryd.prog W = .ok (.string (str t)) W := fun W => slt (34 :: t) 1 (by simp) W
  have s2 : ∀ W, (Instr.slice 9 (.string (str (34 :: t))) none (some (.int .i64 1)) none).run Tryd.prog W = .ok (.string (str [34])) W := fun W => slf (34 :: t) 1 (by simp) W
  have HTL : Hid (t.length + 1 ≤ l.length) := Lib.hid (by have h := dropB_len r2; rw [HQ.out, List.length_cons] at h; have h2 := HRL1.out; rw [hr2, List.length_drop] at h; omega)
  have KF : Hid (∀ W, Calls Tryd.prog 45 #[.string (str t), .string (str [34])] W fun e w' => e = .returned (.int .i64 (-1)) ∧ w' = W) := Lib.hid fun W => by have h := rfind_q t [34] W (by have := HTL.out; have := HL.out; omega) (by simp) (by simp); rw [hf] at h; exact h
  obtain ⟨q, hqq⟩ : ∃ q, q = 34 :: t := ⟨_, rfl⟩
  rw [← hqq] at ix hlz s1 s2
  have HQ2 : Hid (dropB r2 = q) := Lib.hid (by rw [HQ.out, hqq])
  clear hn hr1 h0 h1 hl hn0 hr2 hq hqq hf HQ
  go_enter Tryd.func69, Tryd.ntmps69
  go_wp2_with (first | (go_at_call 30; have kn := rname_any l (w.alloc (.cells #[.string ⟨#[]⟩, .string ⟨#[]⟩] 39)) (by have := HL.out; unfold maxLen; omega); rw [← HN.out] at kn; refine kn.mono ?_; rintro e w1 ⟨rfl, hb1⟩; have HB1 := Lib.hid (below_then HB0.out hb1); have BX1 := Lib.hid (BX.out.below hb1 BX.out.lt); clear kn hb1) | (go_at_call 47; have kh := rhas_any r1 [61] w1; rw [← HH.out] at kh; refine kh.mono ?_; rintro e wh ⟨rfl, rfl⟩; clear kh) | (go_at_call 49; have hm1 := HM1.out; clear hm1; have kb := rblanks_any r2 w1 (by have := HL.out; have := HRL1.out; rw [HR2.out, List.length_drop]; omega); rw [HQ2.out] at kb; refine kb.mono ?_; rintro e wc ⟨rfl, rfl⟩; clear kb) | (go_at_call 49; have kb := rblanks_any r0 w1 (by have := HL.out; have := HRL.out; omega); rw [← HR1.out] at kb; refine kb.mono ?_; rintro e wb ⟨rfl, rfl⟩; clear kb; have HM1 : Hid True := Lib.hid trivial))
  go_quiet ((go_at_call 45; exact Calls.quiet_of_same (KF.out _)))
  have HBq : Hid (Below w.heap.size w (w1.drewN nq)) := Lib.hid (below_drewN HB1.out nq)
  have hbxq : Below w1.heap.size w1 (w1.drewN nq) := below_drewN (Below.refl _ _) nq
  have BXq := Lib.hid (BX1.out.below hbxq BX1.out.lt)
  clear hbxq
  go_wp2_with (((with_reducible refine wpList_store_attr rfl (.tmp 2) (.tmp 55) rfl w.heap.size _ _ ⟨#[]⟩ ⟨#[]⟩ rfl rfl BXq.out ?_); intro w9 hb9 hg9; have HB9 : Hid (Below w.heap.size w w9) := Lib.hid (below_more HBq.out hg9 (Nat.le_refl _)); have y0 : w9.cell? ⟨w.heap.size, 0, none⟩ = some (.string ⟨#[]⟩) := hb9.cell 0; have y1 : w9.cell? ⟨w.heap.size, 1, none⟩ = some (.string ⟨#[]⟩) := hb9.cell 1; clear hb9 hg9))
  refine bodyPost_ret (v := .tuple #[.agg #[.string ⟨#[]⟩, .string ⟨#[]⟩], .string ⟨#[]⟩, .bool false]) (by simp [results, Tryd.results69, go_sem, y0, y1]) rfl ?_
  exact ⟨by rw [HX.out]; rfl, HB9.out⟩
set_option maxHeartbeats 6400000 in
set_option maxRecDepth 100000 in
theorem rattr_34bad (l : List UInt8) (w : World) (hl : l.length ≤ 1000000) (h0 : (nameV l).1 ≠ []) (h1 : hasB (dropB (nameV l).2) [61] = true) (t : List UInt8) (hq : dropB ((dropB (nameV l).2).drop 1) = 34 :: t) (e : Nat) (hf : findI [34] t = some e) (hin : (findI [60] (t.take e)).isSome = true) : Calls Tryd.prog 69 #[.string (str l)] w (MadeR w l) := by
  have HX := Lib.hid (res_bad ((attrV_c h0 h1 hq).trans (attrM_bad hf hin)))
  have HB0 : Hid (Below w.heap.size w (w.alloc (.cells #[.string ⟨#[]⟩, .string ⟨#[]⟩] 39))) := Lib.hid ((Below.refl _ _).alloc (Nat.le_refl _) _)
  have BX : Hid (Blk (w.alloc (.cells #[.string ⟨#[]⟩, .string ⟨#[]⟩] 39)) w.heap.size 39 #[.string ⟨#[]⟩, .string ⟨#[]⟩]) := Lib.hid (Blk.fresh _ _ _)
  have HL := Lib.hid hl
  have HNL := Lib.hid (nameV_len l)
  obtain ⟨⟨n, r0⟩, hn⟩ : ∃ x, x = nameV l := ⟨_, rfl⟩
  obtain ⟨r1, hr1⟩ : ∃ r1, r1 = dropB r0 := ⟨_, rfl⟩
  have HN := Lib.hid hn
  have HR1 := Lib.hid hr1
  have HRL : Hid (r0.length ≤ l.length) := Lib.hid (by have h := HNL.out.2; rw [← hn] at h; exact h)
  have HRL1 : Hid (r1.length ≤ l.length) := Lib.hid (by have h := dropB_len r0; rw [← hr1] at h; exact Nat.le_trans h HRL.out)
  have hn0 : n ≠ [] := by rw [← hn] at h0; exact h0
  have e1 : (n == ([] : List UInt8)) = false := by simpa using hn0
  have HH : Hid (true = hasB r1 [61]) := Lib.hid (by rw [← hn] at h1; rw [hr1]; exact h1.symm)
  have s0 : ∀ W, (Instr.slice 9 (.string (str r1)) (some (.int .i64 1)) none none).run Tryd.prog W = .ok (.string (str (r1.drop 1))) W := fun W => slt r1 1 (by have h := HH.out; cases r1 with | nil => cases h | cons a b => simp) W
  obtain ⟨r2, hr2⟩ : ∃ r2, r2 = r1.drop 1 := ⟨_, rfl⟩
  rw [← hr2] at s0
  have HR2 := Lib.hid hr2
  have HQ : Hid (dropB r2 = 34 :: t) := Lib.hid (by rw [← hn] at hq; rw [hr2, hr1]; exact hq)
  have ix : ∀ W, (Instr.index 9 (.string (str (34 :: t))) (.int .i64 0)).run Tryd.prog W = .ok (.int .u8 34) W := fun W => idx_at (34 :: t) 0 (by simp) W
  have hlz : (((34 :: t : List UInt8).length : Int) == 0) = false := by simp; omega
  have s1 : ∀ W, (Instr.slice 9 (.string (str (34 :: t))) (some (.int .i64 1)) none none).run Tryd.prog W = .ok (.string (str t)) W := fun W => slt (34 :: t) 1 (by simp) W
  have s2 : ∀ W, (Instr.slice 9 (.string (str (34 :: t))) none (some (.int .i64 1)) none).run Tryd.prog W = .ok (.string (str [34])) W := fun W => slf (34 :: t) 1 (by simp) W
  have HTL : Hid (t.length + 1 ≤ l.length) := Lib.hid (by have h := dropB_len r2; rw [HQ.out, List.length_cons] at h; have h2 := HRL1.out; rw [hr2, List.length_drop] at h; omega)
  have hel : e < t.length := by have h := findI_le t e hf; simp at h; omega
  have heI : (e : Int) ≤ 1000000 := by have := HTL.out; have := HL.out; omega
  have he0 : (0 : Int) ≤ (e : Int) := by omega
  have hw1 : IntKind.i64.wrap (1 + (e : Int)) = 1 + (e : Int) := IntWalk.i64_in _ (by omega)
  have hw2 : IntKind.i64.wrap (2 + (e : Int)) = 2 + (e : Int) := IntWalk.i64_in _ (by omega)
  have s3 : ∀ W, (Instr.slice 9 (.string (str (34 :: t))) (some (.int .i64 1)) (some (.int .i64 (1 + (e : Int)))) none).run Tryd.prog W = .ok (.string (str (t.take e))) W := fun W => by
    have h := slc (34 :: t) 1 (1 + e) (by omega) (by simp; omega) W
    rw [show ((1 + e : Nat) : Int) = 1 + (e : Int) from by omega, show 1 + e - 1 = e by omega] at h
    exact h
  have s4 : ∀ W, (Instr.slice 9 (.string (str (34 :: t))) (some (.int .i64 (2 + (e : Int)))) none none).run Tryd.prog W = .ok (.string (str (t.drop (e + 1)))) W := fun W => by
    have h := slt (34 :: t) (2 + e) (by simp; omega) W
    rw [show ((2 + e : Nat) : Int) = 2 + (e : Int) from by omega, show 2 + e = (e + 1) + 1 by omega, List.drop_succ_cons] at h
    exact h
  obtain ⟨tt, htt⟩ : ∃ tt, tt = t.take e := ⟨_, rfl⟩
  obtain ⟨td, htd⟩ : ∃ td, td = t.drop (e + 1) := ⟨_, rfl⟩
  rw [← htt] at s3 hin
  rw [← htd] at s4
  have HTT := Lib.hid htt
  have HTD := Lib.hid htd
  have HTTL : Hid (tt.length ≤ l.length) := Lib.hid (by rw [htt, List.length_take]; have := HTL.out; omega)
  have KF : Hid (∀ W, Calls Tryd.prog 45 #[.string (str t), .string (str [34])] W fun e1 w' => e1 = .returned (.int .i64 (e : Int)) ∧ w' = W) := Lib.hid fun W => by have h := rfind_q t [34] W (by have := HTL.out; have := HL.out; omega) (by simp) (by simp); rw [hf] at h; exact h
  obtain ⟨k, hk⟩ : ∃ k : Nat, findI [60] tt = some k := by
    cases hz : findI [60] tt with
    | none => rw [hz] at hin; cases hin
    | some k => exact ⟨k, rfl⟩
  have KG : Hid (∀ W, Calls Tryd.prog 45 #[.string (str tt), .string (str [60])] W (Pure W (.int .i64 (k : Int)))) := Lib.hid fun W => by have h := rfind_any tt [60] W (by have := HTTL.out; have := HL.out; omega) (by simp) (by simp); rw [hk] at h; exact h
  have hk0 : (0 : Int) ≤ (k : Int) := by omega
  obtain ⟨q, hqq⟩ : ∃ q, q = 34 :: t := ⟨_, rfl⟩
  rw [← hqq] at ix hlz s1 s2 s3 s4
  have HQ2 : Hid (dropB r2 = q) := Lib.hid (by rw [HQ.out, hqq])
  clear hn hr1 h0 h1 hl hn0 hr2 hq hqq hf HQ hin hk htt htd hel
  go_enter Tryd.func69, Tryd.ntmps69
  go_wp2_with (first | (go_at_call 30; have kn := rname_any l (w.alloc (.cells #[.string ⟨#[]⟩, .string ⟨#[]⟩] 39)) (by have := HL.out; unfold maxLen; omega); rw [← HN.out] at kn; refine kn.mono ?_; rintro e w1 ⟨rfl, hb1⟩; have HB1 := Lib.hid (below_then HB0.out hb1); have BX1 := Lib.hid (BX.out.below hb1 BX.out.lt); clear kn hb1) | (go_at_call 47; have kh := rhas_any r1 [61] w1; rw [← HH.out] at kh; refine kh.mono ?_; rintro e wh ⟨rfl, rfl⟩; clear kh) | (go_at_call 49; have hm1 := HM1.out; clear hm1; have kb := rblanks_any r2 w1 (by have := HL.out; have := HRL1.out; rw [HR2.out, List.length_drop]; omega); rw [HQ2.out] at kb; refine kb.mono ?_; rintro e wc ⟨rfl, rfl⟩; clear kb) | (go_at_call 49; have kb := rblanks_any r0 w1 (by have := HL.out; have := HRL.out; omega); rw [← HR1.out] at kb; refine kb.mono ?_; rintro e wb ⟨rfl, rfl⟩; clear kb; have HM1 : Hid True := Lib.hid trivial))
  go_quiet ((go_at_call 45; exact Calls.quiet_of_same (KF.out _)))
  have HBq : Hid (Below w.heap.size w (w1.drewN nq)) := Lib.hid (below_drewN HB1.out nq)
  have hbxq : Below w1.heap.size w1 (w1.drewN nq) := below_drewN (Below.refl _ _) nq
  have BXq := Lib.hid (BX1.out.below hbxq BX1.out.lt)
  clear hbxq
  go_wp2_with (first | (go_at_call 45; refine (KG.out _).mono ?_; rintro e1 wg ⟨rfl, rfl⟩) | ((with_reducible refine wpList_store_attr rfl (.tmp 2) (.tmp 55) rfl w.heap.size _ _ ⟨#[]⟩ ⟨#[]⟩ rfl rfl BXq.out ?_); intro w9 hb9 hg9; have HB9 : Hid (Below w.heap.size w w9) := Lib.hid (below_more HBq.out hg9 (Nat.le_refl _)); have y0 : w9.cell? ⟨w.heap.size, 0, none⟩ = some (.string ⟨#[]⟩) := hb9.cell 0; have y1 : w9.cell? ⟨w.heap.size, 1, none⟩ = some (.string ⟨#[]⟩) := hb9.cell 1; clear hb9 hg9))
  refine bodyPost_ret (v := .tuple #[.agg #[.string ⟨#[]⟩, .string ⟨#[]⟩], .string ⟨#[]⟩, .bool false]) (by simp [results, Tryd.results69, go_sem, y0, y1]) rfl ?_
  exact ⟨by rw [HX.out]; rfl, HB9.out⟩
set_option maxHeartbeats 6400000 in
set_option maxRecDepth 100000 in
theorem rattr_34ok (l : List UInt8) (w : World) (hl : l.length ≤ 1000000) (h0 : (nameV l).1 ≠ []) (h1 : hasB (dropB (nameV l).2) [61] = true) (t : List UInt8) (hq : dropB ((dropB (nameV l).2).drop 1) = 34 :: t) (e : Nat) (hf : findI [34] t = some e) (hin : (findI [60] (t.take e)).isSome = false) : Calls Tryd.prog 69 #[.string (str l)] w (MadeR w l) := by
  have HX : Hid (attrRes l = (((nameV l).1, readR (t.take e)), t.drop (e + 1), true)) := Lib.hid (res_ok ((attrV_c h0 h1 hq).trans (attrM_ok (by decide) hf hin)))
  have HB0 : Hid (Below w.heap.size w (w.alloc (.cells #[.string ⟨#[]⟩, .string ⟨#[]⟩] 39))) := Lib.hid ((Below.refl _ _).alloc (Nat.le_refl _) _)
  have BX : Hid (Blk (w.alloc (.cells #[.string ⟨#[]⟩, .string ⟨#[]⟩] 39)) w.heap.size 39 #[.string ⟨#[]⟩, .string ⟨#[]⟩]) := Lib.hid (Blk.fresh _ _ _)
  have HL := Lib.hid hl
  have HNL := Lib.hid (nameV_len l)
  obtain ⟨⟨n, r0⟩, hn⟩ : ∃ x, x = nameV l := ⟨_, rfl⟩
  obtain ⟨r1, hr1⟩ : ∃ r1, r1 = dropB r0 := ⟨_, rfl⟩
  have HN := Lib.hid hn
  have HR1 := Lib.hid hr1
  have HRL : Hid (r0.length ≤ l.length) := Lib.hid (by have h := HNL.out.2; rw [← hn] at h; exact h)
  have HRL1 : Hid (r1.length ≤ l.length) := Lib.hid (by have h := dropB_len r0; rw [← hr1] at h; exact Nat.le_trans h HRL.out)
  have hn0 : n ≠ [] := by rw [← hn] at h0; exact h0
  have e1 : (n == ([] : List UInt8)) = false := by simpa using hn0
  have HH : Hid (true = hasB r1 [61]) := Lib.hid (by rw [← hn] at h1; rw [hr1]; exact h1.symm)
  have s0 : ∀ W, (Instr.slice 9 (.string (str r1)) (some (.int .i64 1)) none none).run Tryd.prog W = .ok (.string (str (r1.drop 1))) W := fun W => slt r1 1 (by have h := HH.out; cases r1 with | nil => cases h | cons a b => simp) W
  obtain ⟨r2, hr2⟩ : ∃ r2, r2 = r1.drop 1 := ⟨_, rfl⟩
  rw [← hr2] at s0
  have HR2 := Lib.hid hr2
  have HQ : Hid (dropB r2 = 34 :: t) := Lib.hid (by rw [← hn] at hq; rw [hr2, hr1]; exact hq)
  have ix : ∀ W, (Instr.index 9 (.string (str (34 :: t))) (.int .i64 0)).run Tryd.prog W = .ok (.int .u8 34) W := fun W => idx_at (34 :: t) 0 (by simp) W
  have hlz : (((34 :: t : List UInt8).length : Int) == 0) = false := by simp; omega
  have s1 : ∀ W, (Instr.slice 9 (.string (str (34 :: t))) (some (.int .i64 1)) none none).run Tryd.prog W = .ok (.string (str t)) W := fun W => slt (34 :: t) 1 (by simp) W
  have s2 : ∀ W, (Instr.slice 9 (.string (str (34 :: t))) none (some (.int .i64 1)) none).run Tryd.prog W = .ok (.string (str [34])) W := fun W => slf (34 :: t) 1 (by simp) W
  have HTL : Hid (t.length + 1 ≤ l.length) := Lib.hid (by have h := dropB_len r2; rw [HQ.out, List.length_cons] at h; have h2 := HRL1.out; rw [hr2, List.length_drop] at h; omega)
  have hel : e < t.length := by have h := findI_le t e hf; simp at h; omega
  have heI : (e : Int) ≤ 1000000 := by have := HTL.out; have := HL.out; omega
  have he0 : (0 : Int) ≤ (e : Int) := by omega
  have hw1 : IntKind.i64.wrap (1 + (e : Int)) = 1 + (e : Int) := IntWalk.i64_in _ (by omega)
  have hw2 : IntKind.i64.wrap (2 + (e : Int)) = 2 + (e : Int) := IntWalk.i64_in _ (by omega)
  have s3 : ∀ W, (Instr.slice 9 (.string (str (34 :: t))) (some (.int .i64 1)) (some (.int .i64 (1 + (e : Int)))) none).run Tryd.prog W = .ok (.string (str (t.take e))) W := fun W => by
    have h := slc (34 :: t) 1 (1 + e) (by omega) (by simp; omega) W
    rw [show ((1 + e : Nat) : Int) = 1 + (e : Int) from by omega, show 1 + e - 1 = e by omega] at h
    exact h
  have s4 : ∀ W, (Instr.slice 9 (.string (str (34 :: t))) (some (.int .i64 (2 + (e : Int)))) none none).run Tryd.prog W = .ok (.string (str (t.drop (e + 1)))) W := fun W => by
    have h := slt (34 :: t) (2 + e) (by simp; omega) W
    rw [show ((2 + e : Nat) : Int) = 2 + (e : Int) from by omega, show 2 + e = (e + 1) + 1 by omega, List.drop_succ_cons] at h
    exact h
  obtain ⟨tt, htt⟩ : ∃ tt, tt = t.take e := ⟨_, rfl⟩
  obtain ⟨td, htd⟩ : ∃ td, td = t.drop (e + 1) := ⟨_, rfl⟩
  rw [← htt] at s3 hin
  rw [← htd] at s4
  have HTT := Lib.hid htt
  have HTD := Lib.hid htd
  have HTTL : Hid (tt.length ≤ l.length) := Lib.hid (by rw [htt, List.length_take]; have := HTL.out; omega)
  have KF : Hid (∀ W, Calls Tryd.prog 45 #[.string (str t), .string (str [34])] W fun e1 w' => e1 = .returned (.int .i64 (e : Int)) ∧ w' = W) := Lib.hid fun W => by have h := rfind_q t [34] W (by have := HTL.out; have := HL.out; omega) (by simp) (by simp); rw [hf] at h; exact h
  have hz : findI [60] tt = none := by cases hz : findI [60] tt with | none => rfl | some k => rw [hz] at hin; cases hin
  have KG : Hid (∀ W, Calls Tryd.prog 45 #[.string (str tt), .string (str [60])] W (Pure W (.int .i64 (-1)))) := Lib.hid fun W => by have h := rfind_any tt [60] W (by have := HTTL.out; have := HL.out; omega) (by simp) (by simp); rw [hz] at h; exact h
  obtain ⟨q, hqq⟩ : ∃ q, q = 34 :: t := ⟨_, rfl⟩
  rw [← hqq] at ix hlz s1 s2 s3 s4
  have HQ2 : Hid (dropB r2 = q) := Lib.hid (by rw [HQ.out, hqq])
  clear hn hr1 h0 h1 hl hn0 hr2 hq hqq hf HQ hin hz htt htd hel
  go_enter Tryd.func69, Tryd.ntmps69
  go_wp2_with (first | (go_at_call 30; have kn := rname_any l (w.alloc (.cells #[.string ⟨#[]⟩, .string ⟨#[]⟩] 39)) (by have := HL.out; unfold maxLen; omega); rw [← HN.out] at kn; refine kn.mono ?_; rintro e w1 ⟨rfl, hb1⟩; have HB1 := Lib.hid (below_then HB0.out hb1); have BX1 := Lib.hid (BX.out.below hb1 BX.out.lt); clear kn hb1) | (go_at_call 47; have kh := rhas_any r1 [61] w1; rw [← HH.out] at kh; refine kh.mono ?_; rintro e wh ⟨rfl, rfl⟩; clear kh) | (go_at_call 49; have hm1 := HM1.out; clear hm1; have kb := rblanks_any r2 w1 (by have := HL.out; have := HRL1.out; rw [HR2.out, List.length_drop]; omega); rw [HQ2.out] at kb; refine kb.mono ?_; rintro e wc ⟨rfl, rfl⟩; clear kb) | (go_at_call 49; have kb := rblanks_any r0 w1 (by have := HL.out; have := HRL.out; omega); rw [← HR1.out] at kb; refine kb.mono ?_; rintro e wb ⟨rfl, rfl⟩; clear kb; have HM1 : Hid True := Lib.hid trivial))
  go_quiet ((go_at_call 45; exact Calls.quiet_of_same (KF.out _)))
  have HBq : Hid (Below w.heap.size w (w1.drewN nq)) := Lib.hid (below_drewN HB1.out nq)
  have hbxq : Below w1.heap.size w1 (w1.drewN nq) := below_drewN (Below.refl _ _) nq
  have BXq := Lib.hid (BX1.out.below hbxq BX1.out.lt)
  clear hbxq
  go_wp2_with ((go_at_call 45; refine (KG.out _).mono ?_; rintro e1 wg ⟨rfl, rfl⟩))
  refine up_start (fun k => k = 0 ∨ 0 ≤ k) (by kernel_rfl) ?_
  refine up_take (by exact at0) (by kernel_rfl) (by exact fun _ _ _ h => h) (by rfl) (by intro W hW; go_simp; try with_reducible rfl) ?_
  simp only [Act.put, List.setIfInBounds_toArray, List.set_cons_zero, List.set_cons_succ]
  refine up_take (by exact (atS at0)) (by kernel_rfl) (by exact fun _ _ _ h => h) (by rfl) (by intro W hW; go_simp; try with_reducible rfl) ?_
  simp only [Act.put, List.setIfInBounds_toArray, List.set_cons_zero, List.set_cons_succ]
  refine up_take (by exact (atS (atS at0))) (by kernel_rfl) (by exact fun _ _ _ h => h) (by rfl) (by intro W hW; go_simp; try with_reducible rfl) ?_
  simp only [Act.put, List.setIfInBounds_toArray, List.set_cons_zero, List.set_cons_succ]
  refine up_take (by exact (atS (atS (atS at0)))) (by kernel_rfl) (by exact fun _ _ _ h => h) (by rfl) (by intro W hW; go_simp; try with_reducible rfl) ?_
  simp only [Act.put, List.setIfInBounds_toArray, List.set_cons_zero, List.set_cons_succ]
  refine up_take (by exact (atS (atS (atS (atS at0))))) (by kernel_rfl) (by exact fun _ _ _ h => h) (by rfl) (by intro W hW; go_simp; try with_reducible rfl) ?_
  simp only [Act.put, List.setIfInBounds_toArray, List.set_cons_zero, List.set_cons_succ]
  refine up_take (by exact (atS (atS (atS (atS (atS (atS (atS at0)))))))) (by kernel_rfl) (by exact fun _ _ _ h => h) (by rfl) (by intro W hW; go_simp; try with_reducible rfl) ?_
  simp only [Act.put, List.setIfInBounds_toArray, List.set_cons_zero, List.set_cons_succ]
  refine up_take (by exact (atS (atS (atS (atS (atS (atS (atS (atS at0))))))))) (by kernel_rfl) (by exact fun _ _ _ h => h) (by rfl) (by intro W hW; go_simp; try with_reducible rfl) ?_
  simp only [Act.put, List.setIfInBounds_toArray, List.set_cons_zero, List.set_cons_succ]
  refine up_take (by exact (atS (atS (atS (atS (atS (atS (atS (atS (atS at0)))))))))) (by kernel_rfl) (by exact fun _ _ _ h => h) (by rfl) (by intro W hW; go_simp; try with_reducible rfl) ?_
  simp only [Act.put, List.setIfInBounds_toArray, List.set_cons_zero, List.set_cons_succ]
  refine up_take (by exact (atS (atS (atS (atS (atS (atS (atS (atS (atS (atS at0))))))))))) (by kernel_rfl) (by exact fun _ _ _ h => h) (by rfl) (by intro W hW; go_simp; try with_reducible rfl) ?_
  simp only [Act.put, List.setIfInBounds_toArray, List.set_cons_zero, List.set_cons_succ]
  refine up_one (by exact (atS (atS (atS (atS (atS at0)))))) (by kernel_rfl) (fun K hK => ?_)
  go_simp
  refine (rread_any tt _ (by have := HTTL.out; have := HL.out; omega)).mono ?_
  rintro eD wD ⟨rfl, hbD⟩
  have hbD1 : Below w.heap.size w wD := below_then HBq.out ⟨hbD.os, hbD.tape, hbD.output, hbD.size, hbD.block⟩
  refine hK.out _ _ (Kept.belowB hbD (fun k _ => .inr (Nat.zero_le k))) ?_
  clear hK K
  have HBD := Lib.hid hbD1
  have hbx : Blk wD w.heap.size 39 #[.string ⟨#[]⟩, .string ⟨#[]⟩] := (hbD.block _ BXq.out.lt).trans BXq.out
  have BXD := Lib.hid hbx
  clear hbD hbD1 hbx
  refine up_take (by exact (atS (atS (atS (atS (atS (atS at0))))))) (by kernel_rfl) (by exact fun _ _ _ h => h) (by rfl) (by intro W hW; go_simp; try with_reducible rfl) ?_
  simp only [Act.put, List.setIfInBounds_toArray, List.set_cons_zero, List.set_cons_succ]
  refine up_one (by exact (atS (atS (atS (atS (atS (atS (atS (atS (atS (atS (atS at0)))))))))))) (by kernel_rfl) (fun K hK => ?_)
  refine store_attr_up (w := wD) rfl (.tmp 2) (.tmp 62) rfl w.heap.size _ _ (str n) (str (readR tt)) rfl rfl BXD.out ?_
  intro w9 hb9 hg9
  refine hK.out _ _ (Kept.grown hg9 (fun k _ => .inr (Nat.zero_le k))) ?_
  clear hK K
  have HB9 : Hid (Below w.heap.size w w9) := Lib.hid (below_more HBD.out hg9 (Nat.le_refl _))
  have y0 : w9.cell? ⟨w.heap.size, 0, none⟩ = some (.string (str n)) := hb9.cell 0
  have y1 : w9.cell? ⟨w.heap.size, 1, none⟩ = some (.string (str (readR tt))) := hb9.cell 1
  clear hb9 hg9
  refine up_take (by exact (atS (atS (atS (atS (atS (atS (atS (atS (atS (atS (atS (atS at0))))))))))))) (by kernel_rfl) (by exact fun _ _ _ h => h) (by rfl) (by intro W hW; go_simp; try with_reducible rfl) ?_
  simp only [Act.put, List.setIfInBounds_toArray, List.set_cons_zero, List.set_cons_succ]
  refine up_take (by exact (atS (atS (atS (atS (atS (atS (atS (atS (atS (atS (atS (atS (atS at0)))))))))))))) (by kernel_rfl) (by exact fun _ _ _ h => h) (by rfl) (by intro W hW; go_simp; try with_reducible rfl) ?_
  simp only [Act.put, List.setIfInBounds_toArray, List.set_cons_zero, List.set_cons_succ]
  refine up_done (by kernel_rfl) ?_
  go_wp2_with fail
  refine bodyPost_ret (v := .tuple #[.agg #[.string (str n), .string (str (readR tt))], .string (str td), .bool true]) (by simp [results, Tryd.results69, go_sem, y0, y1]) rfl ?_
  exact ⟨by rw [HX.out, ← HN.out, ← HTT.out, ← HTD.out], HB9.out⟩
set_option maxHeartbeats 6400000 in
set_option maxRecDepth 100000 in
theorem rattr_39n (l : List UInt8) (w : World) (hl : l.length ≤ 1000000) (h0 : (nameV l).1 ≠ []) (h1 : hasB (dropB (nameV l).2) [61] = true) (t : List UInt8) (hq : dropB ((dropB (nameV l).2).drop 1) = 39 :: t) (hf : findI [39] t = none) : Calls Tryd.prog 69 #[.string (str l)] w (MadeR w l) := by
  have HX := Lib.hid (res_bad ((attrV_c h0 h1 hq).trans (attrM_n hf)))
  have HB0 : Hid (Below w.heap.size w (w.alloc (.cells #[.string ⟨#[]⟩, .string ⟨#[]⟩] 39))) := Lib.hid ((Below.refl _ _).alloc (Nat.le_refl _) _)
  have BX : Hid (Blk (w.alloc (.cells #[.string ⟨#[]⟩, .string ⟨#[]⟩] 39)) w.heap.size 39 #[.string ⟨#[]⟩, .string ⟨#[]⟩]) := Lib.hid (Blk.fresh _ _ _)
  have HL := Lib.hid hl
  have HNL := Lib.hid (nameV_len l)
  obtain ⟨⟨n, r0⟩, hn⟩ : ∃ x, x = nameV l := ⟨_, rfl⟩
  obtain ⟨r1, hr1⟩ : ∃ r1, r1 = dropB r0 := ⟨_, rfl⟩
  have HN := Lib.hid hn
  have HR1 := Lib.hid hr1
  have HRL : Hid (r0.length ≤ l.length) := Lib.hid (by have h := HNL.out.2; rw [← hn] at h; exact h)
  have HRL1 : Hid (r1.length ≤ l.length) := Lib.hid (by have h := dropB_len r0; rw [← hr1] at h; exact Nat.le_trans h HRL.out)
  have hn0 : n ≠ [] := by rw [← hn] at h0; exact h0
  have e1 : (n == ([] : List UInt8)) = false := by simpa using hn0
  have HH : Hid (true = hasB r1 [61]) := Lib.hid (by rw [← hn] at h1; rw [hr1]; exact h1.symm)
  have s0 : ∀ W, (Instr.slice 9 (.string (str r1)) (some (.int .i64 1)) none none).run Tryd.prog W = .ok (.string (str (r1.drop 1))) W := fun W => slt r1 1 (by have h := HH.out; cases r1 with | nil => cases h | cons a b => simp) W
  obtain ⟨r2, hr2⟩ : ∃ r2, r2 = r1.drop 1 := ⟨_, rfl⟩
  rw [← hr2] at s0
  have HR2 := Lib.hid hr2
  have HQ : Hid (dropB r2 = 39 :: t) := Lib.hid (by rw [← hn] at hq; rw [hr2, hr1]; exact hq)
  have ix : ∀ W, (Instr.index 9 (.string (str (39 :: t))) (.int .i64 0)).run Tryd.prog W = .ok (.int .u8 39) W := fun W => idx_at (39 :: t) 0 (by simp) W
  have hlz : (((39 :: t : List UInt8).length : Int) == 0) = false := by simp; omega
  have s1 : ∀ W, (Instr.slice 9 (.string (str (39 :: t))) (some (.int .i64 1)) none none).run Tryd.prog W = .ok (.string (str t)) W := fun W => slt (39 :: t) 1 (by simp) W
  have s2 : ∀ W, (Instr.slice 9 (.string (str (39 :: t))) none (some (.int .i64 1)) none).run Tryd.prog W = .ok (.string (str [39])) W := fun W => slf (39 :: t) 1 (by simp) W
  have HTL : Hid (t.length + 1 ≤ l.length) := Lib.hid (by have h := dropB_len r2; rw [HQ.out, List.length_cons] at h; have h2 := HRL1.out; rw [hr2, List.length_drop] at h; omega)
  have KF : Hid (∀ W, Calls Tryd.prog 45 #[.string (str t), .string (str [39])] W fun e w' => e = .returned (.int .i64 (-1)) ∧ w' = W) := Lib.hid fun W => by have h := rfind_q t [39] W (by have := HTL.out; have := HL.out; omega) (by simp) (by simp); rw [hf] at h; exact h
  obtain ⟨q, hqq⟩ : ∃ q, q = 39 :: t := ⟨_, rfl⟩
  rw [← hqq] at ix hlz s1 s2
  have HQ2 : Hid (dropB r2 = q) := Lib.hid (by rw [HQ.out, hqq])
  clear hn hr1 h0 h1 hl hn0 hr2 hq hqq hf HQ
  go_enter Tryd.func69, Tryd.ntmps69
  go_wp2_with (first | (go_at_call 30; have kn := rname_any l (w.alloc (.cells #[.string ⟨#[]⟩, .string ⟨#[]⟩] 39)) (by have := HL.out; unfold maxLen; omega); rw [← HN.out] at kn; refine kn.mono ?_; rintro e w1 ⟨rfl, hb1⟩; have HB1 := Lib.hid (below_then HB0.out hb1); have BX1 := Lib.hid (BX.out.below hb1 BX.out.lt); clear kn hb1) | (go_at_call 47; have kh := rhas_any r1 [61] w1; rw [← HH.out] at kh; refine kh.mono ?_; rintro e wh ⟨rfl, rfl⟩; clear kh) | (go_at_call 49; have hm1 := HM1.out; clear hm1; have kb := rblanks_any r2 w1 (by have := HL.out; have := HRL1.out; rw [HR2.out, List.length_drop]; omega); rw [HQ2.out] at kb; refine kb.mono ?_; rintro e wc ⟨rfl, rfl⟩; clear kb) | (go_at_call 49; have kb := rblanks_any r0 w1 (by have := HL.out; have := HRL.out; omega); rw [← HR1.out] at kb; refine kb.mono ?_; rintro e wb ⟨rfl, rfl⟩; clear kb; have HM1 : Hid True := Lib.hid trivial))
  go_quiet ((go_at_call 45; exact Calls.quiet_of_same (KF.out _)))
  have HBq : Hid (Below w.heap.size w (w1.drewN nq)) := Lib.hid (below_drewN HB1.out nq)
  have hbxq : Below w1.heap.size w1 (w1.drewN nq) := below_drewN (Below.refl _ _) nq
  have BXq := Lib.hid (BX1.out.below hbxq BX1.out.lt)
  clear hbxq
  go_wp2_with (((with_reducible refine wpList_store_attr rfl (.tmp 2) (.tmp 55) rfl w.heap.size _ _ ⟨#[]⟩ ⟨#[]⟩ rfl rfl BXq.out ?_); intro w9 hb9 hg9; have HB9 : Hid (Below w.heap.size w w9) := Lib.hid (below_more HBq.out hg9 (Nat.le_refl _)); have y0 : w9.cell? ⟨w.heap.size, 0, none⟩ = some (.string ⟨#[]⟩) := hb9.cell 0; have y1 : w9.cell? ⟨w.heap.size, 1, none⟩ = some (.string ⟨#[]⟩) := hb9.cell 1; clear hb9 hg9))
  refine bodyPost_ret (v := .tuple #[.agg #[.string ⟨#[]⟩, .string ⟨#[]⟩], .string ⟨#[]⟩, .bool false]) (by simp [results, Tryd.results69, go_sem, y0, y1]) rfl ?_
  exact ⟨by rw [HX.out]; rfl, HB9.out⟩
set_option maxHeartbeats 6400000 in
set_option maxRecDepth 100000 in
theorem rattr_39bad (l : List UInt8) (w : World) (hl : l.length ≤ 1000000) (h0 : (nameV l).1 ≠ []) (h1 : hasB (dropB (nameV l).2) [61] = true) (t : List UInt8) (hq : dropB ((dropB (nameV l).2).drop 1) = 39 :: t) (e : Nat) (hf : findI [39] t = some e) (hin : (findI [60] (t.take e)).isSome = true) : Calls Tryd.prog 69 #[.string (str l)] w (MadeR w l) := by
  have HX := Lib.hid (res_bad ((attrV_c h0 h1 hq).trans (attrM_bad hf hin)))
  have HB0 : Hid (Below w.heap.size w (w.alloc (.cells #[.string ⟨#[]⟩, .string ⟨#[]⟩] 39))) := Lib.hid ((Below.refl _ _).alloc (Nat.le_refl _) _)
  have BX : Hid (Blk (w.alloc (.cells #[.string ⟨#[]⟩, .string ⟨#[]⟩] 39)) w.heap.size 39 #[.string ⟨#[]⟩, .string ⟨#[]⟩]) := Lib.hid (Blk.fresh _ _ _)
  have HL := Lib.hid hl
  have HNL := Lib.hid (nameV_len l)
  obtain ⟨⟨n, r0⟩, hn⟩ : ∃ x, x = nameV l := ⟨_, rfl⟩
  obtain ⟨r1, hr1⟩ : ∃ r1, r1 = dropB r0 := ⟨_, rfl⟩
  have HN := Lib.hid hn
  have HR1 := Lib.hid hr1
  have HRL : Hid (r0.length ≤ l.length) := Lib.hid (by have h := HNL.out.2; rw [← hn] at h; exact h)
  have HRL1 : Hid (r1.length ≤ l.length) := Lib.hid (by have h := dropB_len r0; rw [← hr1] at h; exact Nat.le_trans h HRL.out)
  have hn0 : n ≠ [] := by rw [← hn] at h0; exact h0
  have e1 : (n == ([] : List UInt8)) = false := by simpa using hn0
  have HH : Hid (true = hasB r1 [61]) := Lib.hid (by rw [← hn] at h1; rw [hr1]; exact h1.symm)
  have s0 : ∀ W, (Instr.slice 9 (.string (str r1)) (some (.int .i64 1)) none none).run Tryd.prog W = .ok (.string (str (r1.drop 1))) W := fun W => slt r1 1 (by have h := HH.out; cases r1 with | nil => cases h | cons a b => simp) W
  obtain ⟨r2, hr2⟩ : ∃ r2, r2 = r1.drop 1 := ⟨_, rfl⟩
  rw [← hr2] at s0
  have HR2 := Lib.hid hr2
  have HQ : Hid (dropB r2 = 39 :: t) := Lib.hid (by rw [← hn] at hq; rw [hr2, hr1]; exact hq)
  have ix : ∀ W, (Instr.index 9 (.string (str (39 :: t))) (.int .i64 0)).run Tryd.prog W = .ok (.int .u8 39) W := fun W => idx_at (39 :: t) 0 (by simp) W
  have hlz : (((39 :: t : List UInt8).length : Int) == 0) = false := by simp; omega
  have s1 : ∀ W, (Instr.slice 9 (.string (str (39 :: t))) (some (.int .i64 1)) none none).run Tryd.prog W = .ok (.string (str t)) W := fun W => slt (39 :: t) 1 (by simp) W
  have s2 : ∀ W, (Instr.slice 9 (.string (str (39 :: t))) none (some (.int .i64 1)) none).run Tryd.prog W = .ok (.string (str [39])) W := fun W => slf (39 :: t) 1 (by simp) W
  have HTL : Hid (t.length + 1 ≤ l.length) := Lib.hid (by have h := dropB_len r2; rw [HQ.out, List.length_cons] at h; have h2 := HRL1.out; rw [hr2, List.length_drop] at h; omega)
  have hel : e < t.length := by have h := findI_le t e hf; simp at h; omega
  have heI : (e : Int) ≤ 1000000 := by have := HTL.out; have := HL.out; omega
  have he0 : (0 : Int) ≤ (e : Int) := by omega
  have hw1 : IntKind.i64.wrap (1 + (e : Int)) = 1 + (e : Int) := IntWalk.i64_in _ (by omega)
  have hw2 : IntKind.i64.wrap (2 + (e : Int)) = 2 + (e : Int) := IntWalk.i64_in _ (by omega)
  have s3 : ∀ W, (Instr.slice 9 (.string (str (39 :: t))) (some (.int .i64 1)) (some (.int .i64 (1 + (e : Int)))) none).run Tryd.prog W = .ok (.string (str (t.take e))) W := fun W => by
    have h := slc (39 :: t) 1 (1 + e) (by omega) (by simp; omega) W
    rw [show ((1 + e : Nat) : Int) = 1 + (e : Int) from by omega, show 1 + e - 1 = e by omega] at h
    exact h
  have s4 : ∀ W, (Instr.slice 9 (.string (str (39 :: t))) (some (.int .i64 (2 + (e : Int)))) none none).run Tryd.prog W = .ok (.string (str (t.drop (e + 1)))) W := fun W => by
    have h := slt (39 :: t) (2 + e) (by simp; omega) W
    rw [show ((2 + e : Nat) : Int) = 2 + (e : Int) from by omega, show 2 + e = (e + 1) + 1 by omega, List.drop_succ_cons] at h
    exact h
  obtain ⟨tt, htt⟩ : ∃ tt, tt = t.take e := ⟨_, rfl⟩
  obtain ⟨td, htd⟩ : ∃ td, td = t.drop (e + 1) := ⟨_, rfl⟩
  rw [← htt] at s3 hin
  rw [← htd] at s4
  have HTT := Lib.hid htt
  have HTD := Lib.hid htd
  have HTTL : Hid (tt.length ≤ l.length) := Lib.hid (by rw [htt, List.length_take]; have := HTL.out; omega)
  have KF : Hid (∀ W, Calls Tryd.prog 45 #[.string (str t), .string (str [39])] W fun e1 w' => e1 = .returned (.int .i64 (e : Int)) ∧ w' = W) := Lib.hid fun W => by have h := rfind_q t [39] W (by have := HTL.out; have := HL.out; omega) (by simp) (by simp); rw [hf] at h; exact h
  obtain ⟨k, hk⟩ : ∃ k : Nat, findI [60] tt = some k := by
    cases hz : findI [60] tt with
    | none => rw [hz] at hin; cases hin
    | some k => exact ⟨k, rfl⟩
  have KG : Hid (∀ W, Calls Tryd.prog 45 #[.string (str tt), .string (str [60])] W (Pure W (.int .i64 (k : Int)))) := Lib.hid fun W => by have h := rfind_any tt [60] W (by have := HTTL.out; have := HL.out; omega) (by simp) (by simp); rw [hk] at h; exact h
  have hk0 : (0 : Int) ≤ (k : Int) := by omega
  obtain ⟨q, hqq⟩ : ∃ q, q = 39 :: t := ⟨_, rfl⟩
  rw [← hqq] at ix hlz s1 s2 s3 s4
  have HQ2 : Hid (dropB r2 = q) := Lib.hid (by rw [HQ.out, hqq])
  clear hn hr1 h0 h1 hl hn0 hr2 hq hqq hf HQ hin hk htt htd hel
  go_enter Tryd.func69, Tryd.ntmps69
  go_wp2_with (first | (go_at_call 30; have kn := rname_any l (w.alloc (.cells #[.string ⟨#[]⟩, .string ⟨#[]⟩] 39)) (by have := HL.out; unfold maxLen; omega); rw [← HN.out] at kn; refine kn.mono ?_; rintro e w1 ⟨rfl, hb1⟩; have HB1 := Lib.hid (below_then HB0.out hb1); have BX1 := Lib.hid (BX.out.below hb1 BX.out.lt); clear kn hb1) | (go_at_call 47; have kh := rhas_any r1 [61] w1; rw [← HH.out] at kh; refine kh.mono ?_; rintro e wh ⟨rfl, rfl⟩; clear kh) | (go_at_call 49; have hm1 := HM1.out; clear hm1; have kb := rblanks_any r2 w1 (by have := HL.out; have := HRL1.out; rw [HR2.out, List.length_drop]; omega); rw [HQ2.out] at kb; refine kb.mono ?_; rintro e wc ⟨rfl, rfl⟩; clear kb) | (go_at_call 49; have kb := rblanks_any r0 w1 (by have := HL.out; have := HRL.out; omega); rw [← HR1.out] at kb; refine kb.mono ?_; rintro e wb ⟨rfl, rfl⟩; clear kb; have HM1 : Hid True := Lib.hid trivial))
  go_quiet ((go_at_call 45; exact Calls.quiet_of_same (KF.out _)))
  have HBq : Hid (Below w.heap.size w (w1.drewN nq)) := Lib.hid (below_drewN HB1.out nq)
  have hbxq : Below w1.heap.size w1 (w1.drewN nq) := below_drewN (Below.refl _ _) nq
  have BXq := Lib.hid (BX1.out.below hbxq BX1.out.lt)
  clear hbxq
  go_wp2_with (first | (go_at_call 45; refine (KG.out _).mono ?_; rintro e1 wg ⟨rfl, rfl⟩) | ((with_reducible refine wpList_store_attr rfl (.tmp 2) (.tmp 55) rfl w.heap.size _ _ ⟨#[]⟩ ⟨#[]⟩ rfl rfl BXq.out ?_); intro w9 hb9 hg9; have HB9 : Hid (Below w.heap.size w w9) := Lib.hid (below_more HBq.out hg9 (Nat.le_refl _)); have y0 : w9.cell? ⟨w.heap.size, 0, none⟩ = some (.string ⟨#[]⟩) := hb9.cell 0; have y1 : w9.cell? ⟨w.heap.size, 1, none⟩ = some (.string ⟨#[]⟩) := hb9.cell 1; clear hb9 hg9))
  refine bodyPost_ret (v := .tuple #[.agg #[.string ⟨#[]⟩, .string ⟨#[]⟩], .string ⟨#[]⟩, .bool false]) (by simp [results, Tryd.results69, go_sem, y0, y1]) rfl ?_
  exact ⟨by rw [HX.out]; rfl, HB9.out⟩
set_option maxHeartbeats 6400000 in
set_option maxRecDepth 100000 in
theorem rattr_39ok (l : List UInt8) (w : World) (hl : l.length ≤ 1000000) (h0 : (nameV l).1 ≠ []) (h1 : hasB (dropB (nameV l).2) [61] = true) (t : List UInt8) (hq : dropB ((dropB (nameV l).2).drop 1) = 39 :: t) (e : Nat) (hf : findI [39] t = some e) (hin : (findI [60] (t.take e)).isSome = false) : Calls Tryd.prog 69 #[.string (str l)] w (MadeR w l) := by
  have HX : Hid (attrRes l = (((nameV l).1, readR (t.take e)), t.drop (e + 1), true)) := Lib.hid (res_ok ((attrV_c h0 h1 hq).trans (attrM_ok (by decide) hf hin)))
  have HB0 : Hid (Below w.heap.size w (w.alloc (.cells #[.string ⟨#[]⟩, .string ⟨#[]⟩] 39))) := Lib.hid ((Below.refl _ _).alloc (Nat.le_refl _) _)
  have BX : Hid (Blk (w.alloc (.cells #[.string ⟨#[]⟩, .string ⟨#[]⟩] 39)) w.heap.size 39 #[.string ⟨#[]⟩, .string ⟨#[]⟩]) := Lib.hid (Blk.fresh _ _ _)
  have HL := Lib.hid hl
  have HNL := Lib.hid (nameV_len l)
  obtain ⟨⟨n, r0⟩, hn⟩ : ∃ x, x = nameV l := ⟨_, rfl⟩
  obtain ⟨r1, hr1⟩ : ∃ r1, r1 = dropB r0 := ⟨_, rfl⟩
  have HN := Lib.hid hn
  have HR1 := Lib.hid hr1
  have HRL : Hid (r0.length ≤ l.length) := Lib.hid (by have h := HNL.out.2; rw [← hn] at h; exact h)
  have HRL1 : Hid (r1.length ≤ l.length) := Lib.hid (by have h := dropB_len r0; rw [← hr1] at h; exact Nat.le_trans h HRL.out)
  have hn0 : n ≠ [] := by rw [← hn] at h0; exact h0
  have e1 : (n == ([] : List UInt8)) = false := by simpa using hn0
  have HH : Hid (true = hasB r1 [61]) := Lib.hid (by rw [← hn] at h1; rw [hr1]; exact h1.symm)
  have s0 : ∀ W, (Instr.slice 9 (.string (str r1)) (some (.int .i64 1)) none none).run Tryd.prog W = .ok (.string (str (r1.drop 1))) W := fun W => slt r1 1 (by have h := HH.out; cases r1 with | nil => cases h | cons a b => simp) W
  obtain ⟨r2, hr2⟩ : ∃ r2, r2 = r1.drop 1 := ⟨_, rfl⟩
  rw [← hr2] at s0
  have HR2 := Lib.hid hr2
  have HQ : Hid (dropB r2 = 39 :: t) := Lib.hid (by rw [← hn] at hq; rw [hr2, hr1]; exact hq)
  have ix : ∀ W, (Instr.index 9 (.string (str (39 :: t))) (.int .i64 0)).run Tryd.prog W = .ok (.int .u8 39) W := fun W => idx_at (39 :: t) 0 (by simp) W
  have hlz : (((39 :: t : List UInt8).length : Int) == 0) = false := by simp; omega
  have s1 : ∀ W, (Instr.slice 9 (.string (str (39 :: t))) (some (.int .i64 1)) none none).run Tryd.prog W = .ok (.string (str t)) W := fun W => slt (39 :: t) 1 (by simp) W
  have s2 : ∀ W, (Instr.slice 9 (.string (str (39 :: t))) none (some (.int .i64 1)) none).run Tryd.prog W = .ok (.string (str [39])) W := fun W => slf (39 :: t) 1 (by simp) W
  have HTL : Hid (t.length + 1 ≤ l.length) := Lib.hid (by have h := dropB_len r2; rw [HQ.out, List.length_cons] at h; have h2 := HRL1.out; rw [hr2, List.length_drop] at h; omega)
  have hel : e < t.length := by have h := findI_le t e hf; simp at h; omega
  have heI : (e : Int) ≤ 1000000 := by have := HTL.out; have := HL.out; omega
  have he0 : (0 : Int) ≤ (e : Int) := by omega
  have hw1 : IntKind.i64.wrap (1 + (e : Int)) = 1 + (e : Int) := IntWalk.i64_in _ (by omega)
  have hw2 : IntKind.i64.wrap (2 + (e : Int)) = 2 + (e : Int) := IntWalk.i64_in _ (by omega)
  have s3 : ∀ W, (Instr.slice 9 (.string (str (39 :: t))) (some (.int .i64 1)) (some (.int .i64 (1 + (e : Int)))) none).run Tryd.prog W = .ok (.string (str (t.take e))) W := fun W => by
    have h := slc (39 :: t) 1 (1 + e) (by omega) (by simp; omega) W
    rw [show ((1 + e : Nat) : Int) = 1 + (e : Int) from by omega, show 1 + e - 1 = e by omega] at h
    exact h
  have s4 : ∀ W, (Instr.slice 9 (.string (str (39 :: t))) (some (.int .i64 (2 + (e : Int)))) none none).run Tryd.prog W = .ok (.string (str (t.drop (e + 1)))) W := fun W => by
    have h := slt (39 :: t) (2 + e) (by simp; omega) W
    rw [show ((2 + e : Nat) : Int) = 2 + (e : Int) from by omega, show 2 + e = (e + 1) + 1 by omega, List.drop_succ_cons] at h
    exact h
  obtain ⟨tt, htt⟩ : ∃ tt, tt = t.take e := ⟨_, rfl⟩
  obtain ⟨td, htd⟩ : ∃ td, td = t.drop (e + 1) := ⟨_, rfl⟩
  rw [← htt] at s3 hin
  rw [← htd] at s4
  have HTT := Lib.hid htt
  have HTD := Lib.hid htd
  have HTTL : Hid (tt.length ≤ l.length) := Lib.hid (by rw [htt, List.length_take]; have := HTL.out; omega)
  have KF : Hid (∀ W, Calls Tryd.prog 45 #[.string (str t), .string (str [39])] W fun e1 w' => e1 = .returned (.int .i64 (e : Int)) ∧ w' = W) := Lib.hid fun W => by have h := rfind_q t [39] W (by have := HTL.out; have := HL.out; omega) (by simp) (by simp); rw [hf] at h; exact h
  have hz : findI [60] tt = none := by cases hz : findI [60] tt with | none => rfl | some k => rw [hz] at hin; cases hin
  have KG : Hid (∀ W, Calls Tryd.prog 45 #[.string (str tt), .string (str [60])] W (Pure W (.int .i64 (-1)))) := Lib.hid fun W => by have h := rfind_any tt [60] W (by have := HTTL.out; have := HL.out; omega) (by simp) (by simp); rw [hz] at h; exact h
  obtain ⟨q, hqq⟩ : ∃ q, q = 39 :: t := ⟨_, rfl⟩
  rw [← hqq] at ix hlz s1 s2 s3 s4
  have HQ2 : Hid (dropB r2 = q) := Lib.hid (by rw [HQ.out, hqq])
  clear hn hr1 h0 h1 hl hn0 hr2 hq hqq hf HQ hin hz htt htd hel
  go_enter Tryd.func69, Tryd.ntmps69
  go_wp2_with (first | (go_at_call 30; have kn := rname_any l (w.alloc (.cells #[.string ⟨#[]⟩, .string ⟨#[]⟩] 39)) (by have := HL.out; unfold maxLen; omega); rw [← HN.out] at kn; refine kn.mono ?_; rintro e w1 ⟨rfl, hb1⟩; have HB1 := Lib.hid (below_then HB0.out hb1); have BX1 := Lib.hid (BX.out.below hb1 BX.out.lt); clear kn hb1) | (go_at_call 47; have kh := rhas_any r1 [61] w1; rw [← HH.out] at kh; refine kh.mono ?_; rintro e wh ⟨rfl, rfl⟩; clear kh) | (go_at_call 49; have hm1 := HM1.out; clear hm1; have kb := rblanks_any r2 w1 (by have := HL.out; have := HRL1.out; rw [HR2.out, List.length_drop]; omega); rw [HQ2.out] at kb; refine kb.mono ?_; rintro e wc ⟨rfl, rfl⟩; clear kb) | (go_at_call 49; have kb := rblanks_any r0 w1 (by have := HL.out; have := HRL.out; omega); rw [← HR1.out] at kb; refine kb.mono ?_; rintro e wb ⟨rfl, rfl⟩; clear kb; have HM1 : Hid True := Lib.hid trivial))
  go_quiet ((go_at_call 45; exact Calls.quiet_of_same (KF.out _)))
  have HBq : Hid (Below w.heap.size w (w1.drewN nq)) := Lib.hid (below_drewN HB1.out nq)
  have hbxq : Below w1.heap.size w1 (w1.drewN nq) := below_drewN (Below.refl _ _) nq
  have BXq := Lib.hid (BX1.out.below hbxq BX1.out.lt)
  clear hbxq
  go_wp2_with ((go_at_call 45; refine (KG.out _).mono ?_; rintro e1 wg ⟨rfl, rfl⟩))
  refine up_start (fun k => k = 0 ∨ 0 ≤ k) (by kernel_rfl) ?_
  refine up_take (by exact at0) (by kernel_rfl) (by exact fun _ _ _ h => h) (by rfl) (by intro W hW; go_simp; try with_reducible rfl) ?_
  simp only [Act.put, List.setIfInBounds_toArray, List.set_cons_zero, List.set_cons_succ]
  refine up_take (by exact (atS at0)) (by kernel_rfl) (by exact fun _ _ _ h => h) (by rfl) (by intro W hW; go_simp; try with_reducible rfl) ?_
  simp only [Act.put, List.setIfInBounds_toArray, List.set_cons_zero, List.set_cons_succ]
  refine up_take (by exact (atS (atS at0))) (by kernel_rfl) (by exact fun _ _ _ h => h) (by rfl) (by intro W hW; go_simp; try with_reducible rfl) ?_
  simp only [Act.put, List.setIfInBounds_toArray, List.set_cons_zero, List.set_cons_succ]
  refine up_take (by exact (atS (atS (atS at0)))) (by kernel_rfl) (by exact fun _ _ _ h => h) (by rfl) (by intro W hW; go_simp; try with_reducible rfl) ?_
  simp only [Act.put, List.setIfInBounds_toArray, List.set_cons_zero, List.set_cons_succ]
  refine up_take (by exact (atS (atS (atS (atS at0))))) (by kernel_rfl) (by exact fun _ _ _ h => h) (by rfl) (by intro W hW; go_simp; try with_reducible rfl) ?_
  simp only [Act.put, List.setIfInBounds_toArray, List.set_cons_zero, List.set_cons_succ]
  refine up_take (by exact (atS (atS (atS (atS (atS (atS (atS at0)))))))) (by kernel_rfl) (by exact fun _ _ _ h => h) (by rfl) (by intro W hW; go_simp; try with_reducible rfl) ?_
  simp only [Act.put, List.setIfInBounds_toArray, List.set_cons_zero, List.set_cons_succ]
  refine up_take (by exact (atS (atS (atS (atS (atS (atS (atS (atS at0))))))))) (by kernel_rfl) (by exact fun _ _ _ h => h) (by rfl) (by intro W hW; go_simp; try with_reducible rfl) ?_
  simp only [Act.put, List.setIfInBounds_toArray, List.set_cons_zero, List.set_cons_succ]
  refine up_take (by exact (atS (atS (atS (atS (atS (atS (atS (atS (atS at0)))))))))) (by kernel_rfl) (by exact fun _ _ _ h => h) (by rfl) (by intro W hW; go_simp; try with_reducible rfl) ?_
  simp only [Act.put, List.setIfInBounds_toArray, List.set_cons_zero, List.set_cons_succ]
  refine up_take (by exact (atS (atS (atS (atS (atS (atS (atS (atS (atS (atS at0))))))))))) (by kernel_rfl) (by exact fun _ _ _ h => h) (by rfl) (by intro W hW; go_simp; try with_reducible rfl) ?_
  simp only [Act.put, List.setIfInBounds_toArray, List.set_cons_zero, List.set_cons_succ]
  refine up_one (by exact (atS (atS (atS (atS (atS at0)))))) (by kernel_rfl) (fun K hK => ?_)
  go_simp
  refine (rread_any tt _ (by have := HTTL.out; have := HL.out; omega)).mono ?_
  rintro eD wD ⟨rfl, hbD⟩
  have hbD1 : Below w.heap.size w wD := below_then HBq.out ⟨hbD.os, hbD.tape, hbD.output, hbD.size, hbD.block⟩
  refine hK.out _ _ (Kept.belowB hbD (fun k _ => .inr (Nat.zero_le k))) ?_
  clear hK K
  have HBD := Lib.hid hbD1
  have hbx : Blk wD w.heap.size 39 #[.string ⟨#[]⟩, .string ⟨#[]⟩] := (hbD.block _ BXq.out.lt).trans BXq.out
  have BXD := Lib.hid hbx
  clear hbD hbD1 hbx
  refine up_take (by exact (atS (atS (atS (atS (atS (atS at0))))))) (by kernel_rfl) (by exact fun _ _ _ h => h) (by rfl) (by intro W hW; go_simp; try with_reducible rfl) ?_
  simp only [Act.put, List.setIfInBounds_toArray, List.set_cons_zero, List.set_cons_succ]
  refine up_one (by exact (atS (atS (atS (atS (atS (atS (atS (atS (atS (atS (atS at0)))))))))))) (by kernel_rfl) (fun K hK => ?_)
  refine store_attr_up (w := wD) rfl (.tmp 2) (.tmp 62) rfl w.heap.size _ _ (str n) (str (readR tt)) rfl rfl BXD.out ?_
  intro w9 hb9 hg9
  refine hK.out _ _ (Kept.grown hg9 (fun k _ => .inr (Nat.zero_le k))) ?_
  clear hK K
  have HB9 : Hid (Below w.heap.size w w9) := Lib.hid (below_more HBD.out hg9 (Nat.le_refl _))
  have y0 : w9.cell? ⟨w.heap.size, 0, none⟩ = some (.string (str n)) := hb9.cell 0
  have y1 : w9.cell? ⟨w.heap.size, 1, none⟩ = some (.string (str (readR tt))) := hb9.cell 1
  clear hb9 hg9
  refine up_take (by exact (atS (atS (atS (atS (atS (atS (atS (atS (atS (atS (atS (atS at0))))))))))))) (by kernel_rfl) (by exact fun _ _ _ h => h) (by rfl) (by intro W hW; go_simp; try with_reducible rfl) ?_
  simp only [Act.put, List.setIfInBounds_toArray, List.set_cons_zero, List.set_cons_succ]
  refine up_take (by exact (atS (atS (atS (atS (atS (atS (atS (atS (atS (atS (atS (atS (atS at0)))))))))))))) (by kernel_rfl) (by exact fun _ _ _ h => h) (by rfl) (by intro W hW; go_simp; try with_reducible rfl) ?_
  simp only [Act.put, List.setIfInBounds_toArray, List.set_cons_zero, List.set_cons_succ]
  refine up_done (by kernel_rfl) ?_
  go_wp2_with fail
  refine bodyPost_ret (v := .tuple #[.agg #[.string (str n), .string (str (readR tt))], .string (str td), .bool true]) (by simp [results, Tryd.results69, go_sem, y0, y1]) rfl ?_
  exact ⟨by rw [HX.out, ← HN.out, ← HTT.out, ← HTD.out], HB9.out⟩
theorem rattr_any (l : List UInt8) (w : World) (hl : l.length ≤ 1000000) : Calls Tryd.prog 69 #[.string (str l)] w (MadeR w l) := by
  by_cases h0 : (nameV l).1 = []
  · exact rattr_a l w hl h0
  cases h1 : hasB (dropB (nameV l).2) [61] with
  | false => exact rattr_b l w hl h0 h1
  | true =>
    cases hq : dropB ((dropB (nameV l).2).drop 1) with
    | nil => exact rattr_c0 l w hl h0 h1 hq
    | cons b t =>
      by_cases hb : b ≠ 34 ∧ b ≠ 39
      · exact rattr_c1 l w hl h0 h1 b t hq hb
      · by_cases h34 : b = 34
        · subst h34
          cases hf : findI [34] t with
          | none => exact rattr_34n l w hl h0 h1 t hq hf
          | some e =>
            cases hin : (findI [60] (t.take e)).isSome with
            | true => exact rattr_34bad l w hl h0 h1 t hq e hf hin
            | false => exact rattr_34ok l w hl h0 h1 t hq e hf hin
        · have h39 : b = 39 := by
            by_cases h : b = 39
            · exact h
            · exact absurd ⟨h34, h⟩ hb
          subst h39
          cases hf : findI [39] t with
          | none => exact rattr_39n l w hl h0 h1 t hq hf
          | some e =>
            cases hin : (findI [60] (t.take e)).isSome with
            | true => exact rattr_39bad l w hl h0 h1 t hq e hf hin
            | false => exact rattr_39ok l w hl h0 h1 t hq e hf hin
end Go.Proofs.YtelhdkidnhfnbaaDoor
