/-
  WordsBoth's and WordsJoined's calls: they answer true. Condition: the texts' lengths are lengths.
-/
import Derived.Test.YtmimkcdomgoefaaWMath
import Derived.Test.YtmimkcdomgoefaaGuard
namespace Go.Proofs.Ytmimkcdomgoefaa
open Go.RowKit
open Go.Lib (decodeL encodeRune)

theorem RdV.src {w : World} {B : Nat} {v : Value} {xs : List Value} (h : RdV w B v xs) : Src w v xs := by
  obtain ⟨A, c, rfl, h1, h2, h3⟩ := h
  refine ⟨A, c, rfl, fun e => ?_, fun ad e j u hu => ?_⟩
  · subst e
    rcases Nat.eq_zero_or_pos xs.length with h0 | h0
    · exact List.length_eq_zero_iff.1 h0
    · obtain ⟨b, o, e, _⟩ := h3 h0
      cases e
  · obtain ⟨hj, rfl⟩ := List.getElem?_eq_some_iff.1 hu
    obtain ⟨b, o, e', _, hc⟩ := h3 (by omega)
    rw [e] at e'
    injection e' with e'
    subst e'
    rw [← hc j hj]
    simp [Addr.add]
    by_cases hz : j = 0 <;> simp [hz]
theorem strs_one (L : List (List UInt8)) : ∀ u ∈ strs L, u.oneCell' = true := by
  intro u hu
  obtain ⟨x, _, rfl⟩ := List.mem_map.1 hu
  rfl
theorem strs_append (L M : List (List UInt8)) : strs (L ++ M) = strs L ++ strs M := by simp [strs]
theorem rsame_yes (L : List (List UInt8)) (va vb : Value) (B : Nat) (w : World) (ha : RdV w B va (strs L)) (hb : RdV w B vb (strs L)) : Calls Try.prog 30 #[va, vb] w (Drew w (.bool true)) := by
  have h := rsame_any L L va vb B w ha hb
  rw [decide_eq_true rfl] at h
  exact h

set_option maxHeartbeats 3200000 in
set_option maxRecDepth 100000 in
theorem lboth_any (a b : List UInt8) (w : World) : Calls Try.prog 10 #[.string (str a), .string (str b)] w (Holds w) := by
  by_cases h3 : (2000 : Int) < (a.length : Int)
  · go_enter Try.func10, Try.ntmps10
    go_wp2_with fail
    refine (wlives_any _).mono ?_
    rintro e w1 ⟨rfl, b1⟩
    go_wp2_with fail
    go_ret
    exact ⟨rfl, b1⟩
  by_cases h4 : (2000 : Int) < (b.length : Int)
  · have h3' : decide ((2000 : Int) < (a.length : Int)) = false := decide_eq_false h3
    go_enter Try.func10, Try.ntmps10
    go_wp2_with fail
    refine (wlives_any _).mono ?_
    rintro e w1 ⟨rfl, b1⟩
    go_wp2_with fail
    go_ret
    exact ⟨rfl, b1⟩
  have h3' : decide ((2000 : Int) < (a.length : Int)) = false := decide_eq_false h3
  have h4' : decide ((2000 : Int) < (b.length : Int)) = false := decide_eq_false h4
  have hca := words_count a
  have hcb := words_count b
  have k1 := fun W => words_any (a ++ 32 :: b) W (by rw [List.length_append, List.length_cons]; omega)
  have k2 := fun W => words_any a W (by omega)
  have k3 := fun W => words_any b W (by omega)
  rw [wordsS_app] at k1
  have ks := rsame_yes (wordsS a ++ wordsS b)
  have hst : (str a ++ (⟨#[32]⟩ : ByteArray)) ++ str b = str (a ++ 32 :: b) := by
    have e : (⟨#[32]⟩ : ByteArray) = str [32] := rfl
    rw [e, str_append, str_append, List.append_assoc]
    rfl
  have hLa : (wordsS a).length ≤ 2001 := by omega
  have hLb : (wordsS b).length ≤ 2001 := by omega
  generalize wordsS a = La at *
  generalize wordsS b = Lb at *
  have hsa : (strs La).length ≤ 2001 := by rw [strs_length]; exact hLa
  have hsb : (strs Lb).length ≤ 2001 := by rw [strs_length]; exact hLb
  have hsab : ([] ++ strs La).length ≤ 2001 := by rw [List.nil_append]; exact hsa
  have H1 := Lib.hid k1
  have H2 := Lib.hid k2
  have H3 := Lib.hid k3
  have HS := Lib.hid ks
  have HSA := Lib.hid hsa
  have HSB := Lib.hid hsb
  have HSAB := Lib.hid hsab
  clear k1 k2 k3 ks hca hcb hLa hLb hsa hsb hsab
  go_enter Try.func10, Try.ntmps10
  go_wp2_with fail
  refine (wlives_any _).mono ?_
  rintro e w1 ⟨rfl, b1⟩
  go_wp2_with fail
  refine (H1.out _).mono ?_
  rintro e w2 ⟨v1, rfl, hown1, hb⟩
  have b2 : Below w.heap.size w w2 := b1.trans (hb.mono b1.size)
  have hr1 := hown1.rdv (Nat.le_refl _)
  have e0 := Own.empty w2 9 w2.heap.size rfl
  have bA : Below w2.heap.size w2 (w2.alloc (.cells #[] 9)) := (Below.refl _ _).alloc (Nat.le_refl _) _
  have hsA : (w2.alloc (.cells #[] 9)).heap.size = w2.heap.size + 1 := by simp
  have HR1 := Lib.hid hr1
  have HE0 := Lib.hid e0
  have HBA := Lib.hid bA
  have HSZ := Lib.hid hsA
  clear hb hown1 hr1 e0 bA hsA hst
  go_wp2_with fail
  refine (H2.out _).mono ?_
  rintro e w3 ⟨v2, rfl, hown2, hb3⟩
  have hr2 := hown2.rdv (Nat.le_refl _)
  have e1 := HE0.out.below hb3
  have hz3 := hb3.size
  rw [HSZ.out] at hz3
  have b23 : Below w2.heap.size w2 w3 := HBA.out.trans (hb3.mono (by rw [HSZ.out]; omega))
  have HR2 := Lib.hid hr2
  have HE1 := Lib.hid e1
  have HB23 := Lib.hid b23
  clear hown2 hb3 hr2 e1 b23
  go_wp2_with (at_builtin; go_must (refine wpList_append_srcg w3 (by rfl) (.tmp 21) (.tmp 23) 34 (by rfl) w2.heap.size 9 (.string ⟨#[]⟩) 16 Try.underlying34 Try.strinfo rfl _ [] (by rfl) (by exact HE1.out) _ (strs La) (by rfl) (by exact HR2.out.src) (strs_one La) (by have := HSA.out; unfold maxLen; simp only [List.length_nil]; omega) (by have := HSA.out; simp only [List.length_nil]; omega) (by omega) ?_); intro v4 w4 hown4 hg4 hb4 _)
  have hz4 := hg4.size
  refine (H3.out _).mono ?_
  rintro e w5 ⟨v5, rfl, hown5, hb5⟩
  have hr5 := hown5.rdv (Nat.le_refl _)
  have hown4' := hown4.below hb5
  have hz5 := hb5.size
  have b25 : Below w2.heap.size w2 w5 := (HB23.out.trans hb4).trans (hb5.mono (by omega))
  have HR5 := Lib.hid hr5
  have HO4 := Lib.hid hown4'
  have HB25 := Lib.hid b25
  clear hown5 hr5 hown4 hown4' hb4 hb5 b25 hg4
  go_wp2_with (at_builtin; go_must (refine wpList_append_srcg w5 (by rfl) (.tmp 24) (.tmp 26) 34 (by rfl) w2.heap.size 9 (.string ⟨#[]⟩) 16 Try.underlying34 Try.strinfo rfl _ ([] ++ strs La) (by rfl) (by exact HO4.out) _ (strs Lb) (by rfl) (by exact HR5.out.src) (strs_one Lb) (by have := HSAB.out; have := HSB.out; unfold maxLen; omega) (by have := HSAB.out; have := HSB.out; omega) (by omega) ?_); intro v6 w6 hown6 hg6 hb6 _)
  have e6 : [] ++ strs La ++ strs Lb = strs (La ++ Lb) := by rw [List.nil_append, strs_append]
  rw [e6] at hown6
  have hr6 := hown6.rdv (Nat.le_refl _)
  have b26 : Below w2.heap.size w2 w6 := HB25.out.trans hb6
  have hr16 := (HR1.out.below b26).more b26.size
  have HR6 := Lib.hid hr6
  have HR16 := Lib.hid hr16
  have b7 : Below w.heap.size w w6 := b2.trans (b26.mono b2.size)
  clear e6 hown6 hr6 hr16 b26 hb6 hg6
  refine (HS.out _ _ w6.heap.size _ (by exact HR16.out) (by exact HR6.out)).mono ?_
  rintro e w7 ⟨rfl, q, hw7⟩
  have b8 : Below w.heap.size w w7 := by rw [hw7]; exact below_drewN b7 q
  clear hw7
  go_wp2_with fail
  go_ret
  exact ⟨rfl, b8⟩

/-! ### joined -/
def JoinRel (L : List (List UInt8)) (w : World) (u4 u5 : Value) (W : World) : Prop := ∃ k : Nat, k ≤ L.length ∧ u5 = .int .i64 (k : Int) ∧ u4 = .string (str (joined (L.take k))) ∧ Below w.heap.size w W
set_option maxHeartbeats 3200000 in
set_option maxRecDepth 100000 in
theorem ljoined_any (l : List UInt8) (w : World) : Calls Try.prog 9 #[.string (str l)] w (Holds w) := by
  by_cases h3 : (2000 : Int) < (l.length : Int)
  · go_enter Try.func9, Try.ntmps9
    go_wp2_with fail
    refine (wlives_any _).mono ?_
    rintro e w1 ⟨rfl, b1⟩
    go_wp2_with fail
    go_ret
    exact ⟨rfl, b1⟩
  have hc := words_count l
  have hgood := words_good l
  have hjw := joined_words (wordsS l) fun x hx => good_word (hgood x hx)
  have hjl := joined_len (wordsS l) fun x hx => good_len (hgood x hx)
  have k1 := fun W => words_any l W (by omega)
  have k2 := fun (x : List UInt8) (hx : x ∈ wordsS l) (W : World) => is_any x W (by have := good_len (hgood x hx); omega)
  have k3 := fun W => words_any (joined (wordsS l)) W (by omega)
  have k4 := fun W => wsame_any l (joined (wordsS l)) W (by omega) (by omega)
  have hyes := fun x hx => words_is l x hx
  have hlen : ∀ x ∈ wordsS l, x.length ≤ 128 := fun x hx => good_len (hgood x hx)
  rw [hjw] at k3
  rw [hjw, decide_eq_true rfl] at k4
  have ks := rsame_yes (wordsS l)
  generalize wordsS l = L at *
  have hL : L.length ≤ 2001 := by omega
  have H1 := Lib.hid k1
  have H2 := Lib.hid k2
  have H3 := Lib.hid k3
  have H4 := Lib.hid k4
  have HY := Lib.hid hyes
  have HS := Lib.hid ks
  have HLEN := Lib.hid hlen
  clear k1 k2 k3 k4 hyes ks hc hgood hjw hjl hlen
  go_enter Try.func9, Try.ntmps9
  go_wp2_with fail
  refine (H1.out _).mono ?_
  rintro e w1 ⟨v1, rfl, hown1, b1⟩
  have hr1 := hown1.rdv (Nat.le_refl _)
  obtain ⟨A, c, rfl, _, _, hcell⟩ := id hr1
  rw [strs_length L] at hr1 ⊢
  have HR1 := Lib.hid hr1
  have HC := Lib.hid hcell
  have HB1 := Lib.hid b1
  clear hown1 hr1 hcell b1
  go_wp2_with fail
  go_loopw [4, 5] (JoinRel L w1) (fun _ u _ => L.length - (intOf u).toNat)
  case atStart => exact ⟨0, Nat.zero_le _, rfl, rfl, Below.refl _ _⟩
  case round =>
    obtain ⟨k, hk, rfl, rfl, hbw⟩ := hrel
    have hsz := hbw.size
    by_cases hkl : k < L.length
    · have hkI : (k : Int) < (L.length : Int) := by omega
      obtain ⟨b, o, rfl, hbl, hcc⟩ := HC.out (by rw [strs_length]; omega)
      have hx := hcc k (by rw [strs_length]; exact hkl)
      rw [strs_at k hkl] at hx
      have hx2 := (hbw.cell (p := ⟨b, o + k, none⟩) hbl).trans hx
      have hjt := joined_take hkl
      have hmem : L[k] ∈ L := List.getElem_mem hkl
      have hcall := H2.out L[k] hmem
      have hyes := HY.out L[k] hmem
      have hxl := HLEN.out L[k] hmem
      have hjk : (joined (L.take k)).length ≤ 300000 := by
        have h := joined_len (L.take k) fun y hy => HLEN.out y (List.mem_of_mem_take hy)
        rw [List.length_take] at h
        omega
      generalize hxx : L[k] = x at hx2 hjt hcall hyes hxl
      have hcat : (str (joined (L.take k)) ++ (⟨#[32]⟩ : ByteArray)) ++ str x = str (joined (L.take (k + 1))) := by
        have e : (⟨#[32]⟩ : ByteArray) = str [32] := rfl
        rw [e, str_append, str_append, hjt, List.append_assoc]
        rfl
      have HCALL := Lib.hid hcall
      have HYES := Lib.hid hyes
      have HCAT := Lib.hid hcat
      clear hx hcc hjt hmem hcall hyes hxx hcat
      have hx3 : ∀ W', Below wr.heap.size wr W' → W'.cell? ⟨b, o + k, none⟩ = some (.string (str x)) := fun W' hb => (hb.cell (p := ⟨b, o + k, none⟩) (Nat.lt_of_lt_of_le hbl hsz)).trans hx2
      have HX3 := Lib.hid hx3
      clear hx3
      go_wp2_with (go_at_call 34; refine (HCALL.out _).mono ?_; rw [HYES.out]; rintro e w2 ⟨rfl, hb2⟩; have hx4 := HX3.out w2 hb2)
      go_roundw
      case rel => exact ⟨k + 1, by omega, by go_num, by rw [← HCAT.out], hbw.trans (hb2.mono hsz)⟩
      case measure => simp [intOf]; omega
    · have hkI : ¬ (k : Int) < (L.length : Int) := by omega
      rw [List.take_of_length_le (by omega)]
      have hr2 := HR1.out.below hbw
      have HR2 := Lib.hid hr2
      have HBW := Lib.hid (HB1.out.trans (hbw.mono HB1.out.size))
      clear hr2
      go_wp2_with fail
      refine (wlives_any _).mono ?_
      rintro e w2 ⟨rfl, hb2⟩
      have b2 : Below w.heap.size w w2 := HBW.out.trans (hb2.mono HBW.out.size)
      have hr3 := HR2.out.below (hb2.mono hsz)
      have hz2 := hb2.size
      have HR3 := Lib.hid hr3
      clear hb2 hr3
      go_wp2_with fail
      refine (H3.out _).mono ?_
      rintro e w3 ⟨v3, rfl, hown3, hb3⟩
      have b3 : Below w.heap.size w w3 := b2.trans (hb3.mono b2.size)
      have hr3 := hown3.rdv (Nat.le_refl _)
      have hr4 := (HR3.out.below (hb3.mono (by omega))).more (B' := w3.heap.size) (by have := hb3.size; omega)
      have HR4 := Lib.hid hr3
      have HR5 := Lib.hid hr4
      clear hown3 hb3 hr3 hr4
      go_wp2_with fail
      refine (HS.out _ _ w3.heap.size _ (by exact HR4.out) (by exact HR5.out)).mono ?_
      rintro e w4 ⟨rfl, q, hw4⟩
      have b4 : Below w.heap.size w w4 := by rw [hw4]; exact below_drewN b3 q
      clear hw4
      go_wp2_with fail
      refine (H4.out _).mono ?_
      rintro e w5 ⟨rfl, hb5⟩
      have b5 : Below w.heap.size w w5 := b4.trans (hb5.mono b4.size)
      clear hb5
      go_wp2_with fail
      go_ret
      exact ⟨rfl, b5⟩
end Go.Proofs.Ytmimkcdomgoefaa
