/-
  The document's own Read (newsstandref07): what it answers. Condition: at most 2^40 bytes.
-/
import Derived.Test.YtelhdkidnhfnbaaDoorERefS
import Derived.Test.YtelhdkidnhfnbaaDoorMgG
namespace Go.Proofs.YtelhdkidnhfnbaaDoor
open Go.RowKit
open Go.Lib (encodeRune)

theorem semi_none {t : List UInt8} (h : ∀ b ∈ t, b ≠ 59) : firstR t = none := by
  have e : semi t = none := by
    unfold semi
    rw [if_pos]
    rw [List.all_eq_true]
    intro b hb
    simpa using h b hb
  unfold firstR
  rw [e]
theorem first_far {t : List UInt8} (hl : 12 ≤ t.length) (h : ∀ b ∈ t.take 12, b ≠ 59) : firstR t = none := by
  unfold firstR
  cases hs : semi t with
  | none => rfl
  | some p =>
    simp only
    cases hg : signR (t.take p) with
    | none => rfl
    | some c =>
      exfalso
      have h8 := (signR_low hg).1
      rw [List.length_take] at h8
      unfold semi at hs
      by_cases ha : (t.all fun b => b != 59) = true
      · rw [if_pos ha] at hs
        cases hs
      · rw [if_neg ha] at hs
        injection hs with hs
        have ha2 : (t.all fun b => b != 59) = false := by simpa using ha
        obtain ⟨h1, h2⟩ := tw_lt 59 t ha2
        obtain ⟨h3, h4⟩ := List.getElem?_eq_some_iff.1 h2
        rw [hs] at h1
        have hp : p ≤ 8 := by omega
        have hmem : t[(t.takeWhile fun b => b != 59).length] ∈ t.take 12 := by
          rw [List.mem_take_iff_getElem]
          exact ⟨(t.takeWhile fun b => b != 59).length, by omega, rfl⟩
        exact h _ hmem h4
theorem first_at {t : List UInt8} {p : Nat} (hp : p < t.length) (h59 : t[p] = 59) (hb : ∀ b ∈ t.take p, b ≠ 59) : firstR t = (signR (t.take p)).map fun c => (c, p + 1) := by
  unfold firstR
  rw [semi_eq t p hp h59 hb]
theorem no59_snoc {t : List UInt8} {p : Nat} (hp : p < t.length) (h : ∀ b ∈ t.take p, b ≠ 59) (hn : t[p] ≠ 59) : ∀ b ∈ t.take (p + 1), b ≠ 59 := by
  intro b hb
  rw [List.take_succ_eq_append_getElem hp, List.mem_append] at hb
  rcases hb with hb | hb
  · exact h b hb
  · rw [List.mem_singleton] at hb
    rw [hb]
    exact hn
def RReadRel (l : List UInt8) (w : World) (u3 u4 : Value) (W : World) : Prop :=
  ∃ (i : Nat) (out : List UInt8), i ≤ l.length ∧ u4 = .int .i64 (i : Int) ∧ Own W w.heap.size 5 u3 (bvs out) ∧ readR l = out ++ readR (l.drop i) ∧ Below w.heap.size w W
def ScanRel (l : List UInt8) (i : Nat) (we : World) (u : Value) (W : World) : Prop :=
  ∃ k : Nat, i + 1 ≤ k ∧ k ≤ i + 12 ∧ k ≤ l.length ∧ (∀ b ∈ (l.drop (i + 1)).take (k - (i + 1)), b ≠ 59) ∧ u = .int .i64 (k : Int) ∧ W = we
theorem read_step {l : List UInt8} {i : Nat} (h : i < l.length) : readR (l.drop i) = if l[i] = 38 then (match firstR (l.drop (i + 1)) with | some (c, k) => encodeRune c ++ readR ((l.drop (i + 1)).drop k) | none => 38 :: readR (l.drop (i + 1))) else l[i] :: readR (l.drop (i + 1)) := by
  rw [drop_cons h]
  by_cases hb : l[i] = 38
  · rw [if_pos hb, hb, readR_amp]
    cases firstR (l.drop (i + 1)) <;> rfl
  · rw [if_neg hb, readR_other _ _ hb]
theorem bvs_one' (b : UInt8) : bvs [b] = [.int .u8 (b.toNat : Int)] := rfl
set_option maxHeartbeats 6400000 in
set_option maxRecDepth 100000 in
theorem rread_any (l : List UInt8) (w : World) (hl : l.length ≤ 1099511627776) : Calls Tryd.prog 46 #[.string (str l)] w (Made w (.string (str (readR l)))) := by
  have HRL := Lib.hid (readF_len l.length l (Nat.le_refl _))
  go_enter Tryd.func46, Tryd.ntmps46
  go_wp2_with fail
  go_loopw [3, 4] (RReadRel l w) (fun _ u _ => l.length - (intOf u).toNat)
  case atStart => exact ⟨0, [], Nat.zero_le _, rfl, Own.nil _ _ _, rfl, Below.refl _ _⟩
  case round =>
    obtain ⟨i, out, hi, rfl, hown, hrd, hbw⟩ := hrel
    obtain ⟨we, hwe⟩ : ∃ we, we = wr := ⟨_, rfl⟩
    subst hwe
    have hsz := hbw.size
    by_cases hil : i < l.length
    · have hiI : (i : Int) < (l.length : Int) := by omega
      have hol : out.length + 8 ≤ 5000000000000 := by have h1 := HRL.out; rw [hrd, List.length_append] at h1; omega
      have HL := Lib.hid hol
      have hix := idx_at l i hil
      have hxx : at0B l i = l[i].toNat := by unfold at0B; rw [show l.getD i 0 = l[i] by simp [List.getD, hil]]
      rw [hxx] at hix
      have hst := read_step hil
      have HO := Lib.hid hown
      have HBW := Lib.hid hbw
      have HB := Lib.hid (bvs_one' l[i])
      clear hown hbw hol hxx
      by_cases hb38 : l[i] = 38
      · rw [if_pos hb38] at hst
        rw [hb38, show (((38 : UInt8).toNat : Nat) : Int) = 38 from rfl] at hix
        rw [hb38, show (((38 : UInt8).toNat : Nat) : Int) = 38 from rfl] at HB
        obtain ⟨b, hb⟩ : ∃ b : UInt8, b = 38 := ⟨_, rfl⟩
        rw [← hb] at HB hst
        clear hb38
        have hno : firstR (l.drop (i + 1)) = none → readR l = (out ++ [b]) ++ readR (l.drop (i + 1)) := fun hn => by rw [hrd, hst, hn, hb]; simp
        have hso : ∀ c k, firstR (l.drop (i + 1)) = some (c, k) → readR l = (out ++ encodeRune c) ++ readR (l.drop (i + 1 + k)) := fun c k hn => by rw [hrd, hst, hn, List.append_assoc]; dsimp only; rw [List.drop_drop]
        have HNO := Lib.hid hno
        have HSO := Lib.hid hso
        clear hno hso hst hrd
        go_wp2_with fail
        go_loopw [5] (ScanRel l i we) (fun u _ => l.length - (intOf u).toNat)
        case atStart => exact ⟨i + 1, by omega, by omega, by omega, (fun b hb => by rw [Nat.sub_self, List.take_zero] at hb; cases hb), by go_num, rfl⟩
        case round =>
          obtain ⟨k, hk1, hk2, hk3, hk59, rfl, rfl⟩ := hrel
          by_cases hkl : k < l.length
          · have hkI : (k : Int) < (l.length : Int) := by omega
            have hky := idx_at l k hkl
            have hyy : at0B l k = l[k].toNat := by unfold at0B; rw [show l.getD k 0 = l[k] by simp [List.getD, hkl]]
            rw [hyy] at hky
            have hp : k - (i + 1) < (l.drop (i + 1)).length := by rw [List.length_drop]; omega
            have hpe : (l.drop (i + 1))[k - (i + 1)] = l[k] := by rw [List.getElem_drop]; congr 1; omega
            by_cases h59 : l[k] = 59
            · have hf := first_at hp (hpe.trans h59) hk59
              have hsl := slc l (i + 1) k hk1 hk3
              rw [show ((i + 1 : Nat) : Int) = (i : Int) + 1 from rfl] at hsl
              rw [h59, show (((59 : UInt8).toNat : Nat) : Int) = 59 from rfl] at hky
              have hnl : ((l.drop (i + 1)).take (k - (i + 1))).length ≤ maxLen := by rw [List.length_take, List.length_drop]; unfold maxLen; omega
              generalize (l.drop (i + 1)).take (k - (i + 1)) = nm at *
              have ks := fun W => rsign_any nm W hnl
              cases hs : signR nm with
              | none =>
                have HR := Lib.hid (HNO.out (by rw [hf, hs]; rfl))
                rw [hs, show sgV none = .tuple #[.int .i32 0, .bool false] from rfl] at ks
                have KS := Lib.hid ks
                clear ks hs hf hnl hk59 hp hpe h59 hyy hb
                go_wp2_with fail
                refine (KS.out _).mono ?_
                rintro e w' ⟨rfl, rfl⟩
                go_wp2_with (at_builtin; go_must (refine wpList_append_src _ rfl (.tmp 71) (.tmp 75) _ rfl w.heap.size 5 _ 1 Tryd.underlying41 Tryd.u8info rfl _ _ rfl (by exact HO.out.alloc _) _ [.int .u8 38] rfl (by exact src_one rfl) (by intro u hu; simp at hu; subst hu; rfl) (by rw [bvs_length]; have := HL.out; unfold maxLen; simp; omega) (by rw [bvs_length]; have := HL.out; simp; omega) (by simp; have := HBW.out.size; omega) ?_); intro v2 w2 hown2 hg2 hb2 _)
                go_roundw
                case rel => exact ⟨i + 1, out ++ [b], by omega, by go_num, by rw [bvs_append, HB.out]; exact hown2, HR.out, (HBW.out.alloc HBW.out.size _).trans hb2⟩
                case measure => simp [intOf]; omega
              | some c =>
                have HR := Lib.hid (HSO.out c (k - (i + 1) + 1) (by rw [hf, hs]; rfl))
                rw [hs, show sgV (some c) = .tuple #[.int .i32 c, .bool true] from rfl] at ks
                have KS := Lib.hid ks
                have hel := (enc_len c).2
                have hpc : put [c] = encodeRune c := by rw [put_cons, put_nil, List.append_nil]
                have hpl : (str (put [c])).size ≤ 4 := by rw [str_size, hpc]; exact hel
                have HPC := Lib.hid hpc
                have HPL := Lib.hid hpl
                have HP := Lib.hid (fun W : World => rdv_one W 21 c)
                clear ks hs hf hnl hk59 hp hpe h59 hyy hb hel hpc hpl
                go_wp2_with fail
                refine (KS.out _).mono ?_
                rintro e w' ⟨rfl, rfl⟩
                go_wp2_with fail
                refine (rput_any [c] _ _ _ (by exact HP.out _) (by simp) (by simp)).mono ?_
                rintro e w1 ⟨rfl, b1⟩
                have HO1 := Lib.hid ((HO.out.alloc _).below b1)
                have HB1 := Lib.hid ((HBW.out.alloc HBW.out.size _).trans (b1.mono (by simp; have := HBW.out.size; omega)))
                clear b1
                go_wp2_with (at_builtin; go_must (refine wpList_append_str w1 rfl (.tmp 64) (.tmp 67) _ _ rfl w.heap.size 5 Tryd.underlying41 Tryd.underlying9 Tryd.u8info _ _ rfl (by exact HO1.out) (str (put [c])) rfl (by have := HL.out; have := HPL.out; omega) HB1.out.size ?_); intro v2 w2 hown2 hg2 hb2)
                go_roundw
                case rel => exact ⟨k + 1, out ++ encodeRune c, by omega, by go_num, by rw [str_data, HPC.out] at hown2; exact hown2, by have h := HR.out; rw [show i + 1 + (k - (i + 1) + 1) = k + 1 by omega] at h; exact h, HB1.out.trans hb2⟩
                case measure => simp [intOf]; omega
            · have hns := no59_snoc hp hk59 (fun h => h59 (hpe.symm.trans h))
              have y1 : ¬ (l[k].toNat : Int) = 59 := fun h => h59 (UInt8.toNat_inj.1 (by show l[k].toNat = 59; omega))
              generalize hyg : ((l[k].toNat : Nat) : Int) = y at *
              have y2 : (y == 59) = false := by simpa using y1
              have y3 : (y != 59) = true := by simpa using y1
              by_cases hk12 : k < i + 12
              · have hkd : (k : Int) - (i : Int) < 12 := by omega
                have HNS := Lib.hid hns
                clear hns hk59 hp hpe h59 hyy hb hyg y1
                go_wp2_with fail
                go_roundw
                case rel => exact ⟨k + 1, by omega, by omega, by omega, by rw [show k + 1 - (i + 1) = k - (i + 1) + 1 by omega]; exact HNS.out, by go_num, rfl⟩
                case measure => simp [intOf]; omega
              · have hke : k = i + 12 := by omega
                have HR := Lib.hid (HNO.out (first_far (by rw [List.length_drop]; omega) (by rw [show k - (i + 1) + 1 = 12 by omega] at hns; exact hns)))
                have hkd : ¬ (k : Int) - (i : Int) < 12 := by omega
                have hkd2 : decide ((k : Int) - (i : Int) < 12) = false := decide_eq_false hkd
                clear hns hk59 hp hpe h59 hyy hb hyg y1 hke
                go_wp2_with (at_builtin; go_must (refine wpList_append_src _ rfl (.tmp 71) (.tmp 75) _ rfl w.heap.size 5 _ 1 Tryd.underlying41 Tryd.u8info rfl _ _ rfl (by exact HO.out.alloc _) _ [.int .u8 38] rfl (by exact src_one rfl) (by intro u hu; simp at hu; subst hu; rfl) (by rw [bvs_length]; have := HL.out; unfold maxLen; simp; omega) (by rw [bvs_length]; have := HL.out; simp; omega) (by simp; have := HBW.out.size; omega) ?_); intro v2 w2 hown2 hg2 hb2 _)
                go_roundw
                case rel => exact ⟨i + 1, out ++ [b], by omega, by go_num, by rw [bvs_append, HB.out]; exact hown2, HR.out, (HBW.out.alloc HBW.out.size _).trans hb2⟩
                case measure => simp [intOf]; omega
          · have hke : k = l.length := by omega
            have HR := Lib.hid (HNO.out (semi_none (by rw [List.take_of_length_le (by rw [List.length_drop]; omega)] at hk59; exact hk59)))
            have hkI : ¬ (k : Int) < (l.length : Int) := by omega
            have hkd : decide ((k : Int) < (l.length : Int)) = false := decide_eq_false hkI
            clear hk59 hb hke
            go_wp2_with (at_builtin; go_must (refine wpList_append_src _ rfl (.tmp 71) (.tmp 75) _ rfl w.heap.size 5 _ 1 Tryd.underlying41 Tryd.u8info rfl _ _ rfl (by exact HO.out.alloc _) _ [.int .u8 38] rfl (by exact src_one rfl) (by intro u hu; simp at hu; subst hu; rfl) (by rw [bvs_length]; have := HL.out; unfold maxLen; simp; omega) (by rw [bvs_length]; have := HL.out; simp; omega) (by simp; have := HBW.out.size; omega) ?_); intro v2 w2 hown2 hg2 hb2 _)
            go_roundw
            case rel => exact ⟨i + 1, out ++ [b], by omega, by go_num, by rw [bvs_append, HB.out]; exact hown2, HR.out, (HBW.out.alloc HBW.out.size _).trans hb2⟩
            case measure => simp [intOf]; omega
      · rw [if_neg hb38] at hst
        have HR : Hid (readR l = (out ++ [l[i]]) ++ readR (l.drop (i + 1))) := Lib.hid (by rw [hrd, hst]; simp)
        have x1 : ¬ (l[i].toNat : Int) = 38 := fun h => hb38 (UInt8.toNat_inj.1 (by show l[i].toNat = 38; omega))
        generalize hxg : ((l[i].toNat : Nat) : Int) = x at *
        generalize hbg : l[i] = b at *
        have x2 : (x == 38) = false := by simpa using x1
        clear hst hrd hxg hbg hb38 x1
        go_wp2_with fail
        go_loopw [5] (ScanRel l i we) (fun u _ => l.length - (intOf u).toNat)
        case atStart => exact ⟨i + 1, by omega, by omega, by omega, (fun b hb => by rw [Nat.sub_self, List.take_zero] at hb; cases hb), by go_num, rfl⟩
        case round =>
          obtain ⟨k, hk1, hk2, hk3, hk59, rfl, rfl⟩ := hrel
          clear hk59
          go_wp2_with (at_builtin; go_must (refine wpList_append_src _ rfl (.tmp 71) (.tmp 75) _ rfl w.heap.size 5 _ 1 Tryd.underlying41 Tryd.u8info rfl _ _ rfl (by exact HO.out.alloc _) _ [.int .u8 x] rfl (by exact src_one rfl) (by intro u hu; simp at hu; subst hu; rfl) (by rw [bvs_length]; have := HL.out; unfold maxLen; simp; omega) (by rw [bvs_length]; have := HL.out; simp; omega) (by simp; have := HBW.out.size; omega) ?_); intro v2 w2 hown2 hg2 hb2 _)
          go_roundw
          case rel => exact ⟨i + 1, out ++ [b], by omega, by go_num, by rw [bvs_append, HB.out]; exact hown2, HR.out, (HBW.out.alloc HBW.out.size _).trans hb2⟩
          case measure => simp [intOf]; omega
    · have hiI : ¬ (i : Int) < (l.length : Int) := by omega
      have hfin : readR l = out := by rw [hrd, List.drop_of_length_le (by omega), readR_nil, List.append_nil]
      have HF := Lib.hid hfin
      have hcv := conv_at (hown.rd (Nat.le_refl _))
      clear hfin hrd
      go_wp2_with fail
      go_ret
      exact ⟨by rw [HF.out]; rfl, hbw⟩
end Go.Proofs.YtelhdkidnhfnbaaDoor
