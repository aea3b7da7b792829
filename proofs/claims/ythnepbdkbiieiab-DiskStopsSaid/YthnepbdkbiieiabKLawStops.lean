/-
  DiskStops' call: it answers true. Conditions: the number is an int; the slice reads as texts whose lengths are lengths.
-/
import Derived.Test.YthnepbdkbiieiabKRefName
import Derived.Test.YthnepbdkbiieiabKOpen
import Derived.SliceStrings
namespace Go.Proofs.Ythnepbdkbiieiab
open Go.RowKit Go.ChangeShapes Go.WideShapes

/-! ### in plain words -/
def StopSt (n : Int) (k : Nat) (A : ADisk) : Prop := A.q = 1048576 ∧ A.L.length ≤ k ∧ (∀ f ∈ A.L, f.bytes.length ≤ k) ∧
  (((k : Int) ≤ n ∧ A.off = false ∧ A.lasts = n - k ∧ A.deeds = k) ∨ (n < k ∧ A.off = true ∧ A.lasts = 0 ∧ A.deeds = n))
theorem used_le {k : Nat} : ∀ {L : List AFile}, (∀ f ∈ L, f.bytes.length ≤ k) → usedA L ≤ L.length * k
  | [], _ => by simp [usedA]
  | f :: r, h => by
    have h1 := h f (by simp)
    have h2 := used_le (L := r) fun x hx => h x (by simp [hx])
    unfold usedA at *
    rw [List.map_cons, List.sum_cons, List.length_cons, Nat.add_mul]
    omega
theorem ins_mem {e f : AFile} : ∀ {L : List AFile}, f ∈ insA e L → f = e ∨ f ∈ L
  | [], h => .inl (by simpa [insA] using h)
  | x :: r, h => by
    unfold insA at h
    split at h
    · rcases List.mem_cons.1 h with h | h
      · exact .inl h
      · exact .inr h
    · rcases List.mem_cons.1 h with h | h
      · exact .inr (by simp [h])
      · rcases ins_mem h with h | h
        · exact .inl h
        · exact .inr (by simp [h])
theorem ins_len (e : AFile) : ∀ L : List AFile, (insA e L).length = L.length + 1
  | [] => rfl
  | x :: r => by
    unfold insA
    split
    · rfl
    · rw [List.length_cons, List.length_cons, ins_len e r]
theorem grown_st {L : List AFile} {k : Nat} (x : List UInt8) (h1 : L.length ≤ k) (h2 : ∀ f ∈ L, f.bytes.length ≤ k) : (grownL L x [1]).length ≤ k + 1 ∧ ∀ f ∈ grownL L x [1], f.bytes.length ≤ k + 1 := by
  unfold grownL
  cases he : atA L x with
  | none =>
    refine ⟨?_, fun f hf => ?_⟩
    · show (insA _ (delA x L)).length ≤ k + 1
      rw [ins_len]
      have : (delA x L).length ≤ L.length := List.length_filter_le _ _
      omega
    · rcases ins_mem (show f ∈ insA _ (delA x L) from hf) with rfl | hf
      · show 1 ≤ k + 1
        omega
      · have := h2 f ((List.mem_filter.1 hf).1)
        omega
  | some e =>
    have hm : e ∈ L := List.mem_of_find?_eq_some he
    refine ⟨?_, fun f hf => ?_⟩
    · show (updA _ L).length ≤ k + 1
      unfold updA
      rw [List.length_map]
      omega
    · obtain ⟨f0, hf0, rfl⟩ := List.mem_map.1 (show f ∈ L.map _ from hf)
      by_cases hn : f0.name = e.name
      · rw [if_pos hn]
        have := h2 e hm
        show (e.bytes ++ [1]).length ≤ k + 1
        rw [List.length_append]
        simp only [List.length_cons, List.length_nil]
        omega
      · rw [if_neg hn]
        have := h2 f0 hf0
        omega
theorem append_on {A : ADisk} {x b : List UInt8} (ho : A.off = false) (hn : nameB x = true) (hf : fullA A x b = false) : appendA A x b = spendA { A with L := grownL A.L x b } ∧ appendAV A x b = spendAV A := by
  unfold appendA appendAV
  have h1 : ¬ A.off = true := by rw [ho]; exact Bool.false_ne_true
  have h2 : ¬ nameB x = false := by rw [hn]; decide
  have h3 : ¬ fullA A x b = true := by rw [hf]; exact Bool.false_ne_true
  rw [if_neg h1, if_neg h1, if_neg h2, if_neg h2, if_neg h3, if_neg h3]
  exact ⟨rfl, rfl⟩
theorem stop_step {n : Int} {k : Nat} {A : ADisk} (h : StopSt n k A) (hk : k < 50) (x : List UInt8) (hx : nameB x = true) : appendAV A x [1] = (if (k : Int) < n then 0 else 30) ∧ StopSt n (k + 1) (appendA A x [1]) := by
  obtain ⟨hq, h1, h2, h3⟩ := h
  rcases h3 with ⟨a1, a2, a3, a4⟩ | ⟨a1, a2, a3, a4⟩
  · have hu := used_le h2
    have hu2 : A.L.length * k ≤ 50 * 50 := Nat.mul_le_mul (by omega) (by omega)
    have hf : fullA A x [1] = false := by
      unfold fullA
      rw [decide_eq_false (by omega), Bool.and_false, hq, decide_eq_false (by simp only [List.length_cons, List.length_nil]; omega)]
      rfl
    have hg := grown_st x h1 h2
    obtain ⟨e1, e2⟩ := append_on a2 hx hf
    rw [e1, e2]
    unfold spendA spendAV
    by_cases hkn : (k : Int) < n
    · have hl : ¬ A.lasts = 0 := by omega
      rw [if_neg hl, if_pos hkn, if_neg (show ¬ (ADisk.mk A.q A.deeds A.lasts A.off (grownL A.L x [1])).lasts = 0 from hl)]
      refine ⟨rfl, hq, hg.1, hg.2, .inl ⟨by omega, a2, ?_, ?_⟩⟩
      · show (if A.lasts = -1 then -1 else A.lasts - 1) = _
        rw [if_neg (by omega)]
        omega
      · show A.deeds + 1 = _
        omega
    · have hl : A.lasts = 0 := by omega
      rw [if_pos hl, if_neg hkn, if_pos (show (ADisk.mk A.q A.deeds A.lasts A.off (grownL A.L x [1])).lasts = 0 from hl)]
      exact ⟨rfl, hq, hg.1, hg.2, .inr ⟨by omega, rfl, hl, by show A.deeds = n; omega⟩⟩
  · unfold appendA appendAV
    rw [a2, if_pos rfl, if_pos rfl, if_neg (by omega)]
    exact ⟨rfl, hq, by omega, fun f hf => by have := h2 f hf; omega, .inr ⟨by omega, a2, a3, a4⟩⟩
theorem stop_wf {n : Int} {k : Nat} {A : ADisk} (h : StopSt n k A) (hk : k ≤ 50) (h0 : 0 ≤ n) (hn : n ≤ 9223372036854775807) : WfA A := by
  obtain ⟨hq, h1, h2, h3⟩ := h
  have hu := used_le h2
  have hu2 : A.L.length * k ≤ 50 * 50 := Nat.mul_le_mul (by omega) (by omega)
  refine ⟨?_, ?_, ?_, ?_, by omega, by omega⟩ <;> rcases h3 with ⟨a1, a2, a3, a4⟩ | ⟨a1, a2, a3, a4⟩ <;> omega
theorem stop_zero {n : Int} (h0 : 0 ≤ n) : StopSt n 0 (stopA ⟨1048576, 0, -1, false, []⟩ n) := by
  unfold stopA
  rw [if_neg (by omega)]
  exact ⟨rfl, Nat.le_refl _, (fun f hf => by cases hf), Or.inl ⟨by omega, rfl, by show n = n - ((0 : Nat) : Int); omega, rfl⟩⟩

/-! ### a slice of texts that came in -/
def RdS (w : World) (B : Nat) (v : Value) (L : List (List UInt8)) : Prop :=
  ∃ A c, v = .slice A L.length c ∧ L.length ≤ c ∧ c ≤ maxLen ∧ (0 < L.length → ∃ b o, A = some ⟨b, o, none⟩ ∧ b < B ∧ ∀ j (h : j < L.length), w.cell? ⟨b, o + j, none⟩ = some (.string (str L[j]))) ∧ ∀ x ∈ L, x.length ≤ maxLen
def RdStrs (w : World) (v : Value) : Prop := ∃ L, RdS w w.heap.size v L
theorem strs_open {H : Type} {enc : TypeId × Value → H} {W : World} {base : Nat} {v : Value} {x : DataW H} {p : List MemPlace} (hv : Value.okWide Try.prog W .any base 47 v) (ht : DataW.Trod enc Try.prog W 0 (fun _ => true) true 47 v x p) : RdStrs W v := by
  obtain ⟨a, n, c, rfl⟩ := okWide_slice Try.underlying47 hv
  obtain ⟨fuel, hf⟩ := ht
  rcases open_strings Try.underlying47 Try.underlying9 (by kernel_rfl) hf with ⟨hcs, _⟩ | ⟨ad, l, cc, ss, hcs, _, hl, hm, hz, _, hcell, hsz⟩
  · simp [Value.cells] at hcs
    obtain ⟨rfl, rfl, rfl⟩ := hcs
    exact ⟨[], none, 0, rfl, Nat.le_refl _, Nat.zero_le _, fun h => absurd h (by simp), fun x hx => by cases hx⟩
  · simp [Value.cells] at hcs
    obtain ⟨rfl, rfl, rfl⟩ := hcs
    have hz' : ss.length = c := by simpa using hz
    have hll : ((ss.take n).map fun s => s.data.toList).length = n := by simp; omega
    refine ⟨(ss.take n).map fun s => s.data.toList, some ad, c, by rw [hll], by omega, hm, fun h0 => ?_, fun x hx => ?_⟩
    · rw [hll] at h0
      have hc0 := hcell 0 (by omega)
      have hx0 : ad.add 0 = ad := by simp [Addr.add]
      rw [hx0] at hc0
      obtain ⟨b, o, sp⟩ := ad
      have hsp : sp = none := World.cell?_spot hc0
      subst hsp
      refine ⟨b, o, rfl, World.block_lt_of_cell? W _ hc0, fun j hj => ?_⟩
      rw [hll] at hj
      have hcj := hcell j (by omega)
      have hadd : (⟨b, o, none⟩ : Addr).add j = ⟨b, o + j, none⟩ := by
        unfold Addr.add
        by_cases h : j = 0 <;> simp [h]
      rw [hadd] at hcj
      rw [hcj]
      have e1 : ss.getD j ByteArray.empty = ss[j]'(by omega) := by simp [List.getD, List.getElem?_eq_getElem (show j < ss.length by omega)]
      rw [e1]
      simp [str]
    · obtain ⟨s, hs, rfl⟩ := List.mem_map.1 hx
      have := hsz s (List.mem_of_mem_take hs)
      show s.data.toList.length ≤ maxLen
      rw [Array.length_toList]
      exact this

/-! ### the walk -/
def StopsRel (n : Int) (len lo g b : Nat) (w : World) (u7 u8 : Value) (W : World) : Prop :=
  ∃ (i k : Nat) (d : KDisk), k ≤ i ∧ i ≤ len ∧ u7 = .int .i64 (k : Int) ∧ u8 = .int .i64 (i : Int) ∧ DiskAt W lo g b d ∧ StopSt n k (absD d) ∧ Below lo w W
set_option maxHeartbeats 3200000 in
set_option maxRecDepth 100000 in
theorem kstops_any (n : Int) (v : Value) (w : World) (hn : n ≤ 9223372036854775807) (hv : RdStrs w v) : Calls Try.prog 6 #[.int .i64 n, v] w (Holds w) := by
  obtain ⟨L, Al, cl, rfl, hlc, hcm, hcells, hlen⟩ := hv
  have HC := Lib.hid hcells
  have HL := Lib.hid hlen
  have HM := Lib.hid hcm
  clear hcells hlen hcm
  by_cases h0 : n < 0
  · go_enter Try.func6, Try.ntmps6
    go_wp2_with fail
    refine (knew 1048576 _ (by decide) (by decide)).mono ?_
    rintro e w0 ⟨g, b, rfl, hd0, hb0⟩
    clear hd0
    go_wp2_with fail
    refine (klives_any _).mono ?_
    rintro e w1 ⟨rfl, b1⟩
    go_wp2_with fail
    refine (klives_any _).mono ?_
    rintro e w2 ⟨rfl, b2⟩
    go_wp2_with fail
    go_ret
    exact ⟨rfl, (hb0.trans (b1.mono hb0.size)).trans (b2.mono (hb0.trans (b1.mono hb0.size)).size)⟩
  · by_cases h50 : (50 : Int) < (L.length : Int)
    · have h0' : decide (n < 0) = false := decide_eq_false h0
      go_enter Try.func6, Try.ntmps6
      go_wp2_with fail
      refine (knew 1048576 _ (by decide) (by decide)).mono ?_
      rintro e w0 ⟨g, b, rfl, hd0, hb0⟩
      clear hd0
      go_wp2_with fail
      refine (klives_any _).mono ?_
      rintro e w1 ⟨rfl, b1⟩
      go_wp2_with fail
      refine (klives_any _).mono ?_
      rintro e w2 ⟨rfl, b2⟩
      go_wp2_with fail
      go_ret
      exact ⟨rfl, (hb0.trans (b1.mono hb0.size)).trans (b2.mono (hb0.trans (b1.mono hb0.size)).size)⟩
    · have h0' : decide (n < 0) = false := decide_eq_false h0
      have h50' : decide ((50 : Int) < (L.length : Int)) = false := decide_eq_false h50
      have hl50 : L.length ≤ 50 := by omega
      have hnp : 0 ≤ n := by omega
      have HNN := Lib.hid hn
      clear hn
      go_enter Try.func6, Try.ntmps6
      go_wp2_with fail
      refine (knew 1048576 _ (by decide) (by decide)).mono ?_
      rintro e w0 ⟨g, b, rfl, hd0, hb0⟩
      have HD0 := Lib.hid hd0
      have HB0 := Lib.hid hb0
      clear hd0 hb0
      go_wp2_with fail
      refine (klives_any _).mono ?_
      rintro e w1 ⟨rfl, b1⟩
      have HD1 := Lib.hid (HD0.out.below b1)
      have HB1 := Lib.hid (HB0.out.trans (b1.mono HB0.out.size))
      clear b1 HD0
      go_wp2_with fail
      refine (astop HD1.out n).mono ?_
      intro e w2 hs
      obtain ⟨rfl, d2, hd2, ha2, hb2⟩ := hs.one HD1.out
      have hst : StopSt n 0 (absD d2) := by rw [ha2]; exact stop_zero hnp
      have HD2 := Lib.hid hd2
      have HS2 := Lib.hid hst
      have HB2 := Lib.hid (HB1.out.trans hb2)
      clear hs hd2 ha2 hb2 HD1 hst
      go_wp2_with fail
      go_loopw [7, 8] (StopsRel n L.length w.heap.size g b w) (fun _ u8 _ => L.length - (intOf u8).toNat)
      case atStart => exact ⟨0, 0, d2, Nat.le_refl _, Nat.zero_le _, rfl, rfl, HD2.out, HS2.out, HB2.out⟩
      case round =>
        obtain ⟨i, k, d, hki, hil, rfl, rfl, hd, hst, hbw⟩ := hrel
        have HD := Lib.hid hd
        have HS := Lib.hid hst
        have HB := Lib.hid hbw
        clear hd hst hbw
        by_cases hlt : i < L.length
        · obtain ⟨bl, ol, rfl, hbl, hcell⟩ := HC.out (by omega)
          have x0 : wr.cell? ⟨bl, ol + i, none⟩ = some (.string (str L[i])) := (HB.out.cell (p := ⟨bl, ol + i, none⟩) hbl).trans (hcell i hlt)
          have hx1 := hbl
          have HX : Hid (L[i].length ≤ maxLen) := Lib.hid (HL.out _ (List.getElem_mem hlt))
          have HX1 : Hid (∀ o : Obj, (wr.alloc o).cell? ⟨bl, ol + i, none⟩ = some (.string (str L[i]))) := Lib.hid fun o => by
            have := ((Below.refl wr.heap.size wr).alloc (Nat.le_refl _) o).cell (p := ⟨bl, ol + i, none⟩) (World.block_lt_of_cell? wr _ x0)
            exact this.trans x0
          generalize L[i] = s at *
          have i0 : (0 : Int) ≤ (i : Int) := by omega
          have i1 : (i : Int) < (L.length : Int) := by omega
          clear hcell hbl hx1
          have kn := rname s wr HX.out
          cases hnm : nameB s with
          | false =>
            rw [hnm] at kn
            have KN := Lib.hid kn
            clear kn hnm
            go_wp2_with (go_at_call 21; refine KN.out.mono ?_; rintro e w' ⟨rfl, rfl⟩)
            go_roundw
            case rel => exact ⟨i + 1, k, d, by omega, by omega, rfl, by go_num, HD.out, HS.out, HB.out⟩
            case measure => simp [intOf]; omega
          | true =>
            rw [hnm] at kn
            have KN := Lib.hid kn
            have hsl : s.length ≤ 1099511627776 := by
              unfold nameB at hnm
              simp only [Bool.and_eq_true, decide_eq_true_eq] at hnm
              omega
            have HSL := Lib.hid hsl
            have hss := stop_step HS.out (by omega) s hnm
            have HSS := Lib.hid hss
            have hwf := stop_wf HS.out (by omega) hnp HNN.out
            have HWF := Lib.hid hwf
            have hda := HD.out.below ((Below.refl wr.heap.size wr).alloc (Nat.le_refl _) (.cells #[.int .u8 1] 5))
            have HDA := Lib.hid hda
            have kap := aappend (w := wr.alloc (.cells #[.int .u8 1] 5)) HDA.out HWF.out s HSL.out (some ⟨wr.heap.size, 0, none⟩) 1 [1] (by decide) (rdp_new HD.out _ _ rfl _ _ _ [1] rfl rfl (by decide))
            clear kn hnm hsl hss hwf hda
            have x2 := HX1.out (.cells #[.int .u8 1] 5)
            by_cases hkn : (k : Int) < n
            · rw [HSS.out.1, if_pos hkn] at kap
              have KA := Lib.hid kap
              clear kap
              go_wp2_with (first
                | (go_at_call 21; refine KN.out.mono ?_; rintro e w' ⟨rfl, rfl⟩)
                | (go_at_call 14; refine KA.out.mono ?_; intro e3 w3 hs3; obtain ⟨rfl, d3, hd3, ha3, hb3⟩ := hs3.one HDA.out; clear hs3; have HD3 := Lib.hid hd3; have HA3 := Lib.hid ha3; have HB3 := Lib.hid hb3; clear hd3 ha3 hb3))
              go_roundw
              case rel => exact ⟨i + 1, k + 1, d3, by omega, by omega, by go_num, by go_num, HD3.out, by rw [HA3.out]; exact HSS.out.2, (HB.out.alloc HB.out.size _).trans HB3.out⟩
              case measure => simp [intOf]; omega
            · rw [HSS.out.1, if_neg hkn] at kap
              have KA := Lib.hid kap
              clear kap
              go_wp2_with (first
                | (go_at_call 21; refine KN.out.mono ?_; rintro e w' ⟨rfl, rfl⟩)
                | (go_at_call 14; refine KA.out.mono ?_; intro e3 w3 hs3; obtain ⟨rfl, d3, hd3, ha3, hb3⟩ := hs3.one HDA.out; clear hs3; have HD3 := Lib.hid hd3; have HA3 := Lib.hid ha3; have HB3 := Lib.hid hb3; clear hd3 ha3 hb3))
              go_roundw
              case rel => exact ⟨i + 1, k + 1, d3, by omega, by omega, by go_num, by go_num, HD3.out, by rw [HA3.out]; exact HSS.out.2, (HB.out.alloc HB.out.size _).trans HB3.out⟩
              case measure => simp [intOf]; omega
        · have ko := yoff HD.out rfl
          have kd := ydeeds HD.out rfl
          obtain ⟨q1, q2, q3, h3⟩ := HS.out
          clear q1 q2 q3
          rcases h3 with ⟨a1, a2, a3, a4⟩ | ⟨a1, a2, a3, a4⟩
          · have a1d : decide (n < (k : Int)) = false := decide_eq_false (by omega)
            rw [a2] at ko
            rw [a4] at kd
            have KO := Lib.hid ko
            have KD := Lib.hid kd
            clear ko kd a2 a3 a4
            go_wp2_with (first
              | (go_at_call 22; refine KO.out.mono ?_; rintro e w' ⟨rfl, rfl⟩)
              | (go_at_call 23; refine KD.out.mono ?_; rintro e w' ⟨rfl, rfl⟩))
            go_ret
            exact ⟨rfl, HB.out⟩
          · rw [a2] at ko
            rw [a4] at kd
            have KO := Lib.hid ko
            have KD := Lib.hid kd
            clear ko kd a2 a3 a4
            go_wp2_with (first
              | (go_at_call 22; refine KO.out.mono ?_; rintro e w' ⟨rfl, rfl⟩)
              | (go_at_call 23; refine KD.out.mono ?_; rintro e w' ⟨rfl, rfl⟩))
            go_ret
            exact ⟨rfl, HB.out⟩
end Go.Proofs.Ythnepbdkbiieiab
