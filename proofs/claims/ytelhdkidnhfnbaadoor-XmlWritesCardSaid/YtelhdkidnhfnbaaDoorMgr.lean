/-
  The document's own Write (newsstandref07): what it answers. Condition: at most 2^40 bytes.
-/
import Derived.Test.YtelhdkidnhfnbaaDoorEWMath
import Derived.Test.YtelhdkidnhfnbaaDoorMgG
import Derived.Test.YtelhdkidnhfnbaaDoorXRMay
namespace Go.Proofs.YtelhdkidnhfnbaaDoor
open Go.RowKit

theorem wr_cat (a b : List UInt8) : str a ++ str b = str (a ++ b) := by
  apply ByteArray.ext
  simp [str]
theorem wr_next {l : List UInt8} {k : Nat} (h : k < l.length) : writeR (l.take (k + 1)) = writeR (l.take k) ++ escB l[k] := by
  rw [List.take_succ_eq_append_getElem h, writeR_append]
  congr 1
  unfold writeR
  rw [List.flatMap_cons, List.flatMap_nil, List.append_nil]
def RWrRel (l : List UInt8) (u3 u4 : Value) : Prop := ∃ k : Nat, k ≤ l.length ∧ u4 = .int .i64 (k : Int) ∧ u3 = .string (str (writeR (l.take k)))
set_option maxHeartbeats 3200000 in
theorem rwrite_any (l : List UInt8) (w : World) (hl : l.length ≤ 1099511627776) : Calls Tryd.prog 27 #[.string (str l)] w (Pure w (.string (str (writeR l)))) := by
  go_enter Tryd.func27, Tryd.ntmps27
  go_wp2_with fail
  go_loop [3, 4] (RWrRel l) (fun _ u4 => l.length - (intOf u4).toNat)
  case atStart => exact ⟨0, Nat.zero_le _, rfl, rfl⟩
  case round =>
    obtain ⟨k, hk, rfl, rfl⟩ := hrel
    have hwl := (writeR_len (l.take k)).2
    have hwl2 : (writeR (l.take k)).length ≤ 6 * l.length := by rw [List.length_take] at hwl; omega
    by_cases hlt : k < l.length
    · have hix := idx_at l k hlt
      have hsl := slc l k (k + 1) (by omega) (by omega)
      rw [show ((k + 1 : Nat) : Int) = (k : Int) + 1 from rfl] at hsl
      have hone : (l.drop k).take (k + 1 - k) = [l[k]] := by
        rw [show k + 1 - k = 1 by omega, drop_cons hlt, List.take_succ_cons, List.take_zero]
      rw [hone] at hsl
      have hnx := wr_next hlt
      have hx : at0B l k = l[k].toNat := by unfold at0B; rw [show l.getD k 0 = l[k] by simp [List.getD, hlt]]
      rw [hx] at hix
      have hx0 : (0 : Int) ≤ (l[k].toNat : Int) := by omega
      have hx1 : (l[k].toNat : Int) < 256 := by have := l[k].toNat_lt; omega
      have hi : (k : Int) < (l.length : Int) := by omega
      generalize writeR (l.take k) = W0 at *
      have hc : ∀ x : List UInt8, str W0 ++ str x = str (W0 ++ x) := fun x => wr_cat W0 x
      have HC := Lib.hid hc
      generalize hb : l[k] = b at *
      unfold escB at hnx
      have hsg := signE_iff (b.toNat : Int)
      clear hwl hone hx hb hc
      by_cases c1 : b.toNat = 38
      · have hv : writeR (l.take (k + 1)) = W0 ++ [38, 97, 109, 112, 59] := by rw [hnx, if_pos (hsg.2 (by omega)), c1]; rfl
        have HV := Lib.hid hv
        rw [c1] at hix
        clear hnx hsg hv hx0 hx1
        go_wp2_with fail
        go_round
        case rel => exact ⟨k + 1, by omega, by go_num, by rw [HV.out, ← HC.out]; rfl⟩
        case measure => simp [intOf]; omega
      · have d1 : (((b.toNat : Nat) : Int) == 38) = false := by simpa using fun h => c1 (by omega)
        by_cases c2 : b.toNat = 60
        · have hv : writeR (l.take (k + 1)) = W0 ++ [38, 108, 116, 59] := by rw [hnx, if_pos (hsg.2 (by omega)), c2]; rfl
          have HV := Lib.hid hv
          rw [c2] at hix
          clear hnx hsg hv hx0 hx1 d1 c1
          go_wp2_with fail
          go_round
          case rel => exact ⟨k + 1, by omega, by go_num, by rw [HV.out, ← HC.out]; rfl⟩
          case measure => simp [intOf]; omega
        · have d2 : (((b.toNat : Nat) : Int) == 60) = false := by simpa using fun h => c2 (by omega)
          by_cases c3 : b.toNat = 62
          · have hv : writeR (l.take (k + 1)) = W0 ++ [38, 103, 116, 59] := by rw [hnx, if_pos (hsg.2 (by omega)), c3]; rfl
            have HV := Lib.hid hv
            rw [c3] at hix
            clear hnx hsg hv hx0 hx1 d1 c1 d2 c2
            go_wp2_with fail
            go_round
            case rel => exact ⟨k + 1, by omega, by go_num, by rw [HV.out, ← HC.out]; rfl⟩
            case measure => simp [intOf]; omega
          · have d3 : (((b.toNat : Nat) : Int) == 62) = false := by simpa using fun h => c3 (by omega)
            by_cases c4 : b.toNat = 34
            · have hv : writeR (l.take (k + 1)) = W0 ++ [38, 113, 117, 111, 116, 59] := by rw [hnx, if_pos (hsg.2 (by omega)), c4]; rfl
              have HV := Lib.hid hv
              rw [c4] at hix
              clear hnx hsg hv hx0 hx1 d1 c1 d2 c2 d3 c3
              go_wp2_with fail
              go_round
              case rel => exact ⟨k + 1, by omega, by go_num, by rw [HV.out, ← HC.out]; rfl⟩
              case measure => simp [intOf]; omega
            · have d4 : (((b.toNat : Nat) : Int) == 34) = false := by simpa using fun h => c4 (by omega)
              by_cases c5 : b.toNat = 39
              · have hv : writeR (l.take (k + 1)) = W0 ++ [38, 97, 112, 111, 115, 59] := by rw [hnx, if_pos (hsg.2 (by omega)), c5]; rfl
                have HV := Lib.hid hv
                rw [c5] at hix
                clear hnx hsg hv hx0 hx1 d1 c1 d2 c2 d3 c3 d4 c4
                go_wp2_with fail
                go_round
                case rel => exact ⟨k + 1, by omega, by go_num, by rw [HV.out, ← HC.out]; rfl⟩
                case measure => simp [intOf]; omega
              · have d5 : (((b.toNat : Nat) : Int) == 39) = false := by simpa using fun h => c5 (by omega)
                have hv : writeR (l.take (k + 1)) = W0 ++ [b] := by rw [hnx, if_neg (fun h => by have := hsg.1 h; omega)]
                have HV := Lib.hid hv
                clear hnx hsg hv c1 c2 c3 c4 c5
                generalize hxx : ((b.toNat : Nat) : Int) = x at *
                clear hxx
                have hs1 : (str [b]).size = 1 := by rw [str_size]; rfl
                generalize hsb : str [b] = sb at *
                have HSB := Lib.hid hsb
                clear hsb hx0 hx1
                have e1 : ¬ x = 38 := by simpa using d1
                have e2 : ¬ x = 60 := by simpa using d2
                have e3 : ¬ x = 62 := by simpa using d3
                have e4 : ¬ x = 34 := by simpa using d4
                have e5 : ¬ x = 39 := by simpa using d5
                clear d1 d2 d3 d4 d5
                go_wp2_with fail
                go_round
                case rel => exact ⟨k + 1, by omega, by go_num, by rw [HV.out, ← HC.out, HSB.out]⟩
                case measure => simp [intOf]; omega
    · have hke : l.take k = l := List.take_of_length_le (by omega)
      have HK := Lib.hid hke
      clear hke
      go_wp2_with fail
      go_ret
      exact ⟨by rw [HK.out]; rfl, rfl⟩
end Go.Proofs.YtelhdkidnhfnbaaDoor

/-
  The document's Write: the text of tokens that may be. Conditions: their cells lie in memory; at most 400 tokens; lengths are lengths.
-/
namespace Go.Proofs.YtelhdkidnhfnbaaDoor
open Go.RowKit

theorem cat_strN (l m : List UInt8) : str l ++ str m = str (l ++ m) := by unfold str; exact ByteArray.mk_append_mk l m
theorem cat_arrN (l m : List UInt8) (h : str m = ⟨⟨m⟩⟩) : str l ++ ⟨⟨m⟩⟩ = str (l ++ m) := by rw [← h]; exact cat_strN l m
def KindOk (t : Tk) : Prop := t.kind = 1 ∨ t.kind = 2 ∨ t.kind = 3
theorem may_kinds : ∀ (T : List Tk) (was : Int), mayA was T = true → ∀ t ∈ T, KindOk t ∧ t.attrs.length ≤ 32
  | [], _, _, t, ht => by cases ht
  | x :: r, was, h, t, ht => by
    rw [mayA, Bool.and_eq_true] at h
    rcases List.mem_cons.1 ht with rfl | ht
    · rcases may_kind h.1 with ⟨hk, _, h3, _⟩ | ⟨hk, _, h3, _⟩ | ⟨hk, _, h3, _⟩
      · refine ⟨.inl hk, ?_⟩
        unfold attrsOk at h3
        rw [Bool.and_eq_true] at h3
        exact of_decide_eq_true h3.1
      · exact ⟨.inr (.inl hk), by rw [h3]; exact Nat.zero_le _⟩
      · exact ⟨.inr (.inr hk), by rw [h3]; exact Nat.zero_le _⟩
    · exact may_kinds r _ h.2 t ht
theorem allW_next {T : List Tk} {k : Nat} (hk : k < T.length) : allW (T.take (k + 1)) = allW (T.take k) ++ writeK T[k] := by
  unfold allW
  rw [List.take_succ_eq_append_getElem hk, List.flatMap_append]
  simp
def RWrRelX (w : World) (T : List Tk) (u3 u4 : Value) (W : World) : Prop := ∃ (k : Nat) (s : List UInt8), k ≤ T.length ∧ u4 = .int .i64 (k : Int) ∧ u3 = .string (str s) ∧ s = allW (T.take k) ∧ s.length ≤ 230000000 * k ∧ Below w.heap.size w W
def RWrIn (w1 : World) (s0 : List UInt8) (L : AttrL) (B : Nat) (u3 u6 : Value) (W : World) : Prop := ∃ (j : Nat) (s : List UInt8), j ≤ L.length ∧ u6 = .int .i64 (j : Int) ∧ u3 = .string (str s) ∧ s = s0 ++ attrsW (L.take j) ∧ s.length ≤ B + 7000010 * j ∧ ∃ m, W = w1.drewN m
theorem att_len {a : List UInt8 × List UInt8} (h : a.1.length ≤ 1000000 ∧ a.2.length ≤ 1000000) : a.1.length + (writeR a.2).length + 4 ≤ 7000010 := by
  have := (writeR_len a.2).2
  omega
set_option maxHeartbeats 12800000 in
set_option maxRecDepth 100000 in
theorem rwriteT_any {w : World} {v : Value} {G : List TokE} (h : SrcT w v G) (hl : G.length ≤ 400) (hla : ∀ e ∈ G, LenT e) (hm : mayA 0 (G.map TokE.tk) = true) : Calls Tryd.prog 14 #[v] w (Made w (.string (str (allW (G.map TokE.tk))))) := by
  have HT := Lib.hid h
  have HLA := Lib.hid hla
  have HMK := Lib.hid (may_kinds _ _ hm)
  obtain ⟨⟨A, c, rfl, _⟩, _⟩ := h
  obtain ⟨n, hn⟩ : ∃ n, n = G.length := ⟨_, rfl⟩
  rw [← hn] at HT ⊢
  have HN := Lib.hid hn
  have hnI : (n : Int) ≤ 400 := by omega
  clear hl hn hla hm
  go_enter Tryd.func14, Tryd.ntmps14
  go_wp2_with fail
  go_loopw [3, 4] (RWrRelX w (G.map TokE.tk)) (fun _ u _ => G.length - (intOf u).toNat)
  case atStart => exact ⟨0, [], Nat.zero_le _, rfl, rfl, rfl, Nat.zero_le _, Below.refl _ _⟩
  case round =>
    obtain ⟨k, s, hk, rfl, rfl, hs, hsl, hb⟩ := hrel
    have HSW := Lib.hid hs
    have HB := Lib.hid hb
    have HSL := Lib.hid hsl
    rw [List.length_map] at hk
    clear hs hb hsl
    by_cases hkn : k < n
    · have hkI : (k : Int) < (n : Int) := by omega
      have hkG : k < G.length := by have := HN.out; omega
      have HK4 : Hid (k < 400) := Lib.hid (by omega)
      obtain ⟨⟨A2, c2, hv, hA⟩, hsa⟩ := HT.out.below HB.out
      injection hv with i1 i2 i3
      clear i2
      subst i1 i3
      obtain ⟨b, o, rfl, hlt, hc⟩ := hA (by omega)
      obtain ⟨z0, z1, z2, z3⟩ := tcells_src hc hkG
      have SA := hsa _ (List.getElem_mem hkG)
      have HLN := Lib.hid (HLA.out _ (List.getElem_mem hkG))
      have HKD := Lib.hid (HMK.out G[k].tk (List.mem_map_of_mem (List.getElem_mem hkG)))
      have HK1 : Hid (k + 1 ≤ G.length) := Lib.hid hkG
      have hkm : k < (G.map TokE.tk).length := by rw [List.length_map]; exact hkG
      have HNX : Hid (allW ((G.map TokE.tk).take (k + 1)) = s ++ writeK G[k].tk) := Lib.hid (by
        rw [allW_next hkm, HSW.out, List.getElem_map]; rfl)
      have HWL : Hid (G[k].kind = 1 → G[k].attrs.length ≤ 32) := Lib.hid fun _ => HKD.out.2
      have HWK := Lib.hid (writeK_len G[k] HLN.out HWL.out)
      generalize G[k] = x at *
      obtain ⟨xk, xn, xa, xv, xt⟩ := x
      simp only at z0 z1 z2 z3 SA
      have HSA := Lib.hid SA
      obtain ⟨A3, c3, hv3, _⟩ := SA
      obtain ⟨m, hmm⟩ : ∃ m, m = xa.length := ⟨_, rfl⟩
      rw [← hmm] at hv3
      subst hv3
      have HM := Lib.hid hmm
      have hmI : (m : Int) ≤ 32 := by have h := HKD.out.2; have h2 : xa.length ≤ 32 := h; omega
      have HTK : Hid ((TokE.tk ⟨xk, xn, xa, .slice A3 m c3, xt⟩) = ⟨xk, xn, xa, xt⟩) := Lib.hid rfl
      rw [HTK.out] at HNX HWK HKD
      have HBX : Hid (Below wr.heap.size wr (wr.alloc (.cells #[.int .i64 xk, .string (str xn), .slice A3 m c3, .string (str xt)] 36))) := Lib.hid ((Below.refl _ _).alloc (Nat.le_refl _) _)
      have BX : Hid (Blk (wr.alloc (.cells #[.int .i64 xk, .string (str xn), .slice A3 m c3, .string (str xt)] 36)) wr.heap.size 36 #[.int .i64 xk, .string (str xn), .slice A3 m c3, .string (str xt)]) := Lib.hid (Blk.fresh _ _ _)
      have HXN : Hid (xn.length ≤ 1000000) := Lib.hid HLN.out.1
      have HXT : Hid (xt.length ≤ 1000000) := Lib.hid HLN.out.2.1
      have HXA : Hid (∀ a ∈ xa, a.1.length ≤ 1000000 ∧ a.2.length ≤ 1000000) := Lib.hid HLN.out.2.2
      clear hA hc hlt hkG hsa hkm hmm
      have hs9 : s.length ≤ 100000000000 := by have := HSL.out; have := HK4.out; omega
      have hxn9 : xn.length ≤ 1000000 := HXN.out
      by_cases h1 : xk = 1
      · subst h1
        have HW1 : Hid (writeK ⟨1, xn, xa, xt⟩ = 60 :: (xn ++ (attrsW xa ++ [62]))) := Lib.hid (by unfold writeK; rw [if_pos rfl])
        obtain ⟨s1, hs1⟩ : ∃ s1, s1 = s ++ [60] := ⟨_, rfl⟩
        obtain ⟨s2, hs2⟩ : ∃ s2, s2 = s1 ++ xn := ⟨_, rfl⟩
        have c1 : str s ++ ⟨#[60]⟩ = str s1 := by rw [hs1]; exact cat_arrN _ _ rfl
        have c2 : str s1 ++ str xn = str s2 := by rw [hs2]; exact cat_strN _ _
        have l1 : s1.length ≤ 100000000001 := by rw [hs1, List.length_append, List.length_singleton]; omega
        have d1 : ¬ 9223372036854775807 < s.length + 1 := by omega
        have d2 : ¬ 9223372036854775807 < s1.length + xn.length := by omega
        have HS2 : Hid (s2 = s ++ 60 :: xn) := Lib.hid (by rw [hs2, hs1, List.append_assoc]; rfl)
        have HL2 : Hid (s2.length ≤ 100001000002) := Lib.hid (by rw [hs2, List.length_append]; omega)
        clear hs1 hs2
        go_wp2_with fail
        go_loopw [3, 6] (RWrIn (wr.alloc (.cells #[.int .i64 1, .string (str xn), .slice A3 m c3, .string (str xt)] 36)) s2 xa 100001000002) (fun _ u _ => xa.length - (intOf u).toNat)
        case atStart => exact ⟨0, s2, Nat.zero_le _, rfl, rfl, by show s2 = s2 ++ []; rw [List.append_nil], by have := HL2.out; omega, 0, rfl⟩
        case round =>
          obtain ⟨j, t, hj, rfl, rfl, ht, htl, q, rfl⟩ := hrel
          have HTW := Lib.hid ht
          have HTL := Lib.hid htl
          clear ht htl
          have b0 : (wr.alloc (.cells #[.int .i64 1, .string (str xn), .slice A3 m c3, .string (str xt)] 36)).cell? ⟨wr.heap.size, 0, none⟩ = some (.int .i64 1) := BX.out.cell 0
          have b2 : (wr.alloc (.cells #[.int .i64 1, .string (str xn), .slice A3 m c3, .string (str xt)] 36)).cell? ⟨wr.heap.size, 2, none⟩ = some (.slice A3 m c3) := BX.out.cell 2
          by_cases hjn : j < m
          · have hjI : (j : Int) < (m : Int) := by omega
            have hjL : j < xa.length := by have := HM.out; omega
            have HJ9 : Hid (j < 32) := Lib.hid (by omega)
            obtain ⟨A4, c4, hv4, hA4⟩ := HSA.out.below HBX.out
            injection hv4 with i1 i2 i3
            clear i2 i3
            obtain ⟨b5, o5, i5, hlt5, hc5⟩ := hA4 (by omega)
            rw [i5] at i1
            subst i1
            have y1 := (cells_drewN hc5 hjL).1
            have y2 := (cells_drewN hc5 hjL).2
            have HAL := Lib.hid (att_len (HXA.out _ (List.getElem_mem hjL)))
            have HAN := Lib.hid (attrsW_next hjL)
            have HJ1 : Hid (j + 1 ≤ xa.length) := Lib.hid hjL
            have HA2L : Hid (xa[j].2.length ≤ 1000000) := Lib.hid (HXA.out _ (List.getElem_mem hjL)).2
            generalize xa[j] = a at *
            obtain ⟨an, av⟩ := a
            simp only at y1 y2 HAL HA2L
            have kw := fun W => rwrite_any av W (by have := HA2L.out; omega)
            obtain ⟨wv, hwv⟩ : ∃ wv, wv = writeR av := ⟨_, rfl⟩
            rw [← hwv] at kw HAL
            have KW := Lib.hid kw
            obtain ⟨t1, ht1⟩ : ∃ t1, t1 = t ++ [32] := ⟨_, rfl⟩
            obtain ⟨t2, ht2⟩ : ∃ t2, t2 = t1 ++ an := ⟨_, rfl⟩
            obtain ⟨t3, ht3⟩ : ∃ t3, t3 = t2 ++ [61, 34] := ⟨_, rfl⟩
            obtain ⟨t4, ht4⟩ : ∃ t4, t4 = t3 ++ wv := ⟨_, rfl⟩
            obtain ⟨t5, ht5⟩ : ∃ t5, t5 = t4 ++ [34] := ⟨_, rfl⟩
            have e1 : str t ++ ⟨#[32]⟩ = str t1 := by rw [ht1]; exact cat_arrN _ _ rfl
            have e2 : str t1 ++ str an = str t2 := by rw [ht2]; exact cat_strN _ _
            have e3 : str t2 ++ ⟨#[61, 34]⟩ = str t3 := by rw [ht3]; exact cat_arrN _ _ rfl
            have e4 : str t3 ++ str wv = str t4 := by rw [ht4]; exact cat_strN _ _
            have e5 : str t4 ++ ⟨#[34]⟩ = str t5 := by rw [ht5]; exact cat_arrN _ _ rfl
            have hal := HAL.out
            have m0 : t.length ≤ 200000000000 := by have := HTL.out; have := HJ9.out; omega
            have m1 : t1.length = t.length + 1 := by rw [ht1, List.length_append, List.length_singleton]
            have m2 : t2.length = t1.length + an.length := by rw [ht2, List.length_append]
            have m3 : t3.length = t2.length + 2 := by rw [ht3, List.length_append]; rfl
            have m4 : t4.length = t3.length + wv.length := by rw [ht4, List.length_append]
            have m5 : t5.length = t4.length + 1 := by rw [ht5, List.length_append, List.length_singleton]
            have f1 : ¬ 9223372036854775807 < t.length + 1 := by omega
            have f2 : ¬ 9223372036854775807 < t1.length + an.length := by omega
            have f3 : ¬ 9223372036854775807 < t2.length + 2 := by omega
            have f4 : ¬ 9223372036854775807 < t3.length + wv.length := by omega
            have f5 : ¬ 9223372036854775807 < t4.length + 1 := by omega
            have HT5 : Hid (t5 = s2 ++ attrsW (xa.take (j + 1))) := Lib.hid (by
              rw [HAN.out, ht5, ht4, ht3, ht2, ht1, HTW.out, hwv]
              unfold attrW
              simp only [List.append_assoc, List.cons_append, List.nil_append])
            have HL5 : Hid (t5.length ≤ 100001000002 + 7000010 * (j + 1)) := Lib.hid (by have := HTL.out; omega)
            clear ht1 ht2 ht3 ht4 ht5 hwv m0 m1 m2 m3 m4 m5 hal kw hA4 hc5 hlt5 i5 hjL
            go_wp2_with fail
            go_quiet ((go_at_call 27; refine (KW.out _).mono ?_; rintro e w9 ⟨rfl, rfl⟩; exact ⟨rfl, _, rfl⟩))
            go_wp2_with fail
            go_roundw
            case rel => exact ⟨j + 1, t5, HJ1.out, by go_num, rfl, HT5.out, HL5.out, _, rfl⟩
            case measure => have := HJ1.out; simp [intOf]; omega
          · have hjI : ¬ (j : Int) < (m : Int) := by omega
            obtain ⟨t6, ht6⟩ : ∃ t6, t6 = t ++ [62] := ⟨_, rfl⟩
            have e6 : str t ++ ⟨#[62]⟩ = str t6 := by rw [ht6]; exact cat_arrN _ _ rfl
            have f6 : ¬ 9223372036854775807 < t.length + 1 := by have := HTL.out; have := HM.out; omega
            have HT6 : Hid (t6 = allW ((G.map TokE.tk).take (k + 1))) := Lib.hid (by
              have h := HTW.out
              rw [List.take_of_length_le (by have := HM.out; omega)] at h
              rw [HNX.out, HW1.out, ht6, h, HS2.out]
              simp only [List.append_assoc, List.cons_append])
            have HT6L : Hid (t6.length ≤ 230000000 * (k + 1)) := Lib.hid (by
              rw [HT6.out, HNX.out, List.length_append]; have := HSL.out; have := HWK.out; omega)
            clear ht6
            go_wp2_with fail
            go_roundw
            case rel => exact ⟨k + 1, t6, by rw [List.length_map]; exact HK1.out, by go_num, rfl, HT6.out, HT6L.out, below_drewN (below_then HB.out HBX.out) _⟩
            case measure => have := HK1.out; simp [intOf]; omega
      · have k1 : (xk == 1) = false := by simpa using h1
        have k1d : decide (xk = 1) = false := decide_eq_false h1
        by_cases h2 : xk = 2
        · subst h2
          clear h1
          have HW1 : Hid (writeK ⟨2, xn, xa, xt⟩ = 60 :: 47 :: (xn ++ [62])) := Lib.hid (by unfold writeK; rw [if_neg (show ¬ (2 : Int) = 1 by decide), if_pos rfl])
          obtain ⟨s1, hs1⟩ : ∃ s1, s1 = s ++ [60, 47] := ⟨_, rfl⟩
          obtain ⟨s2, hs2⟩ : ∃ s2, s2 = s1 ++ xn := ⟨_, rfl⟩
          obtain ⟨s3, hs3⟩ : ∃ s3, s3 = s2 ++ [62] := ⟨_, rfl⟩
          have c1 : str s ++ ⟨#[60, 47]⟩ = str s1 := by rw [hs1]; exact cat_arrN _ _ rfl
          have c2 : str s1 ++ str xn = str s2 := by rw [hs2]; exact cat_strN _ _
          have c3 : str s2 ++ ⟨#[62]⟩ = str s3 := by rw [hs3]; exact cat_arrN _ _ rfl
          have m1 : s1.length = s.length + 2 := by rw [hs1, List.length_append]; rfl
          have m2 : s2.length = s1.length + xn.length := by rw [hs2, List.length_append]
          have d1 : ¬ 9223372036854775807 < s.length + 2 := by omega
          have d2 : ¬ 9223372036854775807 < s1.length + xn.length := by omega
          have d3 : ¬ 9223372036854775807 < s2.length + 1 := by omega
          have HT6 : Hid (s3 = allW ((G.map TokE.tk).take (k + 1))) := Lib.hid (by
            rw [HNX.out, HW1.out, hs3, hs2, hs1]
            simp only [List.append_assoc, List.cons_append, List.nil_append])
          have HT6L : Hid (s3.length ≤ 230000000 * (k + 1)) := Lib.hid (by
            rw [HT6.out, HNX.out, List.length_append]; have := HSL.out; have := HWK.out; omega)
          clear hs1 hs2 hs3 m1 m2
          go_wp2_with fail
          go_roundw
          case rel => exact ⟨k + 1, s3, by rw [List.length_map]; exact HK1.out, by go_num, rfl, HT6.out, HT6L.out, below_then HB.out HBX.out⟩
          case measure => have := HK1.out; simp [intOf]; omega
        · have h3 : xk = 3 := by
            rcases HKD.out.1 with h | h | h
            · exact absurd h h1
            · exact absurd h h2
            · exact h
          subst h3
          clear h1 h2 k1 k1d
          have HW1 : Hid (writeK ⟨3, xn, xa, xt⟩ = writeR xt) := Lib.hid (by unfold writeK; rw [if_neg (show ¬ (3 : Int) = 1 by decide), if_neg (show ¬ (3 : Int) = 2 by decide), if_pos rfl])
          have kw := fun W => rwrite_any xt W (by have := HXT.out; omega)
          have hwl := (writeR_len xt).2
          obtain ⟨wv, hwv⟩ : ∃ wv, wv = writeR xt := ⟨_, rfl⟩
          rw [← hwv] at kw hwl
          have KW := Lib.hid kw
          obtain ⟨s1, hs1⟩ : ∃ s1, s1 = s ++ wv := ⟨_, rfl⟩
          have c1 : str s ++ str wv = str s1 := by rw [hs1]; exact cat_strN _ _
          have d1 : ¬ 9223372036854775807 < s.length + wv.length := by have := HXT.out; omega
          have HT6 : Hid (s1 = allW ((G.map TokE.tk).take (k + 1))) := Lib.hid (by
            rw [HNX.out, HW1.out, hs1, hwv])
          have HT6L : Hid (s1.length ≤ 230000000 * (k + 1)) := Lib.hid (by
            rw [HT6.out, HNX.out, List.length_append]; have := HSL.out; have := HWK.out; omega)
          clear hs1 hwv kw hwl
          go_wp2_with (go_at_call 27; refine (KW.out _).mono ?_; rintro e w9 ⟨rfl, rfl⟩)
          go_roundw
          case rel => exact ⟨k + 1, s1, by rw [List.length_map]; exact HK1.out, by go_num, rfl, HT6.out, HT6L.out, below_then HB.out HBX.out⟩
          case measure => have := HK1.out; simp [intOf]; omega
    · have hkI : ¬ (k : Int) < (n : Int) := by omega
      have HX : Hid (allW (G.map TokE.tk) = s) := Lib.hid (by
        have h := HSW.out
        rw [List.take_of_length_le (by rw [List.length_map]; have := HN.out; omega)] at h
        exact h.symm)
      go_wp2_with fail
      go_ret
      exact ⟨by rw [HX.out]; rfl, HB.out⟩
end Go.Proofs.YtelhdkidnhfnbaaDoor
