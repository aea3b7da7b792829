/-
  The text of an event (event.Show). Conditions: the tables lie as the program's text lays them; at most 100000 bytes in each of its texts.
-/
import Derived.Test.YtelhdkidnhfnbabGreatDoorVShowP
namespace Go.Proofs.YtelhdkidnhfnbabGreatDoor
open Go.RowKit

set_option maxHeartbeats 12800000 in
set_option maxRecDepth 100000 in
theorem show_yes {k a b n : Int} {s t u : List UInt8} (w : World) (hW : EvW w) (h0 : ¬ nameOf k = []) (ha : SmI a) (hb : SmI b) (hn : SmI n) (hs : s.length ≤ 100000) (ht : t.length ≤ 100000) (hu : u.length ≤ 100000) :
    Calls Tryz.prog 13 #[.agg #[.int .i64 k, .int .i64 a, .int .i64 b, .int .i64 n, .string (str s), .string (str t), .string (str u)]] w (Made w (.string (str ((nameOf k ++ numsS [a, b, n]) ++ textsS [s, t, u])))) := by
  have HB : Hid (Below w.heap.size w (w.alloc (.cells #[.int .i64 k, .int .i64 a, .int .i64 b, .int .i64 n, .string (str s), .string (str t), .string (str u)] 23))) := Lib.hid ((Below.refl _ _).alloc (Nat.le_refl _) _)
  have BX : Hid (Blk (w.alloc (.cells #[.int .i64 k, .int .i64 a, .int .i64 b, .int .i64 n, .string (str s), .string (str t), .string (str u)] 23)) w.heap.size 23 #[.int .i64 k, .int .i64 a, .int .i64 b, .int .i64 n, .string (str s), .string (str t), .string (str u)]) := Lib.hid (Blk.fresh _ _ _)
  have kn := name_any k (w.alloc (.cells #[.int .i64 k, .int .i64 a, .int .i64 b, .int .i64 n, .string (str s), .string (str t), .string (str u)] 23)) (hW.1.below HB.out)
  have HNL := Lib.hid (name_len k)
  have hne := beq_nilS h0
  generalize nameOf k = nm at *
  have KN := Lib.hid kn
  have HIN : Hid (∀ x ∈ [a, b, n], SmI x) := Lib.hid fun x hx => by
    simp only [List.mem_cons, List.not_mem_nil, or_false] at hx
    rcases hx with rfl | rfl | rfl <;> assumption
  have HTX : Hid (∀ x ∈ [s, t, u], x.length ≤ 100000) := Lib.hid fun x hx => by
    simp only [List.mem_cons, List.not_mem_nil, or_false] at hx
    rcases hx with rfl | rfl | rfl <;> assumption
  have HW := Lib.hid hW
  have hne1 := hne.1
  have hne2 := hne.2
  clear kn h0 hne hW ha hb hn hs ht hu
  have GB : Hid ((w.alloc (.cells #[.int .i64 k, .int .i64 a, .int .i64 b, .int .i64 n, .string (str s), .string (str t), .string (str u)] 23)).heap.size = w.heap.size + 1) := Lib.hid (by show (w.heap.push _).size = _; rw [Array.size_push])
  have BG : Hid (Bld (w.heap.size + 1) [] ((w.alloc (.cells #[.int .i64 k, .int .i64 a, .int .i64 b, .int .i64 n, .string (str s), .string (str t), .string (str u)] 23)).alloc (.cells #[.pointer none, .slice none 0 0] 44))) := Lib.hid (by have h := bld_new (w.alloc (.cells #[.int .i64 k, .int .i64 a, .int .i64 b, .int .i64 n, .string (str s), .string (str t), .string (str u)] 23)); rw [GB.out] at h; exact h)
  have HBG : Hid (Below (w.heap.size + 1) (w.alloc (.cells #[.int .i64 k, .int .i64 a, .int .i64 b, .int .i64 n, .string (str s), .string (str t), .string (str u)] 23)) ((w.alloc (.cells #[.int .i64 k, .int .i64 a, .int .i64 b, .int .i64 n, .string (str s), .string (str t), .string (str u)] 23)).alloc (.cells #[.pointer none, .slice none 0 0] 44))) := Lib.hid (by have h := (Below.refl (w.alloc (.cells #[.int .i64 k, .int .i64 a, .int .i64 b, .int .i64 n, .string (str s), .string (str t), .string (str u)] 23)).heap.size (w.alloc (.cells #[.int .i64 k, .int .i64 a, .int .i64 b, .int .i64 n, .string (str s), .string (str t), .string (str u)] 23))).alloc (Nat.le_refl _) (.cells #[.pointer none, .slice none 0 0] 44); rw [GB.out] at h; exact h)
  have HGS : Hid (w.heap.size + 1 < ((w.alloc (.cells #[.int .i64 k, .int .i64 a, .int .i64 b, .int .i64 n, .string (str s), .string (str t), .string (str u)] 23)).alloc (.cells #[.pointer none, .slice none 0 0] 44)).heap.size) := Lib.hid (by show _ < (Array.push _ _).size; rw [Array.size_push, GB.out]; exact Nat.lt_succ_self _)
  have XL : Hid (w.heap.size < w.heap.size + 1) := Lib.hid (Nat.lt_succ_self _)
  go_enter Tryz.func13, Tryz.ntmps13
  go_wp2_with (first
    | (go_at_call 11; refine KN.out.mono ?_; rintro e w1 ⟨rfl, rfl⟩)
    | (go_at_call 28; refine (bld_string _ [] nm _ BG.out (by have := HNL.out; simp only [List.length_nil]; omega) (Nat.le_of_lt HGS.out)).mono ?_; rintro e w2 ⟨rfl, hb2, hl2, _⟩; have HB2 := Lib.hid hb2; have HL2 := Lib.hid hl2; have hxx := (BX.out.below HBG.out XL.out).below hl2 XL.out; have HX2 := Lib.hid hxx; have HXW : Hid (Below (w.heap.size + 1) ((w.alloc (.cells #[.int .i64 k, .int .i64 a, .int .i64 b, .int .i64 n, .string (str s), .string (str t), .string (str u)] 23))) w2) := Lib.hid (below_thG HBG.out hl2); have HS2 : Hid (w.heap.size + 1 < w2.heap.size) := Lib.hid (Nat.lt_of_lt_of_le HGS.out hl2.size); have x0 : w2.cell? ⟨w.heap.size, 0, none⟩ = some (.int .i64 k) := hxx.cell 0; have x1 : w2.cell? ⟨w.heap.size, 1, none⟩ = some (.int .i64 a) := hxx.cell 1; have x2 : w2.cell? ⟨w.heap.size, 2, none⟩ = some (.int .i64 b) := hxx.cell 2; have x3 : w2.cell? ⟨w.heap.size, 3, none⟩ = some (.int .i64 n) := hxx.cell 3; have x4 : w2.cell? ⟨w.heap.size, 4, none⟩ = some (.string (str s)) := hxx.cell 4; have x5 : w2.cell? ⟨w.heap.size, 5, none⟩ = some (.string (str t)) := hxx.cell 5; have x6 : w2.cell? ⟨w.heap.size, 6, none⟩ = some (.string (str u)) := hxx.cell 6; clear hb2 hl2 hxx))
  go_loopw [23] (ShN (w.heap.size + 1) w2 nm [a, b, n]) (fun u _ => 3 - (intOf u).toNat)
  case atStart => exact ⟨0, by omega, rfl, by have h := HB2.out; rw [List.nil_append] at h; show Bld _ (nm ++ []) _; rw [List.append_nil]; exact h, Below.refl _ _, HS2.out⟩
  case round =>
    obtain ⟨j, hj, rfl, hbl, hbr, hsz⟩ := hrel
    have HBL := Lib.hid hbl
    have HBR := Lib.hid hbr
    have HSZ := Lib.hid hsz
    have HEV : Hid (EvW wr) := Lib.hid ((HW.out.below HB.out).belowG (below_thG HXW.out hbr) (by rw [GB.out]; exact Nat.le_refl _))
    clear hbl hbr hsz
    by_cases hj3 : j < 3
    · have hjj : j = 0 ∨ j = 1 ∨ j = 2 := by omega
      rcases hjj with rfl | rfl | rfl
      · have hix : ∀ W, (Instr.index 49 (.agg #[.int .i64 a, .int .i64 b, .int .i64 n]) (.int .i64 0)).run Tryz.prog W = .ok (.int .i64 a) W := fun W => by kernel_rfl
        have hjc : (((0 : Nat) : Int)) = 0 := rfl
        have ho := HBL.out
        obtain ⟨o, hO⟩ : ∃ o, o = nm ++ numsS ([a, b, n].take 0) := ⟨_, rfl⟩
        rw [← hO] at ho
        have HOB := Lib.hid ho
        have HOL : Hid (o.length ≤ 100) := Lib.hid (by rw [hO, List.length_append]; have := HNL.out; have := numsS_len ([a, b, n].take 0) (fun x hx => HIN.out x (List.mem_of_mem_take hx)); rw [List.length_take] at this; simp only [List.length_cons, List.length_nil] at this; omega)
        have HNX : Hid (nm ++ numsS ([a, b, n].take (0 + 1)) = o ++ (32 :: Lib.itoa a)) := Lib.hid (by rw [hO, numsS_next (l := [a, b, n]) (j := 0) (by simp), List.append_assoc]; rfl)
        have hsm := HIN.out a (by simp)
        have ki := itoa_any a hsm.1 hsm.2 wr HEV.out.2.1
        have hil := itoa_len a hsm.1 hsm.2
        obtain ⟨it, hit⟩ : ∃ it, it = Lib.itoa a := ⟨_, rfl⟩
        rw [← hit] at ki hil HNX
        have KI := Lib.hid ki
        obtain ⟨q, hq⟩ : ∃ q, q = 32 :: it := ⟨_, rfl⟩
        have c1 : (⟨#[32]⟩ : ByteArray) ++ str it = str q := by rw [hq]; exact cat_strV [32] it
        have d1 : ¬ 9223372036854775807 < 1 + it.length := by omega
        have HQL : Hid (q.length ≤ 21) := Lib.hid (by rw [hq, List.length_cons]; omega)
        rw [← hq] at HNX
        clear ho hO ki hil hit hq hsm
        go_wp2_with (first
          | (go_at_call 29; refine KI.out.mono ?_; rintro e w3 ⟨rfl, hb3⟩; have HB3 := Lib.hid hb3; have HD3 := Lib.hid (bldBelow HOB.out hb3); clear hb3)
          | (go_at_call 28; refine (bld_string _ o q _ HD3.out (by have := HOL.out; have := HQL.out; omega) (Nat.le_trans (Nat.le_of_lt HSZ.out) HB3.out.size)).mono ?_; rintro e w4 ⟨rfl, hb4, hl4, _⟩; have HB4 := Lib.hid hb4; have HL4 := Lib.hid hl4; clear hb4 hl4))
        go_roundw
        case rel => exact ⟨0 + 1, by omega, by first | rfl | go_num, by rw [HNX.out]; exact HB4.out, below_thG (below_thV HBR.out HB3.out (Nat.le_of_lt HSZ.out)) HL4.out, Nat.lt_of_lt_of_le HSZ.out (Nat.le_trans HB3.out.size HL4.out.size)⟩
        case measure => simp [intOf]
      · have hix : ∀ W, (Instr.index 49 (.agg #[.int .i64 a, .int .i64 b, .int .i64 n]) (.int .i64 1)).run Tryz.prog W = .ok (.int .i64 b) W := fun W => by kernel_rfl
        have hjc : (((1 : Nat) : Int)) = 1 := rfl
        have ho := HBL.out
        obtain ⟨o, hO⟩ : ∃ o, o = nm ++ numsS ([a, b, n].take 1) := ⟨_, rfl⟩
        rw [← hO] at ho
        have HOB := Lib.hid ho
        have HOL : Hid (o.length ≤ 100) := Lib.hid (by rw [hO, List.length_append]; have := HNL.out; have := numsS_len ([a, b, n].take 1) (fun x hx => HIN.out x (List.mem_of_mem_take hx)); rw [List.length_take] at this; simp only [List.length_cons, List.length_nil] at this; omega)
        have HNX : Hid (nm ++ numsS ([a, b, n].take (1 + 1)) = o ++ (32 :: Lib.itoa b)) := Lib.hid (by rw [hO, numsS_next (l := [a, b, n]) (j := 1) (by simp), List.append_assoc]; rfl)
        have hsm := HIN.out b (by simp)
        have ki := itoa_any b hsm.1 hsm.2 wr HEV.out.2.1
        have hil := itoa_len b hsm.1 hsm.2
        obtain ⟨it, hit⟩ : ∃ it, it = Lib.itoa b := ⟨_, rfl⟩
        rw [← hit] at ki hil HNX
        have KI := Lib.hid ki
        obtain ⟨q, hq⟩ : ∃ q, q = 32 :: it := ⟨_, rfl⟩
        have c1 : (⟨#[32]⟩ : ByteArray) ++ str it = str q := by rw [hq]; exact cat_strV [32] it
        have d1 : ¬ 9223372036854775807 < 1 + it.length := by omega
        have HQL : Hid (q.length ≤ 21) := Lib.hid (by rw [hq, List.length_cons]; omega)
        rw [← hq] at HNX
        clear ho hO ki hil hit hq hsm
        go_wp2_with (first
          | (go_at_call 29; refine KI.out.mono ?_; rintro e w3 ⟨rfl, hb3⟩; have HB3 := Lib.hid hb3; have HD3 := Lib.hid (bldBelow HOB.out hb3); clear hb3)
          | (go_at_call 28; refine (bld_string _ o q _ HD3.out (by have := HOL.out; have := HQL.out; omega) (Nat.le_trans (Nat.le_of_lt HSZ.out) HB3.out.size)).mono ?_; rintro e w4 ⟨rfl, hb4, hl4, _⟩; have HB4 := Lib.hid hb4; have HL4 := Lib.hid hl4; clear hb4 hl4))
        go_roundw
        case rel => exact ⟨1 + 1, by omega, by first | rfl | go_num, by rw [HNX.out]; exact HB4.out, below_thG (below_thV HBR.out HB3.out (Nat.le_of_lt HSZ.out)) HL4.out, Nat.lt_of_lt_of_le HSZ.out (Nat.le_trans HB3.out.size HL4.out.size)⟩
        case measure => simp [intOf]
      · have hix : ∀ W, (Instr.index 49 (.agg #[.int .i64 a, .int .i64 b, .int .i64 n]) (.int .i64 2)).run Tryz.prog W = .ok (.int .i64 n) W := fun W => by kernel_rfl
        have hjc : (((2 : Nat) : Int)) = 2 := rfl
        have ho := HBL.out
        obtain ⟨o, hO⟩ : ∃ o, o = nm ++ numsS ([a, b, n].take 2) := ⟨_, rfl⟩
        rw [← hO] at ho
        have HOB := Lib.hid ho
        have HOL : Hid (o.length ≤ 100) := Lib.hid (by rw [hO, List.length_append]; have := HNL.out; have := numsS_len ([a, b, n].take 2) (fun x hx => HIN.out x (List.mem_of_mem_take hx)); rw [List.length_take] at this; simp only [List.length_cons, List.length_nil] at this; omega)
        have HNX : Hid (nm ++ numsS ([a, b, n].take (2 + 1)) = o ++ (32 :: Lib.itoa n)) := Lib.hid (by rw [hO, numsS_next (l := [a, b, n]) (j := 2) (by simp), List.append_assoc]; rfl)
        have hsm := HIN.out n (by simp)
        have ki := itoa_any n hsm.1 hsm.2 wr HEV.out.2.1
        have hil := itoa_len n hsm.1 hsm.2
        obtain ⟨it, hit⟩ : ∃ it, it = Lib.itoa n := ⟨_, rfl⟩
        rw [← hit] at ki hil HNX
        have KI := Lib.hid ki
        obtain ⟨q, hq⟩ : ∃ q, q = 32 :: it := ⟨_, rfl⟩
        have c1 : (⟨#[32]⟩ : ByteArray) ++ str it = str q := by rw [hq]; exact cat_strV [32] it
        have d1 : ¬ 9223372036854775807 < 1 + it.length := by omega
        have HQL : Hid (q.length ≤ 21) := Lib.hid (by rw [hq, List.length_cons]; omega)
        rw [← hq] at HNX
        clear ho hO ki hil hit hq hsm
        go_wp2_with (first
          | (go_at_call 29; refine KI.out.mono ?_; rintro e w3 ⟨rfl, hb3⟩; have HB3 := Lib.hid hb3; have HD3 := Lib.hid (bldBelow HOB.out hb3); clear hb3)
          | (go_at_call 28; refine (bld_string _ o q _ HD3.out (by have := HOL.out; have := HQL.out; omega) (Nat.le_trans (Nat.le_of_lt HSZ.out) HB3.out.size)).mono ?_; rintro e w4 ⟨rfl, hb4, hl4, _⟩; have HB4 := Lib.hid hb4; have HL4 := Lib.hid hl4; clear hb4 hl4))
        go_roundw
        case rel => exact ⟨2 + 1, by omega, by first | rfl | go_num, by rw [HNX.out]; exact HB4.out, below_thG (below_thV HBR.out HB3.out (Nat.le_of_lt HSZ.out)) HL4.out, Nat.lt_of_lt_of_le HSZ.out (Nat.le_trans HB3.out.size HL4.out.size)⟩
        case measure => simp [intOf]
    · obtain ⟨z, hz⟩ : ∃ z : Int, z = (j : Int) := ⟨_, rfl⟩
      rw [← hz]
      have hz3 : z = 3 := by omega
      have h3 : j = 3 := by omega
      clear hz
      subst hz3 h3
      have hx := HX2.out.below HBR.out XL.out
      have z4 := hx.cell 4
      have z5 := hx.cell 5
      have z6 := hx.cell 6
      clear hx
      have HB3 : Hid (Bld (w.heap.size + 1) (nm ++ numsS [a, b, n]) wr) := Lib.hid HBL.out
      obtain ⟨o2, ho2⟩ : ∃ o2, o2 = nm ++ numsS [a, b, n] := ⟨_, rfl⟩
      rw [← ho2] at HB3
      have HO2 := Lib.hid ho2
      have HO2L : Hid (o2.length ≤ 100) := Lib.hid (by rw [ho2, List.length_append]; have := HNL.out; have := numsS_len [a, b, n] HIN.out; simp only [List.length_cons, List.length_nil] at this; omega)
      clear ho2
      have HBRX := Lib.hid (below_thG HXW.out HBR.out)
      obtain ⟨wg, hwg⟩ : ∃ wg, wg = wr := ⟨_, rfl⟩
      subst hwg
      go_wp2_with fail
      go_loopw [38] (ShT (w.heap.size + 1) wg o2 [s, t, u]) (fun u _ => 3 - (intOf u).toNat)
      case atStart => exact ⟨0, by omega, rfl, by show Bld _ (o2 ++ []) _; rw [List.append_nil]; exact HB3.out, Below.refl _ _, HSZ.out⟩
      case round =>
        obtain ⟨j, hj, rfl, hbl, hbr, hsz⟩ := hrel
        have HBM := Lib.hid hbl
        have HBN := Lib.hid hbr
        have HSN := Lib.hid hsz
        have HEX : Hid (EvW wr) := Lib.hid ((HW.out.below HB.out).belowG (below_thG HBRX.out hbr) (by rw [GB.out]; exact Nat.le_refl _))
        clear hbl hbr hsz
        by_cases hj3 : j < 3
        · have hjj : j = 0 ∨ j = 1 ∨ j = 2 := by omega
          rcases hjj with rfl | rfl | rfl
          · have hix : ∀ W, (Instr.index 50 (.agg #[.string (str s), .string (str t), .string (str u)]) (.int .i64 0)).run Tryz.prog W = .ok (.string (str s)) W := fun W => by kernel_rfl
            have hjc : (((0 : Nat) : Int)) = 0 := rfl
            have ho := HBM.out
            obtain ⟨o, hO⟩ : ∃ o, o = o2 ++ textsS ([s, t, u].take 0) := ⟨_, rfl⟩
            rw [← hO] at ho
            have HOB := Lib.hid ho
            have HOL : Hid (o.length ≤ 1000000) := Lib.hid (by rw [hO, List.length_append]; have := HO2L.out; have := textsS_len ([s, t, u].take 0) (fun x hx => HTX.out x (List.mem_of_mem_take hx)); rw [List.length_take] at this; simp only [List.length_cons, List.length_nil] at this; omega)
            have HNX : Hid (o2 ++ textsS ([s, t, u].take (0 + 1)) = o ++ (32 :: quoteS s)) := Lib.hid (by rw [hO, textsS_next (l := [s, t, u]) (j := 0) (by simp), List.append_assoc]; rfl)
            have hsm := HTX.out s (by simp)
            have ki := quoted_any s wr hsm HEX.out.2.2
            have hil := quoteS_len s
            obtain ⟨it, hit⟩ : ∃ it, it = quoteS s := ⟨_, rfl⟩
            rw [← hit] at ki hil HNX
            have KI := Lib.hid ki
            obtain ⟨q, hq⟩ : ∃ q, q = 32 :: it := ⟨_, rfl⟩
            have c1 : (⟨#[32]⟩ : ByteArray) ++ str it = str q := by rw [hq]; exact cat_strV [32] it
            have d1 : ¬ 9223372036854775807 < 1 + it.length := by omega
            have HQL : Hid (q.length ≤ 300000) := Lib.hid (by rw [hq, List.length_cons]; omega)
            rw [← hq] at HNX
            clear ho hO ki hil hit hq hsm
            go_wp2_with (first
              | (go_at_call 30; refine KI.out.mono ?_; rintro e w3 ⟨rfl, hb3⟩; have HB7 := Lib.hid hb3; have HD3 := Lib.hid (bldBelow HOB.out hb3); clear hb3)
              | (go_at_call 28; refine (bld_string _ o q _ HD3.out (by have := HOL.out; have := HQL.out; omega) (Nat.le_trans (Nat.le_of_lt HSN.out) HB7.out.size)).mono ?_; rintro e w4 ⟨rfl, hb4, hl4, _⟩; have HB4 := Lib.hid hb4; have HL4 := Lib.hid hl4; clear hb4 hl4))
            go_roundw
            case rel => exact ⟨0 + 1, by omega, by first | rfl | go_num, by rw [HNX.out]; exact HB4.out, below_thG (below_thV HBN.out HB7.out (Nat.le_of_lt HSN.out)) HL4.out, Nat.lt_of_lt_of_le HSN.out (Nat.le_trans HB7.out.size HL4.out.size)⟩
            case measure => simp [intOf]
          · have hix : ∀ W, (Instr.index 50 (.agg #[.string (str s), .string (str t), .string (str u)]) (.int .i64 1)).run Tryz.prog W = .ok (.string (str t)) W := fun W => by kernel_rfl
            have hjc : (((1 : Nat) : Int)) = 1 := rfl
            have ho := HBM.out
            obtain ⟨o, hO⟩ : ∃ o, o = o2 ++ textsS ([s, t, u].take 1) := ⟨_, rfl⟩
            rw [← hO] at ho
            have HOB := Lib.hid ho
            have HOL : Hid (o.length ≤ 1000000) := Lib.hid (by rw [hO, List.length_append]; have := HO2L.out; have := textsS_len ([s, t, u].take 1) (fun x hx => HTX.out x (List.mem_of_mem_take hx)); rw [List.length_take] at this; simp only [List.length_cons, List.length_nil] at this; omega)
            have HNX : Hid (o2 ++ textsS ([s, t, u].take (1 + 1)) = o ++ (32 :: quoteS t)) := Lib.hid (by rw [hO, textsS_next (l := [s, t, u]) (j := 1) (by simp), List.append_assoc]; rfl)
            have hsm := HTX.out t (by simp)
            have ki := quoted_any t wr hsm HEX.out.2.2
            have hil := quoteS_len t
            obtain ⟨it, hit⟩ : ∃ it, it = quoteS t := ⟨_, rfl⟩
            rw [← hit] at ki hil HNX
            have KI := Lib.hid ki
            obtain ⟨q, hq⟩ : ∃ q, q = 32 :: it := ⟨_, rfl⟩
            have c1 : (⟨#[32]⟩ : ByteArray) ++ str it = str q := by rw [hq]; exact cat_strV [32] it
            have d1 : ¬ 9223372036854775807 < 1 + it.length := by omega
            have HQL : Hid (q.length ≤ 300000) := Lib.hid (by rw [hq, List.length_cons]; omega)
            rw [← hq] at HNX
            clear ho hO ki hil hit hq hsm
            go_wp2_with (first
              | (go_at_call 30; refine KI.out.mono ?_; rintro e w3 ⟨rfl, hb3⟩; have HB7 := Lib.hid hb3; have HD3 := Lib.hid (bldBelow HOB.out hb3); clear hb3)
              | (go_at_call 28; refine (bld_string _ o q _ HD3.out (by have := HOL.out; have := HQL.out; omega) (Nat.le_trans (Nat.le_of_lt HSN.out) HB7.out.size)).mono ?_; rintro e w4 ⟨rfl, hb4, hl4, _⟩; have HB4 := Lib.hid hb4; have HL4 := Lib.hid hl4; clear hb4 hl4))
            go_roundw
            case rel => exact ⟨1 + 1, by omega, by first | rfl | go_num, by rw [HNX.out]; exact HB4.out, below_thG (below_thV HBN.out HB7.out (Nat.le_of_lt HSN.out)) HL4.out, Nat.lt_of_lt_of_le HSN.out (Nat.le_trans HB7.out.size HL4.out.size)⟩
            case measure => simp [intOf]
          · have hix : ∀ W, (Instr.index 50 (.agg #[.string (str s), .string (str t), .string (str u)]) (.int .i64 2)).run Tryz.prog W = .ok (.string (str u)) W := fun W => by kernel_rfl
            have hjc : (((2 : Nat) : Int)) = 2 := rfl
            have ho := HBM.out
            obtain ⟨o, hO⟩ : ∃ o, o = o2 ++ textsS ([s, t, u].take 2) := ⟨_, rfl⟩
            rw [← hO] at ho
            have HOB := Lib.hid ho
            have HOL : Hid (o.length ≤ 1000000) := Lib.hid (by rw [hO, List.length_append]; have := HO2L.out; have := textsS_len ([s, t, u].take 2) (fun x hx => HTX.out x (List.mem_of_mem_take hx)); rw [List.length_take] at this; simp only [List.length_cons, List.length_nil] at this; omega)
            have HNX : Hid (o2 ++ textsS ([s, t, u].take (2 + 1)) = o ++ (32 :: quoteS u)) := Lib.hid (by rw [hO, textsS_next (l := [s, t, u]) (j := 2) (by simp), List.append_assoc]; rfl)
            have hsm := HTX.out u (by simp)
            have ki := quoted_any u wr hsm HEX.out.2.2
            have hil := quoteS_len u
            obtain ⟨it, hit⟩ : ∃ it, it = quoteS u := ⟨_, rfl⟩
            rw [← hit] at ki hil HNX
            have KI := Lib.hid ki
            obtain ⟨q, hq⟩ : ∃ q, q = 32 :: it := ⟨_, rfl⟩
            have c1 : (⟨#[32]⟩ : ByteArray) ++ str it = str q := by rw [hq]; exact cat_strV [32] it
            have d1 : ¬ 9223372036854775807 < 1 + it.length := by omega
            have HQL : Hid (q.length ≤ 300000) := Lib.hid (by rw [hq, List.length_cons]; omega)
            rw [← hq] at HNX
            clear ho hO ki hil hit hq hsm
            go_wp2_with (first
              | (go_at_call 30; refine KI.out.mono ?_; rintro e w3 ⟨rfl, hb3⟩; have HB7 := Lib.hid hb3; have HD3 := Lib.hid (bldBelow HOB.out hb3); clear hb3)
              | (go_at_call 28; refine (bld_string _ o q _ HD3.out (by have := HOL.out; have := HQL.out; omega) (Nat.le_trans (Nat.le_of_lt HSN.out) HB7.out.size)).mono ?_; rintro e w4 ⟨rfl, hb4, hl4, _⟩; have HB4 := Lib.hid hb4; have HL4 := Lib.hid hl4; clear hb4 hl4))
            go_roundw
            case rel => exact ⟨2 + 1, by omega, by first | rfl | go_num, by rw [HNX.out]; exact HB4.out, below_thG (below_thV HBN.out HB7.out (Nat.le_of_lt HSN.out)) HL4.out, Nat.lt_of_lt_of_le HSN.out (Nat.le_trans HB7.out.size HL4.out.size)⟩
            case measure => simp [intOf]
        · have h3 : j = 3 := by omega
          subst h3
          have HBE : Hid (Bld (w.heap.size + 1) (o2 ++ textsS [s, t, u]) wr) := Lib.hid HBM.out
          obtain ⟨o3, ho3⟩ : ∃ o3, o3 = o2 ++ textsS [s, t, u] := ⟨_, rfl⟩
          rw [← ho3] at HBE
          have HO3 : Hid (o3 = (nm ++ numsS [a, b, n]) ++ textsS [s, t, u]) := Lib.hid (by rw [ho3, HO2.out])
          clear ho3
          go_wp2_with (go_at_call 31; refine (bld_end _ o3 _ HBE.out (Nat.le_of_lt HSN.out)).mono ?_; rintro e w9 ⟨rfl, hb9⟩; have HB9 := Lib.hid hb9; clear hb9)
          go_ret
          exact ⟨by rw [← HO3.out]; rfl, below_thW HB.out (below_thG (below_thG HBRX.out HBN.out) HB9.out) (Nat.le_of_lt XL.out)⟩
end Go.Proofs.YtelhdkidnhfnbabGreatDoor
