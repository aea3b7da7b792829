/-
  The text of a moment (date.digits, Show). Condition: the table of powers of ten is as the library's text lays it.
-/
import Derived.Test.YtmimkcdomgoefabDoorDOf
import Derived.Test.YtmimkcdomgoefabDoorShelf
import Derived.Lib.AppendIntMem
namespace Go.Proofs.YtmimkcdomgoefabDoor
open Go.RowKit

/-- The library's table stands in its variable. -/
def Tab (w : World) : Prop := 0 < w.heap.size ∧ Lib.TabIs Tryd.prog w "internal/strconv.uint64pow10" .u64 Lib.pow10Tab
theorem Tab.below {w w' : World} {B : Nat} (h : Tab w) (hb : Below B w w') (hB : 0 < B) : Tab w' := by
  obtain ⟨h0, h⟩ := h
  refine ⟨Nat.lt_of_lt_of_le h0 hb.size, ?_⟩
  have hgn : Tryd.prog.globalNamed "internal/strconv.uint64pow10" = some 0 := by kernel_rfl
  unfold Lib.TabIs World.var? at h ⊢
  rw [hgn] at h ⊢
  simp only [Option.bind_some] at h ⊢
  rw [hb.block 0 hB]
  exact h
theorem Tab.next {w w' : World} (h : Tab w) (hb : Below w.heap.size w w') : Tab w' := h.below hb h.1
theorem Tab.drew {w : World} (h : Tab w) : Tab w.drew := h

/-- A number in so many digits. -/
def padN : Nat → Nat → List UInt8
  | 0, _ => []
  | k + 1, n => padN k (n / 10) ++ [UInt8.ofNat (48 + n % 10)]
theorem padN_len : ∀ k n, (padN k n).length = k
  | 0, _ => rfl
  | k + 1, n => by unfold padN; rw [List.length_append, padN_len k]; rfl
theorem rep_snoc (x : UInt8) : ∀ k, Lib.repeatL [x] (k + 1) = Lib.repeatL [x] k ++ [x]
  | 0 => rfl
  | k + 1 => by
    show [x] ++ Lib.repeatL [x] (k + 1) = ([x] ++ Lib.repeatL [x] k) ++ [x]
    rw [rep_snoc x k, List.append_assoc]
theorem padN_zero : ∀ k, padN k 0 = Lib.repeatL [48] k
  | 0 => rfl
  | k + 1 => by
    unfold padN
    rw [Nat.zero_div, padN_zero k, rep_snoc]
    rfl
theorem dec_pos (n : Nat) : 1 ≤ (Lib.decDigits n).length := by
  rw [Lib.decDigits]
  split
  · exact Nat.le_refl _
  · simp
theorem dec_len : ∀ (k n : Nat), n < 10 ^ (k + 1) → (Lib.decDigits n).length ≤ k + 1 ∧ Lib.repeatL [48] (k + 1 - (Lib.decDigits n).length) ++ Lib.decDigits n = padN (k + 1) n
  | 0, n, h => by
    rw [Lib.decDigits]
    rw [dif_pos (by omega)]
    refine ⟨Nat.le_refl _, ?_⟩
    show [UInt8.ofNat (48 + n)] = [] ++ [UInt8.ofNat (48 + n % 10)]
    rw [List.nil_append, Nat.mod_eq_of_lt (by omega)]
  | k + 1, n, h => by
    by_cases h10 : n < 10
    · rw [Lib.decDigits]
      rw [dif_pos h10]
      refine ⟨by simp, ?_⟩
      show Lib.repeatL [48] (k + 1) ++ [UInt8.ofNat (48 + n)] = padN (k + 1) (n / 10) ++ [UInt8.ofNat (48 + n % 10)]
      rw [show n / 10 = 0 by omega, padN_zero, Nat.mod_eq_of_lt h10]
    · have ih := dec_len k (n / 10) (by rw [Nat.pow_succ] at h; omega)
      have hp := dec_pos (n / 10)
      rw [Lib.decDigits]
      rw [dif_neg h10, List.length_append]
      refine ⟨by simp; exact ih.1, ?_⟩
      show _ = padN (k + 1) (n / 10) ++ [UInt8.ofNat (48 + n % 10)]
      rw [← ih.2, ← List.append_assoc]
      rw [show k + 1 + 1 - ((Lib.decDigits (n / 10)).length + [UInt8.ofNat (48 + n % 10)].length) = k + 1 - (Lib.decDigits (n / 10)).length by simp]

theorem str_app (a b : List UInt8) : str a ++ str b = str (a ++ b) := by unfold str; exact ByteArray.mk_append_mk a b

set_option maxHeartbeats 800000 in
theorem digits_any (n k : Nat) (w : World) (hT : Tab w) (hk : k ≤ 8) (hn : n < 10 ^ (k + 1)) :
    Calls Tryd.prog 36 #[.int .i64 (n : Int), .int .i64 ((k + 1 : Nat) : Int)] w (Made w (.string (str (padN (k + 1) n)))) := by
  obtain ⟨hl, hp⟩ := dec_len k n hn
  have h9 : (10 : Nat) ^ (k + 1) ≤ 10 ^ 9 := Nat.pow_le_pow_right (by decide) (by omega)
  have h1 := Tryd.strconv_Itoa (n : Int) (by omega) (by omega) w hT.2
  have hit : Lib.itoa (n : Int) = Lib.decDigits n := by
    unfold Lib.itoa
    rw [if_neg (by omega)]
    rfl
  rw [hit] at h1
  generalize Lib.decDigits n = l at hl hp h1
  have hstr : (⟨l.toArray⟩ : ByteArray) = str l := rfl
  rw [hstr] at h1
  have hlp : (l.length : Int) ≤ ((k : Int) + 1) := by omega
  have h2 : ∀ w1, Calls Tryd.prog 50 #[.string (str [48]), .int .i64 ((k + 1 - l.length : Nat) : Int)] w1 (fun e w' => e = .returned (.string (str (Lib.repeatL [48] (k + 1 - l.length)))) ∧ Below w1.heap.size w1 w') := fun w1 =>
    Tryd.strings_Repeat (str [48]) (k + 1 - l.length) w1 (by omega) (by rw [str_size]; simp; omega)
  have hrl : (Lib.repeatL [48] (k + 1 - l.length)).length = k + 1 - l.length := by rw [Lib.repeatL_length]; simp
  generalize hc : k + 1 - l.length = c at h2 hp hrl
  generalize Lib.repeatL [48] c = r at h2 hp hrl
  have hcI : ((k : Int) + 1) - (l.length : Int) = (c : Int) := by omega
  have hmax : max (0 : Int) (c : Int) = (c : Int) := by omega
  have hkI : (k : Int) ≤ 8 := by omega
  have hrs : (r.length : Int) ≤ 100 := by omega
  have hls : (l.length : Int) ≤ 100 := by omega
  have H1 := Lib.hid h1
  have H2 := Lib.hid h2
  have HP := Lib.hid hp
  have hcat := str_app r l
  rw [hp] at hcat
  have HCAT := Lib.hid hcat
  clear h1 hstr h2 hp hit hn hl h9 hk hc hrl hcat
  go_enter Tryd.func36, Tryd.ntmps36
  go_wp2_with fail
  refine H1.out.mono ?_
  rintro e w1 ⟨rfl, q, os, hw1⟩
  have b1 : Below w.heap.size w w1 := by rw [hw1]; exact Lib.below_grow _ _ (Nat.le_refl _) _ _
  clear hw1
  go_wp2_with fail
  refine (H2.out w1).mono ?_
  rintro e w2 ⟨rfl, b2⟩
  go_wp2_with fail
  go_ret
  exact ⟨by rw [← HCAT.out]; rfl, b1.trans (b2.mono b1.size)⟩

/-- The text of a date. -/
def showL (y m d h mi s : Nat) : List UInt8 := padN 4 y ++ [45] ++ padN 2 m ++ [45] ++ padN 2 d ++ [84] ++ padN 2 h ++ [58] ++ padN 2 mi ++ [58] ++ padN 2 s ++ [90]

theorem showL_str (y m d h mi s : Nat) : str (padN 4 y) ++ ⟨#[45]⟩ ++ str (padN 2 m) ++ ⟨#[45]⟩ ++ str (padN 2 d) ++ ⟨#[84]⟩ ++ str (padN 2 h) ++ ⟨#[58]⟩ ++ str (padN 2 mi) ++ ⟨#[58]⟩ ++ str (padN 2 s) ++ ⟨#[90]⟩ = str (showL y m d h mi s) := by
  have e : ∀ x : UInt8, (⟨#[x]⟩ : ByteArray) = str [x] := fun _ => rfl
  simp only [e, str_app]
  rfl

/-- What Show answers of the date. -/
def ShowPost (w : World) (n : Int) (e : Ending) (w' : World) : Prop :=
  ∃ y m d h mi s : Nat, e = .returned (.string (str (showL y m d h mi s))) ∧ validD y m d ∧ clockD h mi s ∧ momN y m d h mi s = n ∧ Below w.heap.size w w'

set_option maxHeartbeats 400000 in
theorem show_no (n : Int) (w : World) (hm : mayN n = false) : Calls Tryd.prog 12 #[.int .i64 n] w (Made w (.string ⟨#[]⟩)) := by
  have h1 := of_no n w hm
  have H1 := Lib.hid h1
  clear h1 hm
  go_enter Tryd.func12, Tryd.ntmps12
  go_wp2_with fail
  refine H1.out.mono ?_
  rintro e w1 ⟨rfl, b1⟩
  go_wp2_with fail
  go_ret
  exact ⟨rfl, b1.alloc b1.size _⟩

set_option maxHeartbeats 1600000 in
theorem show_yes (n : Int) (w : World) (hT : Tab w) (hm : mayN n = true) : Calls Tryd.prog 12 #[.int .i64 n] w (ShowPost w n) := by
  have h1 := of_yes n w hm
  have H1 := Lib.hid h1
  have HT := Lib.hid hT
  clear h1 hm hT
  go_enter Tryd.func12, Tryd.ntmps12
  go_wp2_with fail
  refine H1.out.mono ?_
  rintro e w1 ⟨y, m, d, h, mi, s, rfl, hv, hc, hmom, b1⟩
  have HV := Lib.hid hv
  have HC := Lib.hid hc
  have HM := Lib.hid hmom
  obtain ⟨hy1, hy2, hm1, hm2, hd1, hd2⟩ := hv
  obtain ⟨hh1, hh2, hi1, hi2, hs1, hs2⟩ := hc
  have hdb := dim_bd y m
  obtain ⟨y, rfl⟩ : ∃ k : Nat, y = (k : Int) := ⟨y.toNat, by omega⟩
  obtain ⟨m, rfl⟩ : ∃ k : Nat, m = (k : Int) := ⟨m.toNat, by omega⟩
  obtain ⟨d, rfl⟩ : ∃ k : Nat, d = (k : Int) := ⟨d.toNat, by omega⟩
  obtain ⟨h, rfl⟩ : ∃ k : Nat, h = (k : Int) := ⟨h.toNat, by omega⟩
  obtain ⟨mi, rfl⟩ : ∃ k : Nat, mi = (k : Int) := ⟨mi.toNat, by omega⟩
  obtain ⟨s, rfl⟩ : ∃ k : Nat, s = (k : Int) := ⟨s.toNat, by omega⟩
  have ny : y < 10 ^ (3 + 1) := by omega
  have nm : m < 10 ^ (1 + 1) := by omega
  have nd : d < 10 ^ (1 + 1) := by omega
  have nh : h < 10 ^ (1 + 1) := by omega
  have ni : mi < 10 ^ (1 + 1) := by omega
  have ns : s < 10 ^ (1 + 1) := by omega
  have NB := Lib.hid (And.intro ny (And.intro nm (And.intro nd (And.intro nh (And.intro ni ns)))))
  have hT1 := HT.out.next b1
  have hbk : Blk (w1.alloc (.cells #[.int .i64 (y : Int), .int .i64 (m : Int), .int .i64 (d : Int), .int .i64 (h : Int), .int .i64 (mi : Int), .int .i64 (s : Int)] 30)).drew w1.heap.size 30 #[.int .i64 (y : Int), .int .i64 (m : Int), .int .i64 (d : Int), .int .i64 (h : Int), .int .i64 (mi : Int), .int .i64 (s : Int)] := Blk.fresh w1 30 #[.int .i64 (y : Int), .int .i64 (m : Int), .int .i64 (d : Int), .int .i64 (h : Int), .int .i64 (mi : Int), .int .i64 (s : Int)]
  have c0 := hbk.cell 0
  have c1 := hbk.cell 1
  have c2 := hbk.cell 2
  have c3 := hbk.cell 3
  have c4 := hbk.cell 4
  have c5 := hbk.cell 5
  simp only [List.getElem?_toArray, List.getElem?_cons_succ, List.getElem?_cons_zero] at c0 c1 c2 c3 c4 c5
  have C0 := Lib.hid c0
  have C1 := Lib.hid c1
  have C2 := Lib.hid c2
  have C3 := Lib.hid c3
  have C4 := Lib.hid c4
  have C5 := Lib.hid c5
  have hTb : Tab (w1.alloc (.cells #[.int .i64 (y : Int), .int .i64 (m : Int), .int .i64 (d : Int), .int .i64 (h : Int), .int .i64 (mi : Int), .int .i64 (s : Int)] 30)).drew := hT1.next (((Below.refl _ _).alloc (Nat.le_refl _) _).drew)
  have hbb : Below w.heap.size w (w1.alloc (.cells #[.int .i64 (y : Int), .int .i64 (m : Int), .int .i64 (d : Int), .int .i64 (h : Int), .int .i64 (mi : Int), .int .i64 (s : Int)] 30)).drew := (b1.alloc b1.size _).drew
  have TB := Lib.hid hTb
  have BB := Lib.hid hbb
  have p4 : (padN 4 y).length = 4 := padN_len 4 y
  have pm : (padN 2 m).length = 2 := padN_len 2 m
  have pd : (padN 2 d).length = 2 := padN_len 2 d
  have ph : (padN 2 h).length = 2 := padN_len 2 h
  have pi : (padN 2 mi).length = 2 := padN_len 2 mi
  have ps : (padN 2 s).length = 2 := padN_len 2 s
  clear hy1 hy2 hm1 hm2 hd1 hd2 hh1 hh2 hi1 hi2 hs1 hs2 hdb ny nm nd nh ni ns hT1 hbk c0 c1 c2 c3 c4 c5 hTb hbb hmom b1
  go_wp2_with fail
  refine up_start Nil (by kernel_rfl) ?_
  -- 0: t12 := Op.fieldAddr 23 (t3) 0 
  refine up_take (by exact at0) (by kernel_rfl) (by exact fun _ _ _ h => h) (by rfl) (by intro W hW; go_simp; try with_reducible rfl) ?_
  simp only [Act.put, List.setIfInBounds_toArray, List.set_cons_zero, List.set_cons_succ]
  -- 1: t13 := Op.load 3 (t12) 
  refine up_take (by exact (atS at0)) (by kernel_rfl) (by exact fun _ _ _ h => h) (by rfl) (by intro W hW; have q := cell_up C0.out hW id; go_simp; try with_reducible rfl) ?_
  simp only [Act.put, List.setIfInBounds_toArray, List.set_cons_zero, List.set_cons_succ]
  -- 4: t16 := Op.fieldAddr 23 (t3) 1 
  refine up_take (by exact (atS (atS (atS (atS at0))))) (by kernel_rfl) (by exact fun _ _ _ h => h) (by rfl) (by intro W hW; go_simp; try with_reducible rfl) ?_
  simp only [Act.put, List.setIfInBounds_toArray, List.set_cons_zero, List.set_cons_succ]
  -- 5: t17 := Op.load 3 (t16) 
  refine up_take (by exact (atS (atS (atS (atS (atS at0)))))) (by kernel_rfl) (by exact fun _ _ _ h => h) (by rfl) (by intro W hW; have q := cell_up C1.out hW id; go_simp; try with_reducible rfl) ?_
  simp only [Act.put, List.setIfInBounds_toArray, List.set_cons_zero, List.set_cons_succ]
  -- 9: t21 := Op.fieldAddr 23 (t3) 2 
  refine up_take (by exact (atS (atS (atS (atS (atS (atS (atS (atS (atS at0)))))))))) (by kernel_rfl) (by exact fun _ _ _ h => h) (by rfl) (by intro W hW; go_simp; try with_reducible rfl) ?_
  simp only [Act.put, List.setIfInBounds_toArray, List.set_cons_zero, List.set_cons_succ]
  -- 10: t22 := Op.load 3 (t21) 
  refine up_take (by exact (atS (atS (atS (atS (atS (atS (atS (atS (atS (atS at0))))))))))) (by kernel_rfl) (by exact fun _ _ _ h => h) (by rfl) (by intro W hW; have q := cell_up C2.out hW id; go_simp; try with_reducible rfl) ?_
  simp only [Act.put, List.setIfInBounds_toArray, List.set_cons_zero, List.set_cons_succ]
  -- 14: t26 := Op.fieldAddr 23 (t3) 3 
  refine up_take (by exact (atS (atS (atS (atS (atS (atS (atS (atS (atS (atS (atS (atS (atS (atS at0))))))))))))))) (by kernel_rfl) (by exact fun _ _ _ h => h) (by rfl) (by intro W hW; go_simp; try with_reducible rfl) ?_
  simp only [Act.put, List.setIfInBounds_toArray, List.set_cons_zero, List.set_cons_succ]
  -- 15: t27 := Op.load 3 (t26) 
  refine up_take (by exact (atS (atS (atS (atS (atS (atS (atS (atS (atS (atS (atS (atS (atS (atS (atS at0)))))))))))))))) (by kernel_rfl) (by exact fun _ _ _ h => h) (by rfl) (by intro W hW; have q := cell_up C3.out hW id; go_simp; try with_reducible rfl) ?_
  simp only [Act.put, List.setIfInBounds_toArray, List.set_cons_zero, List.set_cons_succ]
  -- 19: t31 := Op.fieldAddr 23 (t3) 4 
  refine up_take (by exact (atS (atS (atS (atS (atS (atS (atS (atS (atS (atS (atS (atS (atS (atS (atS (atS (atS (atS (atS at0)))))))))))))))))))) (by kernel_rfl) (by exact fun _ _ _ h => h) (by rfl) (by intro W hW; go_simp; try with_reducible rfl) ?_
  simp only [Act.put, List.setIfInBounds_toArray, List.set_cons_zero, List.set_cons_succ]
  -- 20: t32 := Op.load 3 (t31) 
  refine up_take (by exact (atS (atS (atS (atS (atS (atS (atS (atS (atS (atS (atS (atS (atS (atS (atS (atS (atS (atS (atS (atS at0))))))))))))))))))))) (by kernel_rfl) (by exact fun _ _ _ h => h) (by rfl) (by intro W hW; have q := cell_up C4.out hW id; go_simp; try with_reducible rfl) ?_
  simp only [Act.put, List.setIfInBounds_toArray, List.set_cons_zero, List.set_cons_succ]
  -- 24: t36 := Op.fieldAddr 23 (t3) 5 
  refine up_take (by exact (atS (atS (atS (atS (atS (atS (atS (atS (atS (atS (atS (atS (atS (atS (atS (atS (atS (atS (atS (atS (atS (atS (atS (atS at0))))))))))))))))))))))))) (by kernel_rfl) (by exact fun _ _ _ h => h) (by rfl) (by intro W hW; go_simp; try with_reducible rfl) ?_
  simp only [Act.put, List.setIfInBounds_toArray, List.set_cons_zero, List.set_cons_succ]
  -- 25: t37 := Op.load 3 (t36) 
  refine up_take (by exact (atS (atS (atS (atS (atS (atS (atS (atS (atS (atS (atS (atS (atS (atS (atS (atS (atS (atS (atS (atS (atS (atS (atS (atS (atS at0)))))))))))))))))))))))))) (by kernel_rfl) (by exact fun _ _ _ h => h) (by rfl) (by intro W hW; have q := cell_up C5.out hW id; go_simp; try with_reducible rfl) ?_
  simp only [Act.put, List.setIfInBounds_toArray, List.set_cons_zero, List.set_cons_succ]
  -- 2: t14 := Op.call { callee := Callee.value (func 32), args := #[t13, const (i64 4)], argTypes := #[3, 3] } 
  refine up_one (by exact (atS (atS at0))) (by kernel_rfl) (fun K hK => ?_)
  go_simp
  refine (digits_any y 3 _ (by exact TB.out) (by decide) NB.out.1).mono ?_
  rintro e wx0 ⟨rfl, by0⟩
  refine hK.out _ _ (Kept.below by0) ?_
  clear hK K
  have bx0 : Below (w1.alloc (.cells #[.int .i64 (y : Int), .int .i64 (m : Int), .int .i64 (d : Int), .int .i64 (h : Int), .int .i64 (mi : Int), .int .i64 (s : Int)] 30)).drew.heap.size (w1.alloc (.cells #[.int .i64 (y : Int), .int .i64 (m : Int), .int .i64 (d : Int), .int .i64 (h : Int), .int .i64 (mi : Int), .int .i64 (s : Int)] 30)).drew wx0 := by0
  clear by0
  -- 3: t15 := Op.binOp add 9 (t14) (const (Value.string { data := #[45] })) 9 
  refine up_take (by exact (atS (atS (atS at0)))) (by kernel_rfl) (by exact fun _ _ _ h => h) (by rfl) (by intro W hW; go_simp; try with_reducible rfl) ?_
  simp only [Act.put, List.setIfInBounds_toArray, List.set_cons_zero, List.set_cons_succ]
  -- 6: t18 := Op.call { callee := Callee.value (func 32), args := #[t17, const (i64 2)], argTypes := #[3, 3] } 
  refine up_one (by exact (atS (atS (atS (atS (atS (atS at0))))))) (by kernel_rfl) (fun K hK => ?_)
  go_simp
  refine (digits_any m 1 _ (by exact (TB.out.next bx0)) (by decide) NB.out.2.1).mono ?_
  rintro e wx1 ⟨rfl, by1⟩
  refine hK.out _ _ (Kept.below by1) ?_
  clear hK K
  have bx1 : Below (w1.alloc (.cells #[.int .i64 (y : Int), .int .i64 (m : Int), .int .i64 (d : Int), .int .i64 (h : Int), .int .i64 (mi : Int), .int .i64 (s : Int)] 30)).drew.heap.size (w1.alloc (.cells #[.int .i64 (y : Int), .int .i64 (m : Int), .int .i64 (d : Int), .int .i64 (h : Int), .int .i64 (mi : Int), .int .i64 (s : Int)] 30)).drew wx1 := bx0.trans (by1.mono bx0.size)
  clear by1 bx0
  -- 7: t19 := Op.binOp add 9 (t15) (t18) 9 
  refine up_take (by exact (atS (atS (atS (atS (atS (atS (atS at0)))))))) (by kernel_rfl) (by exact fun _ _ _ h => h) (by rfl) (by intro W hW; go_simp; try with_reducible rfl) ?_
  simp only [Act.put, List.setIfInBounds_toArray, List.set_cons_zero, List.set_cons_succ]
  -- 8: t20 := Op.binOp add 9 (t19) (const (Value.string { data := #[45] })) 9 
  refine up_take (by exact (atS (atS (atS (atS (atS (atS (atS (atS at0))))))))) (by kernel_rfl) (by exact fun _ _ _ h => h) (by rfl) (by intro W hW; go_simp; try with_reducible rfl) ?_
  simp only [Act.put, List.setIfInBounds_toArray, List.set_cons_zero, List.set_cons_succ]
  -- 11: t23 := Op.call { callee := Callee.value (func 32), args := #[t22, const (i64 2)], argTypes := #[3, 3] } 
  refine up_one (by exact (atS (atS (atS (atS (atS (atS (atS (atS (atS (atS (atS at0)))))))))))) (by kernel_rfl) (fun K hK => ?_)
  go_simp
  refine (digits_any d 1 _ (by exact (TB.out.next bx1)) (by decide) NB.out.2.2.1).mono ?_
  rintro e wx2 ⟨rfl, by2⟩
  refine hK.out _ _ (Kept.below by2) ?_
  clear hK K
  have bx2 : Below (w1.alloc (.cells #[.int .i64 (y : Int), .int .i64 (m : Int), .int .i64 (d : Int), .int .i64 (h : Int), .int .i64 (mi : Int), .int .i64 (s : Int)] 30)).drew.heap.size (w1.alloc (.cells #[.int .i64 (y : Int), .int .i64 (m : Int), .int .i64 (d : Int), .int .i64 (h : Int), .int .i64 (mi : Int), .int .i64 (s : Int)] 30)).drew wx2 := bx1.trans (by2.mono bx1.size)
  clear by2 bx1
  -- 12: t24 := Op.binOp add 9 (t20) (t23) 9 
  refine up_take (by exact (atS (atS (atS (atS (atS (atS (atS (atS (atS (atS (atS (atS at0))))))))))))) (by kernel_rfl) (by exact fun _ _ _ h => h) (by rfl) (by intro W hW; go_simp; try with_reducible rfl) ?_
  simp only [Act.put, List.setIfInBounds_toArray, List.set_cons_zero, List.set_cons_succ]
  -- 13: t25 := Op.binOp add 9 (t24) (const (Value.string { data := #[84] })) 9 
  refine up_take (by exact (atS (atS (atS (atS (atS (atS (atS (atS (atS (atS (atS (atS (atS at0)))))))))))))) (by kernel_rfl) (by exact fun _ _ _ h => h) (by rfl) (by intro W hW; go_simp; try with_reducible rfl) ?_
  simp only [Act.put, List.setIfInBounds_toArray, List.set_cons_zero, List.set_cons_succ]
  -- 16: t28 := Op.call { callee := Callee.value (func 32), args := #[t27, const (i64 2)], argTypes := #[3, 3] } 
  refine up_one (by exact (atS (atS (atS (atS (atS (atS (atS (atS (atS (atS (atS (atS (atS (atS (atS (atS at0))))))))))))))))) (by kernel_rfl) (fun K hK => ?_)
  go_simp
  refine (digits_any h 1 _ (by exact (TB.out.next bx2)) (by decide) NB.out.2.2.2.1).mono ?_
  rintro e wx3 ⟨rfl, by3⟩
  refine hK.out _ _ (Kept.below by3) ?_
  clear hK K
  have bx3 : Below (w1.alloc (.cells #[.int .i64 (y : Int), .int .i64 (m : Int), .int .i64 (d : Int), .int .i64 (h : Int), .int .i64 (mi : Int), .int .i64 (s : Int)] 30)).drew.heap.size (w1.alloc (.cells #[.int .i64 (y : Int), .int .i64 (m : Int), .int .i64 (d : Int), .int .i64 (h : Int), .int .i64 (mi : Int), .int .i64 (s : Int)] 30)).drew wx3 := bx2.trans (by3.mono bx2.size)
  clear by3 bx2
  -- 17: t29 := Op.binOp add 9 (t25) (t28) 9 
  refine up_take (by exact (atS (atS (atS (atS (atS (atS (atS (atS (atS (atS (atS (atS (atS (atS (atS (atS (atS at0)))))))))))))))))) (by kernel_rfl) (by exact fun _ _ _ h => h) (by rfl) (by intro W hW; go_simp; try with_reducible rfl) ?_
  simp only [Act.put, List.setIfInBounds_toArray, List.set_cons_zero, List.set_cons_succ]
  -- 18: t30 := Op.binOp add 9 (t29) (const (Value.string { data := #[58] })) 9 
  refine up_take (by exact (atS (atS (atS (atS (atS (atS (atS (atS (atS (atS (atS (atS (atS (atS (atS (atS (atS (atS at0))))))))))))))))))) (by kernel_rfl) (by exact fun _ _ _ h => h) (by rfl) (by intro W hW; go_simp; try with_reducible rfl) ?_
  simp only [Act.put, List.setIfInBounds_toArray, List.set_cons_zero, List.set_cons_succ]
  -- 21: t33 := Op.call { callee := Callee.value (func 32), args := #[t32, const (i64 2)], argTypes := #[3, 3] } 
  refine up_one (by exact (atS (atS (atS (atS (atS (atS (atS (atS (atS (atS (atS (atS (atS (atS (atS (atS (atS (atS (atS (atS (atS at0)))))))))))))))))))))) (by kernel_rfl) (fun K hK => ?_)
  go_simp
  refine (digits_any mi 1 _ (by exact (TB.out.next bx3)) (by decide) NB.out.2.2.2.2.1).mono ?_
  rintro e wx4 ⟨rfl, by4⟩
  refine hK.out _ _ (Kept.below by4) ?_
  clear hK K
  have bx4 : Below (w1.alloc (.cells #[.int .i64 (y : Int), .int .i64 (m : Int), .int .i64 (d : Int), .int .i64 (h : Int), .int .i64 (mi : Int), .int .i64 (s : Int)] 30)).drew.heap.size (w1.alloc (.cells #[.int .i64 (y : Int), .int .i64 (m : Int), .int .i64 (d : Int), .int .i64 (h : Int), .int .i64 (mi : Int), .int .i64 (s : Int)] 30)).drew wx4 := bx3.trans (by4.mono bx3.size)
  clear by4 bx3
  -- 22: t34 := Op.binOp add 9 (t30) (t33) 9 
  refine up_take (by exact (atS (atS (atS (atS (atS (atS (atS (atS (atS (atS (atS (atS (atS (atS (atS (atS (atS (atS (atS (atS (atS (atS at0))))))))))))))))))))))) (by kernel_rfl) (by exact fun _ _ _ h => h) (by rfl) (by intro W hW; go_simp; try with_reducible rfl) ?_
  simp only [Act.put, List.setIfInBounds_toArray, List.set_cons_zero, List.set_cons_succ]
  -- 23: t35 := Op.binOp add 9 (t34) (const (Value.string { data := #[58] })) 9 
  refine up_take (by exact (atS (atS (atS (atS (atS (atS (atS (atS (atS (atS (atS (atS (atS (atS (atS (atS (atS (atS (atS (atS (atS (atS (atS at0)))))))))))))))))))))))) (by kernel_rfl) (by exact fun _ _ _ h => h) (by rfl) (by intro W hW; go_simp; try with_reducible rfl) ?_
  simp only [Act.put, List.setIfInBounds_toArray, List.set_cons_zero, List.set_cons_succ]
  -- 26: t38 := Op.call { callee := Callee.value (func 32), args := #[t37, const (i64 2)], argTypes := #[3, 3] } 
  refine up_one (by exact (atS (atS (atS (atS (atS (atS (atS (atS (atS (atS (atS (atS (atS (atS (atS (atS (atS (atS (atS (atS (atS (atS (atS (atS (atS (atS at0))))))))))))))))))))))))))) (by kernel_rfl) (fun K hK => ?_)
  go_simp
  refine (digits_any s 1 _ (by exact (TB.out.next bx4)) (by decide) NB.out.2.2.2.2.2).mono ?_
  rintro e wx5 ⟨rfl, by5⟩
  refine hK.out _ _ (Kept.below by5) ?_
  clear hK K
  have bx5 : Below (w1.alloc (.cells #[.int .i64 (y : Int), .int .i64 (m : Int), .int .i64 (d : Int), .int .i64 (h : Int), .int .i64 (mi : Int), .int .i64 (s : Int)] 30)).drew.heap.size (w1.alloc (.cells #[.int .i64 (y : Int), .int .i64 (m : Int), .int .i64 (d : Int), .int .i64 (h : Int), .int .i64 (mi : Int), .int .i64 (s : Int)] 30)).drew wx5 := bx4.trans (by5.mono bx4.size)
  clear by5 bx4
  -- 27: t39 := Op.binOp add 9 (t35) (t38) 9 
  refine up_take (by exact (atS (atS (atS (atS (atS (atS (atS (atS (atS (atS (atS (atS (atS (atS (atS (atS (atS (atS (atS (atS (atS (atS (atS (atS (atS (atS (atS at0)))))))))))))))))))))))))))) (by kernel_rfl) (by exact fun _ _ _ h => h) (by rfl) (by intro W hW; go_simp; try with_reducible rfl) ?_
  simp only [Act.put, List.setIfInBounds_toArray, List.set_cons_zero, List.set_cons_succ]
  -- 28: t40 := Op.binOp add 9 (t39) (const (Value.string { data := #[90] })) 9 
  refine up_take (by exact (atS (atS (atS (atS (atS (atS (atS (atS (atS (atS (atS (atS (atS (atS (atS (atS (atS (atS (atS (atS (atS (atS (atS (atS (atS (atS (atS (atS at0))))))))))))))))))))))))))))) (by kernel_rfl) (by exact fun _ _ _ h => h) (by rfl) (by intro W hW; go_simp; try with_reducible rfl) ?_
  simp only [Act.put, List.setIfInBounds_toArray, List.set_cons_zero, List.set_cons_succ]
  -- 29: t2 := Op.assign (t40) 
  refine up_take (by exact (atS (atS (atS (atS (atS (atS (atS (atS (atS (atS (atS (atS (atS (atS (atS (atS (atS (atS (atS (atS (atS (atS (atS (atS (atS (atS (atS (atS (atS at0)))))))))))))))))))))))))))))) (by kernel_rfl) (by exact fun _ _ _ h => h) (by rfl) (by intro W hW; go_simp; try with_reducible rfl) ?_
  simp only [Act.put, List.setIfInBounds_toArray, List.set_cons_zero, List.set_cons_succ]
  refine up_done (by kernel_rfl) ?_
  have hfin : Below w.heap.size w wx5 := BB.out.trans (bx5.mono BB.out.size)
  have hshow := showL_str y m d h mi s
  have HSH := Lib.hid hshow
  clear hshow bx5
  go_wp2_with fail
  go_ret
  exact ⟨y, m, d, h, mi, s, by rw [← HSH.out]; rfl, HV.out, HC.out, HM.out, hfin⟩
end Go.Proofs.YtmimkcdomgoefabDoor
