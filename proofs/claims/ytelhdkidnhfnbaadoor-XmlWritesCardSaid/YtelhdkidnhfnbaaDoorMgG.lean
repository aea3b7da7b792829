/-
  The document's text of runes, folded and clean texts, beginnings; the program's beginnings. Condition: a length within 2^40.
-/
import Derived.Test.YtelhdkidnhfnbaaDoorMgF
import Derived.Test.YtelhdkidnhfnbaaDoorEMath
import Derived.Deep.MidRow
import Derived.Test.YtelhdkidnhfnbaaDoorRows
import Derived.ProofKit
import Derived.LaidMore
import Derived.OpenShut
import Derived.Stop.Joined
namespace Go.Proofs.YtelhdkidnhfnbaaDoor
open Go.RowKit
open Go.Lib (decodeL encodeRune runeCells)

def RPutRel (rs : List Int) (w : World) (u3 u4 : Value) (W : World) : Prop :=
  ∃ k : Nat, k ≤ rs.length ∧ u4 = .int .i64 (k : Int) ∧ Own W w.heap.size 5 u3 (bvs (put (rs.take k))) ∧ Below w.heap.size w W
theorem src_enc {w : World} {v : Value} {c : Int} (h : Src w v (runeCells c)) : Src w v (bvs (encodeRune c)) := by rw [bvs_enc]; exact h
set_option maxHeartbeats 1600000 in
theorem rput_any (rs : List Int) (v : Value) (B : Nat) (w : World) (hr : RdV w B v (rvs rs)) (hB : B ≤ w.heap.size) (hl : rs.length ≤ 8796093022208) :
    Calls Tryd.prog 67 #[v] w (Made w (.string (str (put rs)))) := by
  obtain ⟨A, c, rfl, h1, h2, hc⟩ := hr
  rw [rvs_length] at h1
  rw [rvs_length rs]
  have HC := Lib.hid hc
  clear hc h1 h2
  go_enter Tryd.func67, Tryd.ntmps67
  go_wp2_with fail
  go_loopw [3, 4] (RPutRel rs w) (fun _ u _ => rs.length - (intOf u).toNat)
  case atStart => exact ⟨0, Nat.zero_le _, rfl, Own.nil _ _ _, Below.refl _ _⟩
  case round =>
    obtain ⟨k, hk, rfl, hown, hbw⟩ := hrel
    have hsz := hbw.size
    by_cases hkl : k < rs.length
    · have hkI : (k : Int) < (rs.length : Int) := by omega
      obtain ⟨b, o, rfl, hbl, hcc⟩ := HC.out (by rw [rvs_length]; omega)
      have hx := hcc k (by rw [rvs_length]; exact hkl)
      have ex : (rvs rs)[k]'(by rw [rvs_length]; exact hkl) = .int .i32 rs[k] := by simp [rvs]
      rw [ex] at hx
      have hx2 := (hbw.cell (p := ⟨b, o + k, none⟩) (Nat.lt_of_lt_of_le hbl hB)).trans hx
      have hpt := put_take hkl
      have hpl := put_take_len rs k
      have hel := enc_len rs[k]
      generalize rs[k] = x at hx2 hpt hel
      have HPT := Lib.hid hpt
      have hln : (bvs (put (rs.take k))).length + (bvs (encodeRune x)).length ≤ 140737488355328 := by rw [bvs_length, bvs_length]; omega
      have HLN := Lib.hid hln
      clear hpt hpl hx ex hcc hel hln
      go_wp2_with (first
        | (go_at_call 80; refine (one_any _ _).mono ?_; rintro e w1 ⟨vx, rfl, hsrc, b1⟩; have hown1 := hown.below b1; have hsz1 : w.heap.size ≤ w1.heap.size := Nat.le_trans hsz b1.size; have hbw1 : Below w.heap.size w w1 := hbw.trans (b1.mono hsz); have hsrc1 := src_enc hsrc)
        | (at_builtin; go_must (refine wpList_append_src w1 rfl (.tmp 11) (.tmp 16) _ rfl w.heap.size 5 _ 1 Tryd.underlying41 Tryd.u8info rfl _ _ rfl (by exact hown1) _ _ rfl (by exact hsrc1) (bvs_one _) (by have := HLN.out; unfold maxLen; omega) (by have := HLN.out; omega) hsz1 ?_); intro v2 w2 hown2 hg2 hb2 _))
      go_roundw
      case rel => exact ⟨k + 1, by omega, by go_num, by rw [HPT.out, bvs_append]; exact hown2, hbw1.trans hb2⟩
      case measure => simp [intOf]; omega
    · have hkI : ¬ (k : Int) < (rs.length : Int) := by omega
      rw [List.take_of_length_le (by omega)] at hown
      have hcv := conv_at (hown.rd (Nat.le_refl _))
      go_wp2_with fail
      go_ret
      exact ⟨rfl, hbw⟩

/-! ### folded -/
/-- A row in which the first k are turned. -/
def part (R : List Int) (k : Nat) : List Int := (R.take k).map foldR ++ R.drop k
theorem part_len (R : List Int) (k : Nat) (h : k ≤ R.length) : (part R k).length = R.length := by
  unfold part
  rw [List.length_append, List.length_map, List.length_take, List.length_drop]
  omega
theorem part_at (R : List Int) (k : Nat) (h : k < R.length) : (rvs (part R k))[k]? = some (.int .i32 R[k]) := by
  have e : ((R.take k).map foldR).length = k := by rw [List.length_map, List.length_take]; omega
  unfold rvs part
  rw [List.getElem?_map, List.getElem?_append_right (by omega), e, Nat.sub_self, List.getElem?_drop]
  simp [h]
theorem part_set (R : List Int) (k : Nat) (h : k < R.length) : (rvs (part R k)).set k (.int .i32 (foldR R[k])) = rvs (part R (k + 1)) := by
  have e : ((R.take k).map foldR).length = k := by rw [List.length_map, List.length_take]; omega
  have e1 : part R (k + 1) = (R.take k).map foldR ++ foldR R[k] :: R.drop (k + 1) := by
    unfold part
    rw [List.take_succ_eq_append_getElem h, List.map_append, List.map_cons, List.map_nil, List.append_assoc]
    rfl
  have e2 : part R k = (R.take k).map foldR ++ R[k] :: R.drop (k + 1) := by
    unfold part
    rw [← List.drop_eq_getElem_cons h]
  rw [e1, e2]
  unfold rvs
  rw [List.map_append, List.map_append, List.map_cons, List.map_cons]
  have e3 : (((R.take k).map foldR).map fun c => Value.int .i32 c).length = k := by rw [List.length_map, e]
  rw [List.set_append_right _ _ (by omega), e3, Nat.sub_self, List.set_cons_zero]
theorem part_all (R : List Int) (k : Nat) (h : ¬ k < R.length) : part R k = R.map foldR := by
  unfold part
  rw [List.take_of_length_le (by omega), List.drop_eq_nil_of_le (by omega), List.append_nil]
theorem RdV.nil (w : World) (B : Nat) : RdV w B (.slice none 0 0) (rvs []) := ⟨none, 0, rfl, Nat.le_refl _, Nat.zero_le _, fun h => absurd h (by simp [rvs])⟩
def RFoldRel (R : List Int) (w : World) (v : Value) (u4 : Value) (W : World) : Prop :=
  ∃ k : Nat, k ≤ R.length ∧ u4 = .int .i64 (k : Int) ∧ Own W w.heap.size 21 v (rvs (part R k)) ∧ Below w.heap.size w W
theorem own_at {w : World} {base e g n cap : Nat} {xs : List Value} (h : Own w base e (.slice (some ⟨g, 0, none⟩) n cap) xs) (k : Nat) (u : Value) (hk : xs[k]? = some u) :
    n = xs.length ∧ w.cell? ⟨g, k, none⟩ = some u ∧ w.frozen? ⟨g, k, none⟩ = false ∧ base ≤ g := by
  have h' := h
  have hn : n = xs.length := by
    rcases h.2 with ⟨e, _⟩ | ⟨g', cap', cur, e, _⟩
    · cases e
    · injection e
  subst hn
  have hkl : k < xs.length := (List.getElem?_eq_some_iff.1 hk).1
  exact ⟨rfl, (World.ownsRow.cellAt h' k (by omega)).trans hk, World.ownsRow.frozenAt h' k, (World.ownsRow.lt h' g rfl).1⟩
end Go.Proofs.YtelhdkidnhfnbaaDoor

/-
  The document's clean text; beginnings, the program's and the document's. Condition: a length within 2^40.
-/
namespace Go.Proofs.YtelhdkidnhfnbaaDoor
open Go.RowKit
open Go.Lib (decodeL encodeRune runeCells)

def RCleanRel (R : List Int) (w : World) (u4 u5 u6 : Value) (W : World) : Prop :=
  ∃ (k : Nat) (o : List Int × Bool), k ≤ R.length ∧ o = (R.take k).foldl cleanStep ([], false) ∧ u6 = .int .i64 (k : Int) ∧ u5 = .bool o.2 ∧ Own W w.heap.size 21 u4 (rvs o.1) ∧ Below w.heap.size w W
theorem take_snoc_fold {R : List Int} {k : Nat} (h : k < R.length) : (R.take (k + 1)).foldl cleanStep ([], false) = cleanStep ((R.take k).foldl cleanStep ([], false)) R[k] := by
  rw [List.take_succ_eq_append_getElem h, foldl_snoc]
/-! ### beginnings -/
def RCutRel (l : List UInt8) (n : Int) (u : Value) : Prop := ∃ k : Nat, k ≤ l.length ∧ (k = 0 ∨ (k : Int) ≤ n) ∧ cutN l n = k + cutN (l.drop k) (n - k) ∧ u = .int .i64 (k : Int)
theorem cut_stop {l : List UInt8} {n : Int} {k : Nat} (h : cutN l n = k + cutN (l.drop k) (n - k)) (hk : k < l.length) (hn : n - k < ((decodeL (l.drop k)).2 : Int)) : cutN l n = k := by
  rw [h, cutN_step (drop_ne hk), if_pos hn]
  rfl
theorem cut_on {l : List UInt8} {n : Int} {k : Nat} (h : cutN l n = k + cutN (l.drop k) (n - k)) (hk : k < l.length) (hn : ¬ n - k < ((decodeL (l.drop k)).2 : Int)) :
    cutN l n = (k + (decodeL (l.drop k)).2) + cutN (l.drop (k + (decodeL (l.drop k)).2)) (n - ((k + (decodeL (l.drop k)).2 : Nat) : Int)) := by
  rw [cutN_step (drop_ne hk), if_neg hn, List.drop_drop] at h
  rw [h, show n - ((k + (decodeL (l.drop k)).2 : Nat) : Int) = n - k - ((decodeL (l.drop k)).2 : Int) by omega]
  omega
theorem cut_end {l : List UInt8} {n : Int} {k : Nat} (h : cutN l n = k + cutN (l.drop k) (n - k)) (hk : ¬ k < l.length) : cutN l n = k := by
  rw [h, List.drop_eq_nil_of_le (by omega), cutN_nil]
  rfl
def CutRel (l : List UInt8) (n : Int) (w : World) (u : Value) (W : World) : Prop :=
  ∃ k e : Nat, k ≤ l.length ∧ cutN l n = e + cutN (l.drop e) (n - e) ∧ ((k = 0 ∧ e = 0) ∨ (e < l.length ∧ (e : Int) ≤ n ∧ k = e + (decodeL (l.drop e)).2)) ∧ u = .int .i64 (e : Int) ∧ W = w.iter (str l) k
set_option maxHeartbeats 1600000 in
theorem cut_any (l : List UInt8) (n : Int) (w : World) :
    Calls Tryd.prog 77 #[.string (str l), .int .i64 n] w (Made w (.string (str (l.take (cutN l n))))) := by
  by_cases hln : (l.length : Int) ≤ n
  · have hfin : l.take (cutN l n) = l := by rw [cutN_all l n hln, List.take_length]
    have HFI := Lib.hid hfin
    clear hfin
    go_enter Tryd.func77, Tryd.ntmps77
    go_wp2_with fail
    go_ret
    exact ⟨by rw [HFI.out]; rfl, Below.refl _ _⟩
  · have hln2 : n < (l.length : Int) := by omega
    go_enter Tryd.func77, Tryd.ntmps77
    go_wp2_with fail
    go_loopw [5] (CutRel l n w) (fun _ wr => l.length - wr.iterPos w.heap.size)
    case atStart => exact ⟨0, 0, Nat.zero_le _, by simp, .inl ⟨rfl, rfl⟩, rfl, rfl⟩
    case round =>
      obtain ⟨k, e, hk, hcut, hke, rfl, rfl⟩ := hrel
      have hel : e ≤ l.length := by omega
      have hslf := fun W => slf l e hel W
      by_cases hkl : k < l.length
      · have hnx := fun ty => nxt_it w l k ty hkl
        have hd := dec_on hkl
        have hkI : (k : Int) < (l.length : Int) := by omega
        by_cases hc : n < (k : Int)
        · have hfin : cutN l n = e := by
            rcases hke with ⟨rfl, rfl⟩ | ⟨h1, h2, h3⟩
            · have hne : l ≠ [] := fun h => by rw [h] at hkl; exact absurd hkl (by simp)
              have := (dec_bd hne).1
              rw [cutN_step hne, if_pos (by omega)]
            · exact cut_stop hcut h1 (by omega)
          have HFI := Lib.hid hfin
          generalize decodeL (l.drop k) = d at *
          clear hfin hcut hke hd
          go_wp2_with fail
          go_ret
          exact ⟨by rw [HFI.out]; rfl, (Below.refl _ _).alloc (Nat.le_refl _) _⟩
        · have hnew : cutN l n = k + cutN (l.drop k) (n - k) := by
            rcases hke with ⟨rfl, rfl⟩ | ⟨h1, h2, h3⟩
            · exact hcut
            · subst h3
              exact cut_on hcut h1 (by omega)
          have HN := Lib.hid hnew
          have HD := Lib.hid hd
          clear hnew hcut hke hd
          obtain ⟨d, hdd⟩ : ∃ d, d = decodeL (l.drop k) := ⟨_, rfl⟩
          have HDD := Lib.hid hdd
          rw [← hdd] at hnx
          clear hdd
          go_wp2_with fail
          go_roundw
          case rel => exact ⟨k + d.2, k, by rw [HDD.out]; exact HD.out.2, HN.out, .inr ⟨hkl, by omega, by rw [HDD.out]⟩, rfl, rfl⟩
          case measure =>
            simp only [World.iterPos_iter]
            have := HD.out
            have e := HDD.out
            rw [← e] at this
            omega
      · have hnx := fun ty => nxt_itno w l k ty hkl
        have hfin : cutN l n = e := by
          rcases hke with ⟨rfl, rfl⟩ | ⟨h1, h2, h3⟩
          · exact cut_end hcut hkl
          · exact cut_stop hcut h1 (by omega)
        have HFI := Lib.hid hfin
        clear hfin hcut hke
        go_wp2_with fail
        go_ret
        exact ⟨by rw [HFI.out]; rfl, (Below.refl _ _).alloc (Nat.le_refl _) _⟩
end Go.Proofs.YtelhdkidnhfnbaaDoor

/-
  The signs that have names (entity.signs, laid by the program's text), the name of a rune. Condition: the table is as the program's text lays it.
-/
namespace Go.Proofs.YtelhdkidnhfnbaaDoor
open Go.RowKit
open Go.Lib (decodeL encodeRune)

def sigCells : List Value := [.int .i32 38, .string (str [97, 109, 112]), .int .i32 60, .string (str [108, 116]), .int .i32 62, .string (str [103, 116]), .int .i32 34, .string (str [113, 117, 111, 116]), .int .i32 39, .string (str [97, 112, 111, 115])]
/-- The table lies as the text lays it. -/
def Sig (w : World) : Prop := 0 < w.heap.size ∧ w.rangeAt 0 0 sigCells
theorem Sig.below {w w' : World} (h : Sig w) (hb : Below w.heap.size w w') : Sig w' := ⟨Nat.lt_of_lt_of_le h.1 hb.size, fun i v hv => (hb.cell (p := ⟨0, 0 + i, none⟩) h.1).trans (h.2 i v hv)⟩
theorem sig_0 (W : World) : (Instr.index 98 (.agg sigCells.toArray) (.int .i64 0)).run Tryd.prog W = .ok (.agg #[.int .i32 38, .string (str [97, 109, 112])]) W := by kernel_rfl
theorem sig_1 (W : World) : (Instr.index 98 (.agg sigCells.toArray) (.int .i64 1)).run Tryd.prog W = .ok (.agg #[.int .i32 60, .string (str [108, 116])]) W := by kernel_rfl
theorem sig_2 (W : World) : (Instr.index 98 (.agg sigCells.toArray) (.int .i64 2)).run Tryd.prog W = .ok (.agg #[.int .i32 62, .string (str [103, 116])]) W := by kernel_rfl
theorem sig_3 (W : World) : (Instr.index 98 (.agg sigCells.toArray) (.int .i64 3)).run Tryd.prog W = .ok (.agg #[.int .i32 34, .string (str [113, 117, 111, 116])]) W := by kernel_rfl
theorem sig_4 (W : World) : (Instr.index 98 (.agg sigCells.toArray) (.int .i64 4)).run Tryd.prog W = .ok (.agg #[.int .i32 39, .string (str [97, 112, 111, 115])]) W := by kernel_rfl
/-- None of the first k signs is c. -/
def NF (k : Nat) (c : Int) : Prop := (0 < k → c ≠ 38) ∧ (1 < k → c ≠ 60) ∧ (2 < k → c ≠ 62) ∧ (3 < k → c ≠ 34) ∧ (4 < k → c ≠ 39)
theorem NF.all {c : Int} (h : NF 5 c) : nameE c = [] := by
  obtain ⟨h1, h2, h3, h4, h5⟩ := h
  unfold nameE
  rw [if_neg (h1 (by decide)), if_neg (h2 (by decide)), if_neg (h3 (by decide)), if_neg (h4 (by decide)), if_neg (h5 (by decide))]
def NameRelE (c : Int) (w : World) (u : Value) (W : World) : Prop := ∃ k : Nat, k ≤ 5 ∧ u = .int .i64 (k : Int) ∧ NF k c ∧ Below w.heap.size w W
set_option maxHeartbeats 1600000 in
theorem nameOf_any (c : Int) (w : World) (hS : Sig w) : Calls Tryd.prog 70 #[.int .i32 c] w (Made w (.string (str (nameE c)))) := by
  have HS := Lib.hid hS
  have i0 := sig_0
  have i1 := sig_1
  have i2 := sig_2
  have i3 := sig_3
  have i4 := sig_4
  clear hS
  go_enter Tryd.func70, Tryd.ntmps70
  go_wp2_with (refine wpList_load_mid (by rfl) _ _ (by rfl) 0 0 (by rfl) sigCells _ HS.out.2 Tryd.underlying98 (by rfl) (by kernel_rfl) ?_)
  generalize sigCells.toArray = SC at *
  go_loopw [6] (NameRelE c w) (fun u _ => 5 - (intOf u).toNat)
  case atStart => exact ⟨0, by decide, rfl, by unfold NF; omega, Below.refl _ _⟩
  case round =>
    obtain ⟨k, hk, rfl, hnf, hbw⟩ := hrel
    have HN := Lib.hid hnf
    have HB := Lib.hid hbw
    clear hnf hbw
    have hk6 : k = 0 ∨ k = 1 ∨ k = 2 ∨ k = 3 ∨ k = 4 ∨ k = 5 := by omega
    rcases hk6 with rfl | rfl | rfl | rfl | rfl | rfl
    · by_cases hc : c = 38
      · subst hc
        go_wp2_with fail
        go_ret
        exact ⟨rfl, HB.out.alloc HB.out.size _⟩
      · have hcb : ((38 : Int) == c) = false := by simpa using fun e => hc e.symm
        have HNE := Lib.hid hc
        clear hc
        go_wp2_with fail
        go_roundw
        case rel => exact ⟨1, by decide, rfl, by have h1 := HN.out; have h2 := HNE.out; unfold NF at h1 ⊢; omega, HB.out.alloc HB.out.size _⟩
        case measure => simp [intOf]
    · by_cases hc : c = 60
      · subst hc
        go_wp2_with fail
        go_ret
        exact ⟨rfl, HB.out.alloc HB.out.size _⟩
      · have hcb : ((60 : Int) == c) = false := by simpa using fun e => hc e.symm
        have HNE := Lib.hid hc
        clear hc
        go_wp2_with fail
        go_roundw
        case rel => exact ⟨2, by decide, rfl, by have h1 := HN.out; have h2 := HNE.out; unfold NF at h1 ⊢; omega, HB.out.alloc HB.out.size _⟩
        case measure => simp [intOf]
    · by_cases hc : c = 62
      · subst hc
        go_wp2_with fail
        go_ret
        exact ⟨rfl, HB.out.alloc HB.out.size _⟩
      · have hcb : ((62 : Int) == c) = false := by simpa using fun e => hc e.symm
        have HNE := Lib.hid hc
        clear hc
        go_wp2_with fail
        go_roundw
        case rel => exact ⟨3, by decide, rfl, by have h1 := HN.out; have h2 := HNE.out; unfold NF at h1 ⊢; omega, HB.out.alloc HB.out.size _⟩
        case measure => simp [intOf]
    · by_cases hc : c = 34
      · subst hc
        go_wp2_with fail
        go_ret
        exact ⟨rfl, HB.out.alloc HB.out.size _⟩
      · have hcb : ((34 : Int) == c) = false := by simpa using fun e => hc e.symm
        have HNE := Lib.hid hc
        clear hc
        go_wp2_with fail
        go_roundw
        case rel => exact ⟨4, by decide, rfl, by have h1 := HN.out; have h2 := HNE.out; unfold NF at h1 ⊢; omega, HB.out.alloc HB.out.size _⟩
        case measure => simp [intOf]
    · by_cases hc : c = 39
      · subst hc
        go_wp2_with fail
        go_ret
        exact ⟨rfl, HB.out.alloc HB.out.size _⟩
      · have hcb : ((39 : Int) == c) = false := by simpa using fun e => hc e.symm
        have HNE := Lib.hid hc
        clear hc
        go_wp2_with fail
        go_roundw
        case rel => exact ⟨5, by decide, rfl, by have h1 := HN.out; have h2 := HNE.out; unfold NF at h1 ⊢; omega, HB.out.alloc HB.out.size _⟩
        case measure => simp [intOf]
    · go_wp2_with fail
      go_ret
      exact ⟨by rw [NF.all HN.out]; rfl, HB.out⟩
end Go.Proofs.YtelhdkidnhfnbaaDoor

/-
  What the program's text lays in the table of signs, read where a call begins. No condition.
-/
namespace Go.Proofs.YtelhdkidnhfnbaaDoor
open Go.ChangeShapes Go.WideShapes Go.ChangeAt Go.WideMaps Go.WideElems Go.RowKit

theorem gSigns : Tryd.prog.globalNamed "newsstand/entity.signs" = some 0 := by kernel_rfl
theorem tSigns : (Tryd.prog.globals[0]?).map (·.type) = some 98 := by kernel_rfl
/-- The row's listed variable. -/
def listed : List (String × DataW Unit) := [("newsstand/entity.signs", Rows.laid_newsstand_entity_signs)]
def sigD : List (DataW Unit) := [.agg [.lit (.int .i32 38), .lit (.string [97, 109, 112])], .agg [.lit (.int .i32 60), .lit (.string [108, 116])], .agg [.lit (.int .i32 62), .lit (.string [103, 116])], .agg [.lit (.int .i32 34), .lit (.string [113, 117, 111, 116])], .agg [.lit (.int .i32 39), .lit (.string [97, 112, 111, 115])]]
theorem door_met (os : Os) (args : Array Value) : laidMetH Tryd.prog listed ((World.doorLaid Tryd.prog 400 os).forCall (fun _ _ => 0) ⟨#[], args, []⟩).memory :=
  laidMetH_of_parts3 (fuel := 8) (laidMet_of_run' 8 (by kernel_rfl) (by kernel_rfl)) (by kernel_rfl) (by kernel_rfl)
set_option maxRecDepth 100000 in
theorem sig_of {W : World} (h : laidMetH Tryd.prog listed W) : Sig W := by
  rw [MakeChecks.laidMetH_plain _ _ _ (by kernel_rfl)] at h
  obtain ⟨ps, ⟨g, t, cs, fuel, p, q, hg, ht, hv, hd, _, _⟩, _⟩ := h
  obtain rfl := Option.some.inj (gSigns.symm.trans hg)
  obtain rfl := Option.some.inj (tSigns.symm.trans ht)
  obtain ⟨xs, m, rfl, hx, hlen, hn, hel⟩ := DataW.trod_array Tryd.underlying98 hd
  have c2 : Tryd.prog.cellsOf 97 = 2 := by kernel_rfl
  have ci : Tryd.prog.cellsOf 21 = 1 := by kernel_rfl
  have cst : Tryd.prog.cellsOf 9 = 1 := by kernel_rfl
  have hx1 : sigD = xs.map (·.1) := by injection congrArg Prod.fst hx
  have el : ∀ (i : Nat) (c : Int) (nm : List UInt8), i < 5 → sigD[i]? = some (.agg [.lit (.int .i32 c), .lit (.string nm)]) → W.cell? ⟨0, i * 2, none⟩ = some (.int .i32 c) ∧ W.cell? ⟨0, i * 2 + 1, none⟩ = some (.string (str nm)) := by
    intro i c nm hi hs
    have h1 := hel i hi
    rw [c2, List.getElem?_eq_getElem (by omega)] at h1
    obtain ⟨ys, n', _, hy, hcl, hyl, hf⟩ := DataW.trod_struct Tryd.underlying97 h1
    have hy2 : ys.length = 2 := hyl
    have h2 := congrArg (fun l => l[i]?) hx1
    simp only [List.getElem?_map, hs, List.getElem?_eq_getElem (show i < xs.length by omega), Option.map_some] at h2
    have h3 : (DataW.agg [.lit (.int .i32 c), .lit (.string nm)] : DataW Unit) = .agg (ys.map (·.1)) := (Option.some.inj h2).trans (congrArg Prod.fst hy)
    injection h3 with h3
    have f0 := hf 0 _ rfl
    have f1 := hf 1 _ rfl
    rw [List.getElem?_eq_getElem (by omega)] at f0 f1
    obtain ⟨k, e1, e2, _⟩ := DataW.trod_int Tryd.underlying21 f0
    obtain ⟨s, e3, e4, _⟩ := DataW.trod_string Tryd.underlying9 f1
    have d0 := congrArg (fun l => l[0]?) h3
    have d1 := congrArg (fun l => l[1]?) h3
    simp only [List.getElem?_map, List.getElem?_cons_zero, List.getElem?_cons_succ, List.getElem?_eq_getElem (show 0 < ys.length by omega), List.getElem?_eq_getElem (show 1 < ys.length by omega), Option.map_some, e2, e4] at d0 d1
    have hk : k = c := by simpa using d0.symm
    have hs2 : s.data.toList = nm := by simpa using d1.symm
    subst hk hs2
    have q0 : (((cs.toList.drop (i * 2)).take 2).drop 0).take (Tryd.prog.cellsOf 21) = [.int .i32 k] := e1
    have q1 : (((cs.toList.drop (i * 2)).take 2).drop 1).take (Tryd.prog.cellsOf 9) = [.string s] := e3
    rw [ci] at q0
    rw [cst] at q1
    rw [World.var?_cell hg hv (i * 2), World.var?_cell hg hv (i * 2 + 1)]
    have r0 := congrArg (fun l => l[0]?) q0
    have r1 := congrArg (fun l => l[0]?) q1
    simp only [List.getElem?_take, List.getElem?_drop, Nat.add_zero] at r0 r1
    exact ⟨by simpa using r0, by simpa [str_of] using r1⟩
  have a0 := el 0 38 [97, 109, 112] (by decide) rfl
  have a1 := el 1 60 [108, 116] (by decide) rfl
  have a2 := el 2 62 [103, 116] (by decide) rfl
  have a3 := el 3 34 [113, 117, 111, 116] (by decide) rfl
  have a4 := el 4 39 [97, 112, 111, 115] (by decide) rfl
  refine ⟨World.block_lt_of_cell? W ⟨0, 0, none⟩ a0.1, fun j v hj => ?_⟩
  have hj10 : j < 10 := by
    have := (List.getElem?_eq_some_iff.1 hj).1
    exact this
  have hjj : j = 0 ∨ j = 1 ∨ j = 2 ∨ j = 3 ∨ j = 4 ∨ j = 5 ∨ j = 6 ∨ j = 7 ∨ j = 8 ∨ j = 9 := by omega
  rcases hjj with rfl | rfl | rfl | rfl | rfl | rfl | rfl | rfl | rfl | rfl <;> (injection hj with hj; subst hj)
  · exact a0.1
  · exact a0.2
  · exact a1.1
  · exact a1.2
  · exact a2.1
  · exact a2.2
  · exact a3.1
  · exact a3.2
  · exact a4.1
  · exact a4.2
end Go.Proofs.YtelhdkidnhfnbaaDoor
