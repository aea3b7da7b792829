/-
  The document's text of runes, folded and clean texts, beginnings; the program's beginnings. Condition: a length within 2^40.
-/
import Derived.Test.YtelhdkidnhfnbabGreatDoorURef
namespace Go.Proofs.YtelhdkidnhfnbabGreatDoor
open Go.RowKit
open Go.Lib (decodeL encodeRune runeCells)

def RPutRel (rs : List Int) (w : World) (u3 u4 : Value) (W : World) : Prop :=
  ∃ k : Nat, k ≤ rs.length ∧ u4 = .int .i64 (k : Int) ∧ Own W w.heap.size 5 u3 (bvs (put (rs.take k))) ∧ Below w.heap.size w W
theorem src_enc {w : World} {v : Value} {c : Int} (h : Src w v (runeCells c)) : Src w v (bvs (encodeRune c)) := by rw [bvs_enc]; exact h
set_option maxHeartbeats 1600000 in
theorem rput_any (rs : List Int) (v : Value) (B : Nat) (w : World) (hr : RdV w B v (rvs rs)) (hB : B ≤ w.heap.size) (hl : rs.length ≤ 8796093022208) :
    Calls Tryz.prog 60 #[v] w (Made w (.string (str (put rs)))) := by
  obtain ⟨A, c, rfl, h1, h2, hc⟩ := hr
  rw [rvs_length] at h1
  rw [rvs_length rs]
  have HC := Lib.hid hc
  clear hc h1 h2
  go_enter Tryz.func60, Tryz.ntmps60
  go_wp2_with fail
  go_loopw [3, 4] (RPutRel rs w) (fun _ u _ => rs.length - (intOf u).toNat)
  case atStart => exact ⟨0, Nat.zero_le _, rfl, Own.nil _ _ _, Below.refl _ _⟩
  case round =>
    obtain ⟨k, hk, rfl, hown, hbw⟩ := hrel
    have hsz := hbw.size
    by_cases hkl : k < rs.length
    · have hkI : (k : Int) < (rs.length : Int) := by omega
      obtain ⟨b, o, rfl, hbl, hcc⟩ := HC.out (by rw [rvs_length]; omega)
      have hx := hcc k (by rw [rvs_length]; exact hkl)
      have ex : (rvs rs)[k]'(by rw [rvs_length]; exact hkl) = .int .i32 rs[k] := by simp [rvs]
      rw [ex] at hx
      have hx2 := (hbw.cell (p := ⟨b, o + k, none⟩) (Nat.lt_of_lt_of_le hbl hB)).trans hx
      have hpt := put_take hkl
      have hpl := put_take_len rs k
      have hel := enc_len rs[k]
      generalize rs[k] = x at hx2 hpt hel
      have HPT := Lib.hid hpt
      have hln : (bvs (put (rs.take k))).length + (bvs (encodeRune x)).length ≤ 140737488355328 := by rw [bvs_length, bvs_length]; omega
      have HLN := Lib.hid hln
      clear hpt hpl hx ex hcc hel hln
      go_wp2_with (first
        | (go_at_call 76; refine (one_any _ _).mono ?_; rintro e w1 ⟨vx, rfl, hsrc, b1⟩; have hown1 := hown.below b1; have hsz1 : w.heap.size ≤ w1.heap.size := Nat.le_trans hsz b1.size; have hbw1 : Below w.heap.size w w1 := hbw.trans (b1.mono hsz); have hsrc1 := src_enc hsrc)
        | (at_builtin; go_must (refine wpList_append_src w1 rfl (.tmp 11) (.tmp 16) _ rfl w.heap.size 5 _ 1 Tryz.underlying42 Tryz.u8info rfl _ _ rfl (by exact hown1) _ _ rfl (by exact hsrc1) (bvs_one _) (by have := HLN.out; unfold maxLen; omega) (by have := HLN.out; omega) hsz1 ?_); intro v2 w2 hown2 hg2 hb2 _))
      go_roundw
      case rel => exact ⟨k + 1, by omega, by go_num, by rw [HPT.out, bvs_append]; exact hown2, hbw1.trans hb2⟩
      case measure => simp [intOf]; omega
    · have hkI : ¬ (k : Int) < (rs.length : Int) := by omega
      rw [List.take_of_length_le (by omega)] at hown
      have hcv := conv_at (hown.rd (Nat.le_refl _))
      go_wp2_with fail
      go_ret
      exact ⟨rfl, hbw⟩

/-! ### folded -/
/-- A row in which the first k are turned. -/
def part (R : List Int) (k : Nat) : List Int := (R.take k).map foldR ++ R.drop k
theorem part_len (R : List Int) (k : Nat) (h : k ≤ R.length) : (part R k).length = R.length := by
  unfold part
  rw [List.length_append, List.length_map, List.length_take, List.length_drop]
  omega
theorem part_at (R : List Int) (k : Nat) (h : k < R.length) : (rvs (part R k))[k]? = some (.int .i32 R[k]) := by
  have e : ((R.take k).map foldR).length = k := by rw [List.length_map, List.length_take]; omega
  unfold rvs part
  rw [List.getElem?_map, List.getElem?_append_right (by omega), e, Nat.sub_self, List.getElem?_drop]
  simp [h]
theorem part_set (R : List Int) (k : Nat) (h : k < R.length) : (rvs (part R k)).set k (.int .i32 (foldR R[k])) = rvs (part R (k + 1)) := by
  have e : ((R.take k).map foldR).length = k := by rw [List.length_map, List.length_take]; omega
  have e1 : part R (k + 1) = (R.take k).map foldR ++ foldR R[k] :: R.drop (k + 1) := by
    unfold part
    rw [List.take_succ_eq_append_getElem h, List.map_append, List.map_cons, List.map_nil, List.append_assoc]
    rfl
  have e2 : part R k = (R.take k).map foldR ++ R[k] :: R.drop (k + 1) := by
    unfold part
    rw [← List.drop_eq_getElem_cons h]
  rw [e1, e2]
  unfold rvs
  rw [List.map_append, List.map_append, List.map_cons, List.map_cons]
  have e3 : (((R.take k).map foldR).map fun c => Value.int .i32 c).length = k := by rw [List.length_map, e]
  rw [List.set_append_right _ _ (by omega), e3, Nat.sub_self, List.set_cons_zero]
theorem part_all (R : List Int) (k : Nat) (h : ¬ k < R.length) : part R k = R.map foldR := by
  unfold part
  rw [List.take_of_length_le (by omega), List.drop_eq_nil_of_le (by omega), List.append_nil]
theorem RdV.nil (w : World) (B : Nat) : RdV w B (.slice none 0 0) (rvs []) := ⟨none, 0, rfl, Nat.le_refl _, Nat.zero_le _, fun h => absurd h (by simp [rvs])⟩
def RFoldRel (R : List Int) (w : World) (v : Value) (u4 : Value) (W : World) : Prop :=
  ∃ k : Nat, k ≤ R.length ∧ u4 = .int .i64 (k : Int) ∧ Own W w.heap.size 21 v (rvs (part R k)) ∧ Below w.heap.size w W
theorem own_at {w : World} {base e g n cap : Nat} {xs : List Value} (h : Own w base e (.slice (some ⟨g, 0, none⟩) n cap) xs) (k : Nat) (u : Value) (hk : xs[k]? = some u) :
    n = xs.length ∧ w.cell? ⟨g, k, none⟩ = some u ∧ w.frozen? ⟨g, k, none⟩ = false ∧ base ≤ g := by
  have h' := h
  have hn : n = xs.length := by
    rcases h.2 with ⟨e, _⟩ | ⟨g', cap', cur, e, _⟩
    · cases e
    · injection e
  subst hn
  have hkl : k < xs.length := (List.getElem?_eq_some_iff.1 hk).1
  exact ⟨rfl, (World.ownsRow.cellAt h' k (by omega)).trans hk, World.ownsRow.frozenAt h' k, (World.ownsRow.lt h' g rfl).1⟩
set_option maxHeartbeats 1600000 in
theorem rfoldS_any (l : List UInt8) (w : World) (hl : l.length ≤ 1099511627776) :
    Calls Tryz.prog 58 #[.string (str l)] w (Made w (.string (str (foldS l)))) := by
  obtain ⟨R, hR⟩ : ∃ R, R = runes l := ⟨_, rfl⟩
  have hrl := runes_len l
  unfold foldS
  have hF := rrunes_any l w hl
  rw [← hR] at hrl hF ⊢
  have HF := Lib.hid hF
  have hrl2 : R.length ≤ 1099511627776 := by omega
  have HRL := Lib.hid hrl2
  clear hR hF hrl hrl2
  go_enter Tryz.func58, Tryz.ntmps58
  go_wp2_with (go_at_call 57; refine HF.out.mono ?_; rintro e w1 ⟨v, rfl, hown, b1⟩)
  have hown0 : Own w1 w.heap.size 21 v (rvs (part R 0)) := hown
  rcases hown.2 with ⟨rfl, h0⟩ | ⟨g, cap, cur, rfl, _⟩
  · rw [rvs_length] at h0
    have hnil : R = [] := List.length_eq_zero_iff.1 h0
    have hp := fun W => rput_any [] (.slice none 0 0) 0 W (RdV.nil W 0) (Nat.zero_le _) (by simp)
    have HN := Lib.hid hnil
    have HP := Lib.hid hp
    clear hnil hp h0 hown hown0
    go_wp2_with fail
    go_loop [4] (fun u => u = .int .i64 0) (fun _ => 0)
    case atStart => exact rfl
    case round =>
      subst hrel
      go_wp2_with (go_at_call 60; go_must (refine (HP.out _).mono ?_); rintro e w2 ⟨rfl, b2⟩)
      go_ret
      exact ⟨by rw [HN.out]; rfl, b1.trans (b2.mono b1.size)⟩
  · rw [rvs_length R] at hown0 ⊢
    have HO := Lib.hid hown0
    clear hown hown0
    go_wp2_with fail
    go_loopw [4] (RFoldRel R w (.slice (some ⟨g, 0, none⟩) R.length cap)) (fun u _ => R.length - (intOf u).toNat)
    case atStart => exact ⟨0, Nat.zero_le _, rfl, HO.out, b1⟩
    case round =>
      obtain ⟨k, hk, rfl, hown, hbw⟩ := hrel
      have hsz := hbw.size
      by_cases hkl : k < R.length
      · have hkI : (k : Int) < (R.length : Int) := by omega
        have hxa := part_at R k hkl
        obtain ⟨hn, hcell, hfr, hgb⟩ := own_at hown k _ hxa
        have hst := World.ownsRow.stored (h := (by have h' := hown; unfold Own at h'; rw [← hn] at h'; exact h')) k (.int .i32 (foldR R[k]))
        have hps := part_set R k hkl
        generalize R[k] = x at hcell hst hps
        have HST := Lib.hid hst
        have HPS := Lib.hid hps
        have HRL2 := HRL.out
        clear hxa hn hst hps
        go_wp2_with (go_at_call 75; refine (rfold_any _ _).mono ?_; rintro e w' ⟨rfl, rfl⟩)
        go_roundw
        case rel =>
          refine ⟨k + 1, by omega, by go_num, ?_, hbw.setCell (p := ⟨g, k, none⟩) hgb _⟩
          have h1 := HST.out.1
          unfold Own
          rw [← HPS.out, List.length_set, rvs_length, part_len R k (by omega)]
          exact h1
        case measure => simp [intOf]; omega
      · have hkI : ¬ (k : Int) < (R.length : Int) := by omega
        rw [part_all R k hkl] at hown
        have hrd := hown.rdv (Nat.le_refl _)
        have HRL2 := HRL.out
        go_wp2_with (go_at_call 60; go_must (refine (rput_any _ _ _ _ hrd (Nat.le_refl _) (by rw [List.length_map]; omega)).mono ?_); rintro e w2 ⟨rfl, b2⟩)
        go_ret
        exact ⟨rfl, hbw.trans (b2.mono hsz)⟩
end Go.Proofs.YtelhdkidnhfnbabGreatDoor
