/-
  Whether two rows of attributes are the same: the document's SameAttrs, and the library's Equal. Conditions: their cells lie in memory; at most a million of them.
-/
import Derived.Test.YtelhdkidnhfnbaaDoorXRToks
import Derived.Laws.StructEq
namespace Go.Proofs.YtelhdkidnhfnbaaDoor
open Go.RowKit

theorem attr_und : Tryd.prog.underlying 39 = some (.struct (Tryd.prog.fieldsOf 39)) := by kernel_rfl
theorem attr_held : Tryd.prog.stoodInHeld 39 = false := by kernel_rfl
theorem str_beq (a c : List UInt8) : ((str a).toList == (str c).toList) = (a == c) := by
  rw [ByteArray.toList_eq, ByteArray.toList_eq, str_data, str_data]
theorem attr_eqIn (a b c d : List UInt8) (W : World) : (Op.equalIn 10000 39 (.agg #[.string (str a), .string (str b)]) (.agg #[.string (str c), .string (str d)])).run Tryd.prog W = .ok (a == c && b == d) W := by
  rw [run_equalIn_struct (P := Tryd.prog) W 9999 39 _ _ attr_und attr_held]
  have h9 : Tryd.prog.underlying 9 = some .string := Tryd.underlying9
  have e1 := fun W => run_equalIn_string (P := Tryd.prog) W 9998 9 (str a) (str c) h9
  have e2 := fun W => run_equalIn_string (P := Tryd.prog) W 9998 9 (str b) (str d) h9
  simp only [str_beq] at e1 e2
  simp only [Program.fieldsOf, Tryd.underlying39, Op.eqFields]
  simp [go_sem, e1, e2]
  by_cases h1 : a = c <;> by_cases h2 : b = d <;> simp [h1, h2]
def SameAR (w : World) (L1 L2 : AttrL) (u : Value) (W : World) : Prop := ∃ k : Nat, k ≤ L1.length ∧ u = .int .i64 (k : Int) ∧ L1.take k = L2.take k ∧ ∃ m, W = w.drewN m
theorem take_nextA {α : Type} {A B : List α} {k : Nat} (h1 : k < A.length) (h2 : k < B.length) (h : A.take k = B.take k) (he : A[k] = B[k]) : A.take (k + 1) = B.take (k + 1) := by
  rw [List.take_succ_eq_append_getElem h1, List.take_succ_eq_append_getElem h2, h, he]
theorem cells_drewN {w : World} {b o : Nat} {L : AttrL} {k : Nat} (hc : ∀ j u, (acells L)[j]? = some u → w.cell? ⟨b, o + j, none⟩ = some u) (hk : k < L.length) :
    w.cell? ⟨b, o + k * 2, none⟩ = some (.string (str L[k].1)) ∧ w.cell? ⟨b, o + k * 2 + 1, none⟩ = some (.string (str L[k].2)) := by
  have h := acells_at L k hk
  rw [Nat.mul_comm, Nat.add_assoc]
  exact ⟨hc _ _ h.1, hc _ _ h.2⟩
theorem tk_ext {a b : Tk} (h1 : a.kind = b.kind) (h2 : a.name = b.name) (h3 : a.text = b.text) (h4 : a.attrs = b.attrs) : a = b := by
  obtain ⟨k, n, L, t⟩ := a
  obtain ⟨k', n', L', t'⟩ := b
  simp only at h1 h2 h3 h4
  subst h1 h2 h3 h4
  rfl
instance : DecidableEq Tk := fun a b => if h : a.kind = b.kind ∧ a.name = b.name ∧ a.text = b.text ∧ a.attrs = b.attrs then isTrue (tk_ext h.1 h.2.1 h.2.2.1 h.2.2.2) else isFalse (fun e => h (by subst e; exact ⟨rfl, rfl, rfl, rfl⟩))
/-- A slice of tokens, their cells in memory, and those of their attributes. -/
def SrcT (w : World) (v : Value) (G : List TokE) : Prop :=
  (∃ A c, v = .slice A G.length c ∧ (0 < G.length → ∃ b o, A = some ⟨b, o, none⟩ ∧ b < w.heap.size ∧ ∀ j u, (tcells G)[j]? = some u → w.cell? ⟨b, o + j, none⟩ = some u)) ∧ ∀ e ∈ G, SrcA w e.v e.attrs
theorem srcT_row {w : World} {b : Nat} {v : Value} {G : List TokE} (h : TokRow w b v G) : SrcT w v G := by
  refine ⟨?_, fun e he => srcA_row (h.2 e he)⟩
  obtain ⟨A, c, hv, _, _, hn, ha⟩ := ownsRow_shape h.1
  refine ⟨A, c, hv, fun hp => ?_⟩
  cases A with
  | none => have := (hn rfl).1; omega
  | some ad =>
    obtain ⟨g, rfl, _⟩ := ha ad rfl
    have hb : v.ownBlock = some g := by rw [hv]; rfl
    refine ⟨g, 0, rfl, (World.ownsRow.lt h.1 g hb).2, fun j u hu => ?_⟩
    rw [Nat.zero_add]
    exact rowcell h.1 hb j u hu
theorem tcells_src {w : World} {b o : Nat} {G : List TokE} {k : Nat} (hc : ∀ j u, (tcells G)[j]? = some u → w.cell? ⟨b, o + j, none⟩ = some u) (hk : k < G.length) :
    w.cell? ⟨b, o + k * 4, none⟩ = some (.int .i64 G[k].kind) ∧ w.cell? ⟨b, o + k * 4 + 1, none⟩ = some (.string (str G[k].name)) ∧ w.cell? ⟨b, o + k * 4 + 2, none⟩ = some G[k].v ∧ w.cell? ⟨b, o + k * 4 + 3, none⟩ = some (.string (str G[k].text)) := by
  have h := tcells_at G k hk
  rw [Nat.mul_comm, Nat.add_assoc, Nat.add_assoc, Nat.add_assoc]
  exact ⟨hc _ _ h.1, hc _ _ h.2.1, hc _ _ h.2.2.1, hc _ _ h.2.2.2⟩
def SameTR (w : World) (L1 L2 : List TokE) (u : Value) (W : World) : Prop := ∃ k : Nat, k ≤ L1.length ∧ u = .int .i64 (k : Int) ∧ (L1.map TokE.tk).take k = (L2.map TokE.tk).take k ∧ ∃ m, W = w.drewN m
theorem SrcA.drewN {w : World} {v : Value} {L : AttrL} (h : SrcA w v L) (m : Nat) : SrcA (w.drewN m) v L := h.below (below_drewN (Below.refl _ _) m)
set_option maxHeartbeats 6400000 in
set_option maxRecDepth 100000 in
theorem rsameA_any {w : World} {v1 v2 : Value} {L1 L2 : AttrL} (h1 : SrcA w v1 L1) (h2 : SrcA w v2 L2) (hl : L1.length ≤ 1000000) : Calls Tryd.prog 22 #[v1, v2] w (Drew w (.bool (decide (L1 = L2)))) := by
  obtain ⟨A1, c1, rfl, hA1⟩ := h1
  obtain ⟨A2, c2, rfl, hA2⟩ := h2
  by_cases hlen : L1.length = L2.length
  · obtain ⟨n, hn⟩ : ∃ n, n = L1.length := ⟨_, rfl⟩
    have hn2 : n = L2.length := by rw [hn]; exact hlen
    rw [← hn, ← hn2]
    have HA1 := Lib.hid hA1
    have HA2 := Lib.hid hA2
    have HN1 := Lib.hid hn
    have HN2 := Lib.hid hn2
    have hni : (n : Int) ≤ 1000000 := by omega
    clear hA1 hA2 hn hn2 hlen hl
    go_enter Tryd.func22, Tryd.ntmps22
    go_wp2_with fail
    go_loopw [5] (SameAR w L1 L2) (fun u _ => L1.length - (intOf u).toNat)
    case atStart => exact ⟨0, Nat.zero_le _, rfl, rfl, 0, rfl⟩
    case round =>
      obtain ⟨k, hk, rfl, htk, m, rfl⟩ := hrel
      have HTK := Lib.hid htk
      clear htk
      by_cases hkn : k < n
      · have hkI : (k : Int) < (n : Int) := by omega
        have hk1 : k < L1.length := by have := HN1.out; omega
        have hk2 : k < L2.length := by have := HN2.out; omega
        obtain ⟨b1, o1, rfl, hb1, hc1⟩ := HA1.out (by omega)
        obtain ⟨b2, o2, rfl, hb2, hc2⟩ := HA2.out (by omega)
        have z1 := (cells_drewN hc1 hk1).1
        have z2 := (cells_drewN hc1 hk1).2
        have z3 := (cells_drewN hc2 hk2).1
        have z4 := (cells_drewN hc2 hk2).2
        have HNX : Hid (L1[k] = L2[k] → L1.take (k + 1) = L2.take (k + 1)) := Lib.hid (take_nextA hk1 hk2 HTK.out)
        have HNE : Hid (¬ L1[k] = L2[k] → decide (L1 = L2) = false) := Lib.hid fun h => decide_eq_false fun e => h (by subst e; rfl)
        have HK1 : Hid (k + 1 ≤ L1.length) := Lib.hid hk1
        generalize L1[k] = x at *
        generalize L2[k] = y at *
        obtain ⟨xa, xb⟩ := x
        obtain ⟨ya, yb⟩ := y
        simp only at z1 z2 z3 z4
        have hq := fun W => attr_eqIn xa xb ya yb W
        clear hc1 hc2 hb1 hb2 hk1 hk2
        by_cases he : xa = ya ∧ xb = yb
        · obtain ⟨rfl, rfl⟩ := he
          have HX := Lib.hid (HNX.out rfl)
          simp only [beq_self_eq_true, Bool.and_self] at hq
          go_wp2_with fail
          go_quiet (fail)
          go_wp2_with fail
          go_roundw
          case rel => exact ⟨k + 1, HK1.out, by go_num, HX.out, m + nq, by first | rfl | rw [World.drewN_drewN]⟩
          case measure => have := HK1.out; simp [intOf]; omega
        · have HX := Lib.hid (HNE.out fun e => he (by injection e with e1 e2; exact ⟨e1, e2⟩))
          have hq2 : (xa == ya && xb == yb) = false := by
            cases h : (xa == ya && xb == yb) with
            | false => rfl
            | true =>
              rw [Bool.and_eq_true] at h
              exact absurd ⟨by simpa using h.1, by simpa using h.2⟩ he
          rw [hq2] at hq
          clear hq2 he
          go_wp2_with fail
          go_quiet (fail)
          go_wp2_with fail
          go_ret
          exact ⟨by rw [HX.out]; rfl, m + nq, by first | rfl | rw [World.drewN_drewN]⟩
      · have hkI : ¬ (k : Int) < (n : Int) := by omega
        have HX : Hid (decide (L1 = L2) = true) := Lib.hid (decide_eq_true (by
          have h := HTK.out
          rw [List.take_of_length_le (by have := HN1.out; omega), List.take_of_length_le (by have := HN2.out; omega)] at h
          exact h))
        go_wp2_with fail
        go_ret
        exact ⟨by rw [HX.out]; rfl, m, rfl⟩
  · have hne : ((L1.length : Int) == (L2.length : Int)) = false := by simpa using (by omega : ¬ (L1.length : Int) = (L2.length : Int))
    have HX : Hid (decide (L1 = L2) = false) := Lib.hid (decide_eq_false fun e => hlen (by rw [e]))
    clear hA1 hA2
    go_enter Tryd.func22, Tryd.ntmps22
    go_wp2_with fail
    go_ret
    exact ⟨by rw [HX.out]; rfl, 0, rfl⟩
set_option maxHeartbeats 6400000 in
set_option maxRecDepth 100000 in
theorem equalA_any {w : World} {v1 v2 : Value} {L1 L2 : AttrL} (h1 : SrcA w v1 L1) (h2 : SrcA w v2 L2) (hl : L1.length ≤ 1000000) : Calls Tryd.prog 33 #[v1, v2] w (Drew w (.bool (decide (L1 = L2)))) := by
  obtain ⟨A1, c1, rfl, hA1⟩ := h1
  obtain ⟨A2, c2, rfl, hA2⟩ := h2
  by_cases hlen : L1.length = L2.length
  · obtain ⟨n, hn⟩ : ∃ n, n = L1.length := ⟨_, rfl⟩
    have hn2 : n = L2.length := by rw [hn]; exact hlen
    rw [← hn, ← hn2]
    have HA1 := Lib.hid hA1
    have HA2 := Lib.hid hA2
    have HN1 := Lib.hid hn
    have HN2 := Lib.hid hn2
    have hni : (n : Int) ≤ 1000000 := by omega
    clear hA1 hA2 hn hn2 hlen hl
    go_enter Tryd.func33, Tryd.ntmps33
    go_wp2_with fail
    go_loopw [13] (SameAR w L1 L2) (fun u _ => L1.length - (intOf u).toNat)
    case atStart => exact ⟨0, Nat.zero_le _, rfl, rfl, 0, rfl⟩
    case round =>
      obtain ⟨k, hk, rfl, htk, m, rfl⟩ := hrel
      have HTK := Lib.hid htk
      clear htk
      by_cases hkn : k < n
      · have hkI : (k : Int) < (n : Int) := by omega
        have hk1 : k < L1.length := by have := HN1.out; omega
        have hk2 : k < L2.length := by have := HN2.out; omega
        obtain ⟨b1, o1, rfl, hb1, hc1⟩ := HA1.out (by omega)
        obtain ⟨b2, o2, rfl, hb2, hc2⟩ := HA2.out (by omega)
        have z1 := (cells_drewN hc1 hk1).1
        have z2 := (cells_drewN hc1 hk1).2
        have z3 := (cells_drewN hc2 hk2).1
        have z4 := (cells_drewN hc2 hk2).2
        have HNX : Hid (L1[k] = L2[k] → L1.take (k + 1) = L2.take (k + 1)) := Lib.hid (take_nextA hk1 hk2 HTK.out)
        have HNE : Hid (¬ L1[k] = L2[k] → decide (L1 = L2) = false) := Lib.hid fun h => decide_eq_false fun e => h (by subst e; rfl)
        have HK1 : Hid (k + 1 ≤ L1.length) := Lib.hid hk1
        generalize L1[k] = x at *
        generalize L2[k] = y at *
        obtain ⟨xa, xb⟩ := x
        obtain ⟨ya, yb⟩ := y
        simp only at z1 z2 z3 z4
        have hq := fun W => attr_eqIn xa xb ya yb W
        clear hc1 hc2 hb1 hb2 hk1 hk2
        by_cases he : xa = ya ∧ xb = yb
        · obtain ⟨rfl, rfl⟩ := he
          have HX := Lib.hid (HNX.out rfl)
          simp only [beq_self_eq_true, Bool.and_self] at hq
          go_wp2_with fail
          go_quiet (fail)
          go_wp2_with fail
          go_roundw
          case rel => exact ⟨k + 1, HK1.out, by go_num, HX.out, m + nq, by first | rfl | rw [World.drewN_drewN]⟩
          case measure => have := HK1.out; simp [intOf]; omega
        · have HX := Lib.hid (HNE.out fun e => he (by injection e with e1 e2; exact ⟨e1, e2⟩))
          have hq2 : (xa == ya && xb == yb) = false := by
            cases h : (xa == ya && xb == yb) with
            | false => rfl
            | true =>
              rw [Bool.and_eq_true] at h
              exact absurd ⟨by simpa using h.1, by simpa using h.2⟩ he
          rw [hq2] at hq
          clear hq2 he
          go_wp2_with fail
          go_quiet (fail)
          go_wp2_with fail
          go_ret
          exact ⟨by rw [HX.out]; rfl, m + nq, by first | rfl | rw [World.drewN_drewN]⟩
      · have hkI : ¬ (k : Int) < (n : Int) := by omega
        have HX : Hid (decide (L1 = L2) = true) := Lib.hid (decide_eq_true (by
          have h := HTK.out
          rw [List.take_of_length_le (by have := HN1.out; omega), List.take_of_length_le (by have := HN2.out; omega)] at h
          exact h))
        go_wp2_with fail
        go_ret
        exact ⟨by rw [HX.out]; rfl, m, rfl⟩
  · have hne : ((L1.length : Int) == (L2.length : Int)) = false := by simpa using (by omega : ¬ (L1.length : Int) = (L2.length : Int))
    have HX : Hid (decide (L1 = L2) = false) := Lib.hid (decide_eq_false fun e => hlen (by rw [e]))
    clear hA1 hA2
    go_enter Tryd.func33, Tryd.ntmps33
    go_wp2_with fail
    go_ret
    exact ⟨by rw [HX.out]; rfl, 0, rfl⟩
set_option maxHeartbeats 12800000 in
set_option maxRecDepth 100000 in
theorem rsame_any {w : World} {v1 v2 : Value} {L1 L2 : List TokE} (h1 : SrcT w v1 L1) (h2 : SrcT w v2 L2) (hl : L1.length ≤ 1000000) (hla : ∀ e ∈ L1, e.attrs.length ≤ 1000000) : Calls Tryd.prog 10 #[v1, v2] w (Drew w (.bool (decide (L1.map TokE.tk = L2.map TokE.tk)))) := by
  obtain ⟨⟨A1, c1, rfl, hA1⟩, hs1⟩ := h1
  obtain ⟨⟨A2, c2, rfl, hA2⟩, hs2⟩ := h2
  by_cases hlen : L1.length = L2.length
  · obtain ⟨n, hn⟩ : ∃ n, n = L1.length := ⟨_, rfl⟩
    have hn2 : n = L2.length := by rw [hn]; exact hlen
    rw [← hn, ← hn2]
    have HA1 := Lib.hid hA1
    have HA2 := Lib.hid hA2
    have HS1 := Lib.hid hs1
    have HS2 := Lib.hid hs2
    have HLA := Lib.hid hla
    have HN1 := Lib.hid hn
    have HN2 := Lib.hid hn2
    have hni : (n : Int) ≤ 1000000 := by omega
    clear hA1 hA2 hn hn2 hlen hl hs1 hs2 hla
    go_enter Tryd.func10, Tryd.ntmps10
    go_wp2_with fail
    go_loopw [5] (SameTR w L1 L2) (fun u _ => L1.length - (intOf u).toNat)
    case atStart => exact ⟨0, Nat.zero_le _, rfl, rfl, 0, rfl⟩
    case round =>
      obtain ⟨k, hk, rfl, htk, m, rfl⟩ := hrel
      have HTK := Lib.hid htk
      clear htk
      by_cases hkn : k < n
      · have hkI : (k : Int) < (n : Int) := by omega
        have hk1 : k < L1.length := by have := HN1.out; omega
        have hk2 : k < L2.length := by have := HN2.out; omega
        obtain ⟨b1, o1, rfl, hb1, hc1⟩ := HA1.out (by omega)
        obtain ⟨b2, o2, rfl, hb2, hc2⟩ := HA2.out (by omega)
        obtain ⟨z1, z2, z3, z4⟩ := tcells_src hc1 hk1
        obtain ⟨y1, y2, y3, y4⟩ := tcells_src hc2 hk2
        have SA1 := HS1.out _ (List.getElem_mem hk1)
        have SA2 := HS2.out _ (List.getElem_mem hk2)
        have LA1 := HLA.out _ (List.getElem_mem hk1)
        have HNX : Hid (L1[k].tk = L2[k].tk → (L1.map TokE.tk).take (k + 1) = (L2.map TokE.tk).take (k + 1)) := Lib.hid fun h => take_nextA (by rw [List.length_map]; exact hk1) (by rw [List.length_map]; exact hk2) HTK.out (by rw [List.getElem_map, List.getElem_map]; exact h)
        have HNE : Hid (¬ L1[k].tk = L2[k].tk → decide (L1.map TokE.tk = L2.map TokE.tk) = false) := Lib.hid fun h => decide_eq_false fun e => h (by
          have h3 : (L1.map TokE.tk)[k]? = (L2.map TokE.tk)[k]? := by rw [e]
          rw [List.getElem?_map, List.getElem?_map, List.getElem?_eq_getElem hk1, List.getElem?_eq_getElem hk2] at h3
          injection h3)
        have HK1 : Hid (k + 1 ≤ L1.length) := Lib.hid hk1
        generalize L1[k] = x at *
        generalize L2[k] = y at *
        obtain ⟨xk, xn, xa, xv, xt⟩ := x
        obtain ⟨yk, yn, ya, yv, yt⟩ := y
        simp only at z1 z2 z3 z4 y1 y2 y3 y4 SA1 SA2 LA1
        have KS : Hid (∀ W, (∃ j, W = w.drewN j) → Calls Tryd.prog 22 #[xv, yv] W (Drew W (.bool (decide (xa = ya))))) := Lib.hid fun W hW => by
          obtain ⟨j, rfl⟩ := hW
          exact rsameA_any (SA1.drewN j) (SA2.drewN j) LA1
        clear SA1 SA2 LA1
        by_cases hka : xk = yk
        · subst hka
          by_cases hna : xn = yn
          · subst hna
            by_cases hta : xt = yt
            · subst hta
              by_cases haa : xa = ya
              · have HX := Lib.hid (HNX.out (tk_ext rfl rfl rfl haa))
                have hd : decide (xa = ya) = true := decide_eq_true haa
                rw [hd] at KS
                clear hc1 hc2 hb1 hb2 hk1 hk2 haa hd
                go_wp2_with fail
                go_quiet ((go_at_call 22; refine (KS.out _ ⟨_, rfl⟩).mono ?_; rintro e w9 ⟨rfl, q, rfl⟩; exact ⟨rfl, _, by rw [World.drewN_drewN, Nat.add_assoc]⟩))
                go_wp2_with fail
                go_roundw
                case rel => exact ⟨k + 1, HK1.out, by go_num, HX.out, _, by first | rfl | rw [World.drewN_drewN]⟩
                case measure => have := HK1.out; simp [intOf]; omega
              · have HX := Lib.hid (HNE.out fun e => haa (congrArg Tk.attrs e))
                have hd : decide (xa = ya) = false := decide_eq_false haa
                rw [hd] at KS
                clear hc1 hc2 hb1 hb2 hk1 hk2 haa hd
                go_wp2_with fail
                go_quiet ((go_at_call 22; refine (KS.out _ ⟨_, rfl⟩).mono ?_; rintro e w9 ⟨rfl, q, rfl⟩; exact ⟨rfl, _, by rw [World.drewN_drewN, Nat.add_assoc]⟩))
                go_wp2_with fail
                go_ret
                exact ⟨by rw [HX.out]; rfl, _, by first | rfl | rw [World.drewN_drewN]⟩
            · have HX := Lib.hid (HNE.out fun e => hta (congrArg Tk.text e))
              have e1 : (xt == yt) = false := by simpa using hta
              clear hc1 hc2 hb1 hb2 hk1 hk2 hta
              go_wp2_with fail
              go_quiet (fail)
              go_wp2_with fail
              go_ret
              exact ⟨by rw [HX.out]; rfl, _, by first | rfl | rw [World.drewN_drewN]⟩
          · have HX := Lib.hid (HNE.out fun e => hna (congrArg Tk.name e))
            have e1 : (xn == yn) = false := by simpa using hna
            clear hc1 hc2 hb1 hb2 hk1 hk2 hna
            go_wp2_with fail
            go_quiet (fail)
            go_wp2_with fail
            go_ret
            exact ⟨by rw [HX.out]; rfl, _, by first | rfl | rw [World.drewN_drewN]⟩
        · have HX := Lib.hid (HNE.out fun e => hka (congrArg Tk.kind e))
          have e1 : (xk == yk) = false := by simpa using hka
          have e2 : decide (xk = yk) = false := decide_eq_false hka
          have e3 : (xk != yk) = true := by simpa using hka
          clear hc1 hc2 hb1 hb2 hk1 hk2 hka KS z2 z3 z4 y2 y3 y4
          go_wp2_with fail
          go_quiet (fail)
          go_wp2_with fail
          go_ret
          exact ⟨by rw [HX.out]; rfl, _, by first | rfl | rw [World.drewN_drewN]⟩
      · have hkI : ¬ (k : Int) < (n : Int) := by omega
        have HX : Hid (decide (L1.map TokE.tk = L2.map TokE.tk) = true) := Lib.hid (decide_eq_true (by
          have h := HTK.out
          rw [List.take_of_length_le (by rw [List.length_map]; have := HN1.out; omega), List.take_of_length_le (by rw [List.length_map]; have := HN2.out; omega)] at h
          exact h))
        go_wp2_with fail
        go_ret
        exact ⟨by rw [HX.out]; rfl, m, rfl⟩
  · have hne : ((L1.length : Int) == (L2.length : Int)) = false := by simpa using (by omega : ¬ (L1.length : Int) = (L2.length : Int))
    have HX : Hid (decide (L1.map TokE.tk = L2.map TokE.tk) = false) := Lib.hid (decide_eq_false fun e => hlen (by have h := congrArg List.length e; rw [List.length_map, List.length_map] at h; exact h))
    clear hA1 hA2
    go_enter Tryd.func10, Tryd.ntmps10
    go_wp2_with fail
    go_ret
    exact ⟨by rw [HX.out]; rfl, 0, rfl⟩
end Go.Proofs.YtelhdkidnhfnbaaDoor
