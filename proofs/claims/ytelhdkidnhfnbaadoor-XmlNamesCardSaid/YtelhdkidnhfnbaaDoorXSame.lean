/-
  xml.Same: whether two rows of tokens are the same. Conditions: their cells lie in memory; at most a million of them, and of attributes.
-/
import Derived.Test.YtelhdkidnhfnbaaDoorXRSame
namespace Go.Proofs.YtelhdkidnhfnbaaDoor
open Go.RowKit

theorem tokSize : (Tryd.prog.info? 36).map (·.size) = some 4 := by kernel_rfl
def SameXR (w : World) (L1 L2 : List TokE) (u : Value) (W : World) : Prop := ∃ k : Nat, k ≤ L1.length ∧ u = .int .i64 (k : Int) ∧ (L1.map TokE.tk).take k = (L2.map TokE.tk).take k ∧ Below w.heap.size w W
theorem SrcT.below {w W : World} {v : Value} {G : List TokE} (h : SrcT w v G) (hb : Below w.heap.size w W) : SrcT W v G := by
  obtain ⟨⟨A, c, hv, hA⟩, hs⟩ := h
  refine ⟨⟨A, c, hv, fun hp => ?_⟩, fun e he => (hs e he).below hb⟩
  obtain ⟨b, o, h1, hlt, hc⟩ := hA hp
  exact ⟨b, o, h1, Nat.lt_of_lt_of_le hlt hb.size, fun j u hu => (hb.cell (p := ⟨b, o + j, none⟩) hlt).trans (hc j u hu)⟩
set_option maxHeartbeats 6400000 in
set_option maxRecDepth 100000 in
theorem same1_any {w : World} {xk yk : Int} {xn yn xt yt : List UInt8} {xv yv : Value} {xa ya : AttrL} (h1 : SrcA w xv xa) (h2 : SrcA w yv ya) (hl : xa.length ≤ 1000000) :
    Calls Tryd.prog 32 #[.agg #[.int .i64 xk, .string (str xn), xv, .string (str xt)], .agg #[.int .i64 yk, .string (str yn), yv, .string (str yt)]] w (Made w (.bool (decide ((⟨xk, xn, xa, xt⟩ : Tk) = ⟨yk, yn, ya, yt⟩)))) := by
  have HB2 : Hid (Below w.heap.size w ((w.alloc (.cells #[.int .i64 xk, .string (str xn), xv, .string (str xt)] 36)).alloc (.cells #[.int .i64 yk, .string (str yn), yv, .string (str yt)] 36))) := Lib.hid (((Below.refl _ _).alloc (Nat.le_refl _) _).alloc (by simp) _)
  have KE := Lib.hid (equalA_any (h1.below HB2.out) (h2.below HB2.out) hl)
  obtain ⟨A1, c1, hv1, _⟩ := h1
  obtain ⟨A2, c2, hv2, _⟩ := h2
  subst hv1 hv2
  clear hl
  by_cases hka : xk = yk
  · subst hka
    by_cases hna : xn = yn
    · subst hna
      by_cases hta : xt = yt
      · subst hta
        have HD : Hid (decide ((⟨xk, xn, xa, xt⟩ : Tk) = ⟨xk, xn, ya, xt⟩) = decide (xa = ya)) := Lib.hid (by
          by_cases h : xa = ya
          · subst h; simp
          · rw [decide_eq_false h, decide_eq_false fun e => h (congrArg Tk.attrs e)])
        go_enter Tryd.func32, Tryd.ntmps32
        go_wp2_with (go_at_call 33; refine KE.out.mono ?_; rintro e w5 ⟨rfl, q, rfl⟩)
        go_ret
        exact ⟨by rw [HD.out]; rfl, below_drewN HB2.out _⟩
      · have HD : Hid (decide ((⟨xk, xn, xa, xt⟩ : Tk) = ⟨xk, xn, ya, yt⟩) = false) := Lib.hid (decide_eq_false fun e => hta (congrArg Tk.text e))
        have e1 : (xt == yt) = false := by simpa using hta
        clear hta KE
        go_enter Tryd.func32, Tryd.ntmps32
        go_wp2_with fail
        go_ret
        exact ⟨by rw [HD.out]; rfl, HB2.out⟩
    · have HD : Hid (decide ((⟨xk, xn, xa, xt⟩ : Tk) = ⟨xk, yn, ya, yt⟩) = false) := Lib.hid (decide_eq_false fun e => hna (congrArg Tk.name e))
      have e1 : (xn == yn) = false := by simpa using hna
      clear hna KE
      go_enter Tryd.func32, Tryd.ntmps32
      go_wp2_with fail
      go_ret
      exact ⟨by rw [HD.out]; rfl, HB2.out⟩
  · have HD : Hid (decide ((⟨xk, xn, xa, xt⟩ : Tk) = ⟨yk, yn, ya, yt⟩) = false) := Lib.hid (decide_eq_false fun e => hka (congrArg Tk.kind e))
    have e1 : (xk == yk) = false := by simpa using hka
    have e2 : decide (xk = yk) = false := decide_eq_false hka
    clear hka KE
    go_enter Tryd.func32, Tryd.ntmps32
    go_wp2_with fail
    go_ret
    exact ⟨by rw [HD.out]; rfl, HB2.out⟩
set_option maxHeartbeats 12800000 in
set_option maxRecDepth 100000 in
theorem equalF_any {w : World} {v1 v2 : Value} {L1 L2 : List TokE} (h1 : SrcT w v1 L1) (h2 : SrcT w v2 L2) (hl : L1.length ≤ 1000000) (hla : ∀ e ∈ L1, e.attrs.length ≤ 1000000) : Calls Tryd.prog 31 #[v1, v2, .func (.func 32) #[] #[]] w (Made w (.bool (decide (L1.map TokE.tk = L2.map TokE.tk)))) := by
  have HT1 := Lib.hid h1
  have HT2 := Lib.hid h2
  obtain ⟨⟨A1, c1, rfl, _⟩, _⟩ := h1
  obtain ⟨⟨A2, c2, rfl, _⟩, _⟩ := h2
  by_cases hlen : L1.length = L2.length
  · obtain ⟨n, hn⟩ : ∃ n, n = L1.length := ⟨_, rfl⟩
    have hn2 : n = L2.length := by rw [hn]; exact hlen
    rw [← hn, ← hn2]
    have HLA := Lib.hid hla
    have HN1 := Lib.hid hn
    have HN2 := Lib.hid hn2
    have hni : (n : Int) ≤ 1000000 := by omega
    clear hn hn2 hlen hl hla
    go_enter Tryd.func31, Tryd.ntmps31
    go_wp2_with fail
    go_loopw [17] (SameXR w L1 L2) (fun u _ => L1.length - (intOf u).toNat)
    case atStart => exact ⟨0, Nat.zero_le _, rfl, rfl, Below.refl _ _⟩
    case round =>
      obtain ⟨k, hk, rfl, htk, hbw⟩ := hrel
      have HTK := Lib.hid htk
      have HBW := Lib.hid hbw
      clear htk hbw
      by_cases hkn : k < n
      · have hkI : (k : Int) < (n : Int) := by omega
        have hk1 : k < L1.length := by have := HN1.out; omega
        have hk2 : k < L2.length := by have := HN2.out; omega
        obtain ⟨⟨A1', c1', hv1, hA1⟩, hs1⟩ := HT1.out.below HBW.out
        obtain ⟨⟨A2', c2', hv2, hA2⟩, hs2⟩ := HT2.out.below HBW.out
        obtain ⟨b1, o1, hz1, _, hc1⟩ := hA1 (by omega)
        obtain ⟨b2, o2, hz2, _, hc2⟩ := hA2 (by omega)
        injection hv1 with i1 _ i3
        injection hv2 with i2 _ i4
        subst i3 i4
        rw [hz1] at i1
        rw [hz2] at i2
        subst i1 i2
        obtain ⟨z1, z2, z3, z4⟩ := tcells_src hc1 hk1
        obtain ⟨y1, y2, y3, y4⟩ := tcells_src hc2 hk2
        have SA1 := hs1 _ (List.getElem_mem hk1)
        have SA2 := hs2 _ (List.getElem_mem hk2)
        have LA1 := HLA.out _ (List.getElem_mem hk1)
        have HNX : Hid (L1[k].tk = L2[k].tk → (L1.map TokE.tk).take (k + 1) = (L2.map TokE.tk).take (k + 1)) := Lib.hid fun h => take_nextA (by rw [List.length_map]; exact hk1) (by rw [List.length_map]; exact hk2) HTK.out (by rw [List.getElem_map, List.getElem_map]; exact h)
        have HNE : Hid (¬ L1[k].tk = L2[k].tk → decide (L1.map TokE.tk = L2.map TokE.tk) = false) := Lib.hid fun h => decide_eq_false fun e => h (by
          have h3 : (L1.map TokE.tk)[k]? = (L2.map TokE.tk)[k]? := by rw [e]
          rw [List.getElem?_map, List.getElem?_map, List.getElem?_eq_getElem hk1, List.getElem?_eq_getElem hk2] at h3
          injection h3)
        have HK1 : Hid (k + 1 ≤ L1.length) := Lib.hid hk1
        generalize L1[k] = x at *
        generalize L2[k] = y at *
        obtain ⟨xk, xn, xa, xv, xt⟩ := x
        obtain ⟨yk, yn, ya, yv, yt⟩ := y
        simp only at z1 z2 z3 z4 y1 y2 y3 y4 SA1 SA2 LA1
        obtain ⟨Ax, cx, hxv, _⟩ := id SA1
        obtain ⟨Ay, cy, hyv, _⟩ := id SA2
        obtain ⟨nx, hnx⟩ : ∃ nx, nx = xa.length := ⟨_, rfl⟩
        obtain ⟨ny, hny⟩ : ∃ ny, ny = ya.length := ⟨_, rfl⟩
        rw [← hnx] at hxv
        rw [← hny] at hyv
        subst hxv hyv
        clear hnx hny
        have HB2 : Hid (Below wr.heap.size wr ((wr.alloc (.cells #[.int .i64 xk, .string (str xn), .slice Ax nx cx, .string (str xt)] 36)).alloc (.cells #[.int .i64 yk, .string (str yn), .slice Ay ny cy, .string (str yt)] 36))) := Lib.hid (((Below.refl _ _).alloc (Nat.le_refl _) _).alloc (by simp) _)
        have w1 : (wr.alloc (.cells #[.int .i64 xk, .string (str xn), .slice Ax nx cx, .string (str xt)] 36)).cell? ⟨b2, o2 + k * 4, none⟩ = some (.int .i64 yk) := ((Below.refl wr.heap.size wr).alloc (Nat.le_refl _) _).cell (p := ⟨b2, o2 + k * 4, none⟩) (World.block_lt_of_cell? wr _ y1) |>.trans y1
        have w2 : (wr.alloc (.cells #[.int .i64 xk, .string (str xn), .slice Ax nx cx, .string (str xt)] 36)).cell? ⟨b2, o2 + k * 4 + 1, none⟩ = some (.string (str yn)) := ((Below.refl wr.heap.size wr).alloc (Nat.le_refl _) _).cell (p := ⟨b2, o2 + k * 4 + 1, none⟩) (World.block_lt_of_cell? wr _ y2) |>.trans y2
        have w3 : (wr.alloc (.cells #[.int .i64 xk, .string (str xn), .slice Ax nx cx, .string (str xt)] 36)).cell? ⟨b2, o2 + k * 4 + 2, none⟩ = some (.slice Ay ny cy) := ((Below.refl wr.heap.size wr).alloc (Nat.le_refl _) _).cell (p := ⟨b2, o2 + k * 4 + 2, none⟩) (World.block_lt_of_cell? wr _ y3) |>.trans y3
        have w4 : (wr.alloc (.cells #[.int .i64 xk, .string (str xn), .slice Ax nx cx, .string (str xt)] 36)).cell? ⟨b2, o2 + k * 4 + 3, none⟩ = some (.string (str yt)) := ((Below.refl wr.heap.size wr).alloc (Nat.le_refl _) _).cell (p := ⟨b2, o2 + k * 4 + 3, none⟩) (World.block_lt_of_cell? wr _ y4) |>.trans y4
        have ks := same1_any (xk := xk) (yk := yk) (xn := xn) (yn := yn) (xt := xt) (yt := yt) (SA1.below HB2.out) (SA2.below HB2.out) LA1
        clear SA1 SA2 LA1 hc1 hc2 hA1 hA2 hs1 hs2 hk1 hk2 hz1 hz2
        by_cases ht : (⟨xk, xn, xa, xt⟩ : Tk) = ⟨yk, yn, ya, yt⟩
        · have HX := Lib.hid (HNX.out ht)
          rw [decide_eq_true ht] at ks
          have KS := Lib.hid ks
          clear ks ht
          go_wp2_with (go_at_call 32; refine KS.out.mono ?_; rintro e w5 ⟨rfl, hb5⟩; have HB5 := Lib.hid (below_then HBW.out (below_then HB2.out hb5)); clear hb5)
          go_roundw
          case rel => exact ⟨k + 1, HK1.out, by go_num, HX.out, HB5.out⟩
          case measure => have := HK1.out; simp [intOf]; omega
        · have HX := Lib.hid (HNE.out ht)
          rw [decide_eq_false ht] at ks
          have KS := Lib.hid ks
          clear ks ht
          go_wp2_with (go_at_call 32; refine KS.out.mono ?_; rintro e w5 ⟨rfl, hb5⟩; have HB5 := Lib.hid (below_then HBW.out (below_then HB2.out hb5)); clear hb5)
          go_ret
          exact ⟨by rw [HX.out]; rfl, HB5.out⟩
      · have hkI : ¬ (k : Int) < (n : Int) := by omega
        have HX : Hid (decide (L1.map TokE.tk = L2.map TokE.tk) = true) := Lib.hid (decide_eq_true (by
          have h := HTK.out
          rw [List.take_of_length_le (by rw [List.length_map]; have := HN1.out; omega), List.take_of_length_le (by rw [List.length_map]; have := HN2.out; omega)] at h
          exact h))
        go_wp2_with fail
        go_ret
        exact ⟨by rw [HX.out]; rfl, HBW.out⟩
  · have hne : ((L1.length : Int) == (L2.length : Int)) = false := by simpa using (by omega : ¬ (L1.length : Int) = (L2.length : Int))
    have HX : Hid (decide (L1.map TokE.tk = L2.map TokE.tk) = false) := Lib.hid (decide_eq_false fun e => hlen (by have h := congrArg List.length e; rw [List.length_map, List.length_map] at h; exact h))
    go_enter Tryd.func31, Tryd.ntmps31
    go_wp2_with fail
    go_ret
    exact ⟨by rw [HX.out]; rfl, Below.refl _ _⟩
set_option maxHeartbeats 1600000 in
theorem xsame_any {w : World} {v1 v2 : Value} {L1 L2 : List TokE} (h1 : SrcT w v1 L1) (h2 : SrcT w v2 L2) (hl : L1.length ≤ 1000000) (hla : ∀ e ∈ L1, e.attrs.length ≤ 1000000) : Calls Tryd.prog 17 #[v1, v2] w (Made w (.bool (decide (L1.map TokE.tk = L2.map TokE.tk)))) := by
  have KE := Lib.hid (equalF_any h1 h2 hl hla)
  clear h1 h2 hl hla
  go_enter Tryd.func17, Tryd.ntmps17
  go_wp2_with (go_at_call 31; refine KE.out.mono ?_; rintro e w5 ⟨rfl, hb5⟩; have HB5 := Lib.hid hb5; clear hb5)
  go_ret
  exact ⟨rfl, HB5.out⟩
end Go.Proofs.YtelhdkidnhfnbaaDoor
