/-
  UtfPuts' call: it answers true. Condition: the slice reads as runes.
-/
import Derived.Test.YtmimkcdomgoefaaULaws
import Derived.OpenShut
namespace Go.Proofs.Ytmimkcdomgoefaa
open Go.RowKit
open Go.Lib (decodeL encodeRune validD)

/-- A slice of integers that came in: nil, or 'cap' cells, the numbers 'zs', each fitting its kind. -/
def IsRow (k : IntKind) (w : World) (a : Option Addr) (len cap : Nat) (zs : List Int) : Prop :=
  (a = none ∧ len = 0 ∧ cap = 0 ∧ zs = []) ∨
  ∃ x, a = some x ∧ len ≤ cap ∧ cap ≤ maxLen ∧ zs.length = cap ∧ (∀ i, i < zs.length → w.cell? (x.add i) = some (.int k (zs.getD i 0))) ∧ ∀ n ∈ zs, (Lit.int k n).wf = true
theorem isRow_runes {w : World} {a : Option Addr} {len cap : Nat} {zs : List Int} (h : IsRow .i32 w a len cap zs) : ∃ rs : List Int, RdV w w.heap.size (.slice a len cap) (rvs rs) := by
  rcases h with ⟨rfl, rfl, rfl, rfl⟩ | ⟨x, rfl, hlc, hcm, hz, hcell, hwf⟩
  · exact ⟨[], RdV.nil _ _⟩
  · have hll : (rvs (zs.take len)).length = len := by rw [rvs_length, List.length_take]; omega
    refine ⟨zs.take len, some x, cap, by rw [hll], by omega, hcm, fun h0 => ?_⟩
    rw [hll] at h0
    have hc0 := hcell 0 (by omega)
    have hx0 : x.add 0 = x := by simp [Addr.add]
    rw [hx0] at hc0
    obtain ⟨b, o, sp⟩ := x
    have hsp : sp = none := World.cell?_spot hc0
    subst hsp
    refine ⟨b, o, rfl, World.block_lt_of_cell? w _ hc0, fun j hj => ?_⟩
    rw [hll] at hj
    have hcj := hcell j (by omega)
    have hadd : (⟨b, o, none⟩ : Addr).add j = ⟨b, o + j, none⟩ := by
      unfold Addr.add
      by_cases h : j = 0 <;> simp [h]
    rw [hadd] at hcj
    rw [hcj]
    have e1 : zs.getD j 0 = zs[j]'(by omega) := by simp [List.getD, List.getElem?_eq_getElem (show j < zs.length by omega)]
    rw [e1]
    simp [rvs]

theorem blank_q (c : Int) (w : World) : Calls Try.prog 20 #[.int .i32 c] w fun e w' => e = .returned (.bool (blankB c)) ∧ w' = w := by
  refine (blank_any c w).mono ?_
  rintro e w' ⟨rfl, rfl⟩
  exact ⟨rfl, rfl⟩
theorem rblank_q (c : Int) (w : World) : Calls Try.prog 21 #[.int .i32 c] w fun e w' => e = .returned (.bool (blankB c)) ∧ w' = w := by
  refine (rblank_any c w).mono ?_
  rintro e w' ⟨rfl, rfl⟩
  exact ⟨rfl, rfl⟩
def PutsRel (rs : List Int) (w : World) (u : Value) (W : World) : Prop := ∃ k : Nat, k ≤ rs.length ∧ u = .int .i64 (k : Int) ∧ Below w.heap.size w W
set_option maxHeartbeats 3200000 in
set_option maxRecDepth 100000 in
theorem lputs_any (rs : List Int) (v : Value) (w : World) (hr : RdV w w.heap.size v (rvs rs)) : Calls Try.prog 4 #[v] w (Holds w) := by
  obtain ⟨A, c, rfl, hc1, hc2, hcell⟩ := id hr
  rw [rvs_length rs] at hr ⊢
  have HC := Lib.hid hcell
  have HR := Lib.hid hr
  clear hcell hr hc1 hc2
  by_cases h3 : (1000 : Int) < (rs.length : Int)
  · go_enter Try.func4, Try.ntmps4
    go_wp2_with fail
    refine (ulives_any _).mono ?_
    rintro e w1 ⟨rfl, b1⟩
    go_wp2_with fail
    go_ret
    exact ⟨rfl, b1⟩
  · have hl : rs.length ≤ 1000 := by omega
    have hpl := (put_len rs).2
    have hpl2 : (put rs).length ≤ 1099511627776 := by omega
    have k1 := put_any rs _ w HR.out (by omega)
    have k2 := fun (W : World) (hb : Below w.heap.size w W) => rput_any rs _ w.heap.size W (HR.out.below hb) hb.size (by omega)
    have k3 := fun W => right_any (put rs) W
    have k4 := fun W => runes_any (put rs) W hpl2
    have k5 := fun W => rrunes_any (put rs) W hpl2
    have k6 := fun W => count_any (put rs) W hpl2
    rw [runes_put, List.length_map] at k6
    rw [valid_put] at k3
    have ks := same_yes (runes (put rs))
    have H1 := Lib.hid k1
    have H2 := Lib.hid k2
    have H3 := Lib.hid k3
    have H4 := Lib.hid k4
    have H5 := Lib.hid k5
    have H6 := Lib.hid k6
    have HS := Lib.hid ks
    clear k1 k2 k3 k4 k5 k6 ks hpl hpl2
    generalize runes (put rs) = R at *
    generalize put rs = p at *
    go_enter Try.func4, Try.ntmps4
    go_wp2_with fail
    refine H1.out.mono ?_
    rintro e w1 ⟨rfl, b1⟩
    go_wp2_with fail
    refine (ulives_any _).mono ?_
    rintro e w2 ⟨rfl, hb⟩
    have b2 : Below w.heap.size w w2 := b1.trans (hb.mono b1.size)
    clear hb
    go_wp2_with fail
    refine (H2.out _ (by exact b2)).mono ?_
    rintro e w3 ⟨rfl, hb⟩
    have b3 : Below w.heap.size w w3 := b2.trans (hb.mono b2.size)
    clear hb
    go_wp2_with fail
    refine (H3.out _).mono ?_
    rintro e w4 ⟨rfl, hb⟩
    have b4 : Below w.heap.size w w4 := b3.trans (hb.mono b3.size)
    clear hb
    go_wp2_with fail
    go_loopw [4] (PutsRel rs w) (fun u _ => rs.length - (intOf u).toNat)
    case atStart => exact ⟨0, Nat.zero_le _, rfl, b4⟩
    case round =>
      obtain ⟨k, hk, rfl, hbw⟩ := hrel
      have hsz := hbw.size
      by_cases hkl : k < rs.length
      · have hkI : (k : Int) < (rs.length : Int) := by omega
        obtain ⟨b, o, rfl, hbl, hcc⟩ := HC.out (by rw [rvs_length]; omega)
        have hx := hcc k (by rw [rvs_length]; exact hkl)
        have ex : (rvs rs)[k]'(by rw [rvs_length]; exact hkl) = .int .i32 rs[k] := by simp [rvs]
        rw [ex] at hx
        have hx2 := (hbw.cell (p := ⟨b, o + k, none⟩) hbl).trans hx
        generalize rs[k] = x at hx2
        clear hx ex hcc
        go_wp2_with fail
        go_quiet ((first | (go_at_call 20; exact Calls.quiet_of_same (blank_q _ _)) | (go_at_call 21; exact Calls.quiet_of_same (rblank_q _ _))))
        go_wp2_with fail
        go_roundw
        case rel => exact ⟨k + 1, by omega, by go_num, below_drewN hbw _⟩
        case measure => simp [intOf]; omega
      · have hkI : ¬ (k : Int) < (rs.length : Int) := by omega
        go_wp2_with fail
        refine (H4.out _).mono ?_
        rintro e w5 ⟨v5, rfl, hown5, hb⟩
        have b5 : Below w.heap.size w w5 := hbw.trans (hb.mono hbw.size)
        have hr5 := hown5.rdv (Nat.le_refl _)
        have HR5 := Lib.hid hr5
        clear hb hown5 hr5
        go_wp2_with fail
        refine (H5.out _).mono ?_
        rintro e w6 ⟨v6, rfl, hown6, hb⟩
        have b6 : Below w.heap.size w w6 := b5.trans (hb.mono b5.size)
        have hr6 := hown6.rdv (Nat.le_refl _)
        have hr5 := (HR5.out.below hb).more hb.size
        have HR6 := Lib.hid hr6
        have HR7 := Lib.hid hr5
        clear hb hown6 hr6 hr5
        go_wp2_with fail
        refine (HS.out _ _ w6.heap.size _ (by exact HR7.out) (by exact HR6.out)).mono ?_
        rintro e w7 ⟨rfl, q, hw7⟩
        have b7 : Below w.heap.size w w7 := by rw [hw7]; exact below_drewN b6 q
        clear hw7
        go_wp2_with fail
        refine (H6.out _).mono ?_
        rintro e w8 ⟨rfl, hb⟩
        have b8 : Below w.heap.size w w8 := b7.trans (hb.mono b7.size)
        clear hb
        go_wp2_with fail
        go_ret
        exact ⟨rfl, b8⟩
end Go.Proofs.Ytmimkcdomgoefaa
