/-
  WordsOf's calls: they answer true. Condition: the text's length is a length.
-/
import Derived.Test.YtmimkcdomgoefaaWRSet
namespace Go.Proofs.Ytmimkcdomgoefaa
open Go.RowKit

set_option maxHeartbeats 6400000 in
set_option maxRecDepth 100000 in
theorem lof_any (l : List UInt8) (w : World) : Calls Try.prog 7 #[.string (str l)] w (Holds w) := by
  by_cases h3 : (3000 : Int) < (l.length : Int)
  · go_enter Try.func7, Try.ntmps7
    go_wp2_with fail
    refine (wlives_any _).mono ?_
    rintro e w1 ⟨rfl, b1⟩
    go_wp2_with fail
    go_ret
    exact ⟨rfl, b1⟩
  have h3' : decide ((3000 : Int) < (l.length : Int)) = false := decide_eq_false h3
  have hc := words_count l
  have k1 := fun W => rwords_any l W (by omega)
  have k2 := fun W => words_any l W (by omega)
  have k3 := fun W => set_any l W (by omega) (by omega)
  have k4 := fun W => rset_any l W (by omega)
  have k5 := fun W => is_any l W (by omega)
  have hlen := fun L : List (List UInt8) => fun (h : L.length = 1) (x : List UInt8) (hx : L[0]? = some x) => is_one (l := l) h hx
  unfold isB at k5
  generalize setP (wordsS l) = M at *
  have hone := hlen (wordsS l)
  generalize wordsS l = L at *
  have s1 := rsame_yes L
  have s2 := rsame_yes M
  have hno : ¬ L.length = 1 → decide (L = [l]) = false := fun h => decide_eq_false fun e => h (by rw [e]; rfl)
  generalize decide (L = [l]) = D at k5 hone hno
  have H1 := Lib.hid k1
  have H2 := Lib.hid k2
  have H3 := Lib.hid k3
  have H4 := Lib.hid k4
  have H5 := Lib.hid k5
  have S1 := Lib.hid s1
  have S2 := Lib.hid s2
  have HONE := Lib.hid hone
  have HNO := Lib.hid hno
  clear k1 k2 k3 k4 k5 s1 s2 hone hno hlen hc
  go_enter Try.func7, Try.ntmps7
  go_wp2_with fail
  refine (H1.out _).mono ?_
  rintro e w1 ⟨v1, rfl, hown1, b1⟩
  have hr1 := hown1.rdv (Nat.le_refl _)
  obtain ⟨A, c, rfl, _, _, _⟩ := id hr1
  rw [strs_length L] at hr1 ⊢
  have HR1 := Lib.hid hr1
  clear hown1 hr1
  go_wp2_with fail
  refine (wlives_any _).mono ?_
  rintro e w2 ⟨rfl, hb⟩
  have b2 : Below w.heap.size w w2 := b1.trans (hb.mono b1.size)
  have hr2 := (HR1.out.below hb).more (B' := w2.heap.size) hb.size
  have HR2 := Lib.hid hr2
  clear hb hr2
  go_wp2_with fail
  refine (H2.out _).mono ?_
  rintro e w3 ⟨v3, rfl, hown3, hb⟩
  have b3 : Below w.heap.size w w3 := b2.trans (hb.mono b2.size)
  have hr3 := hown3.rdv (Nat.le_refl _)
  have hr2 := HR2.out.below hb
  have HR3 := Lib.hid hr3
  have HR4 := Lib.hid (hr2.more (B' := w3.heap.size) hb.size)
  clear hb hown3 hr3 hr2
  go_wp2_with fail
  refine (S1.out _ _ w3.heap.size _ (by exact HR3.out) (by exact HR4.out)).mono ?_
  rintro e w4 ⟨rfl, q, hw4⟩
  have b4 : Below w.heap.size w w4 := by rw [hw4]; exact below_drewN b3 q
  have hr4 : RdV w4 w4.heap.size (.slice A L.length c) (strs L) := by rw [hw4]; exact HR4.out
  have HR5 := Lib.hid hr4
  clear hw4 hr4
  go_wp2_with fail
  refine (H3.out _).mono ?_
  rintro e w5 ⟨v5, rfl, hown5, hb⟩
  have b5 : Below w.heap.size w w5 := b4.trans (hb.mono b4.size)
  have hr5 := hown5.rdv (Nat.le_refl _)
  have HR6 := Lib.hid hr5
  have HR7 := Lib.hid ((HR5.out.below hb).more (B' := w5.heap.size) hb.size)
  clear hb hown5 hr5
  go_wp2_with fail
  refine (H4.out _).mono ?_
  rintro e w6 ⟨v6, rfl, hown6, hb⟩
  have b6 : Below w.heap.size w w6 := b5.trans (hb.mono b5.size)
  have hr6 := hown6.rdv (Nat.le_refl _)
  have HR8 := Lib.hid hr6
  have HR9 := Lib.hid ((HR6.out.below hb).more (B' := w6.heap.size) hb.size)
  have HR10 := Lib.hid ((HR7.out.below hb).more (B' := w6.heap.size) hb.size)
  clear hb hown6 hr6
  go_wp2_with fail
  refine (S2.out _ _ w6.heap.size _ (by exact HR9.out) (by exact HR8.out)).mono ?_
  rintro e w7 ⟨rfl, q, hw7⟩
  have b7 : Below w.heap.size w w7 := by rw [hw7]; exact below_drewN b6 q
  have hr7 : RdV w7 w7.heap.size (.slice A L.length c) (strs L) := by rw [hw7]; exact HR10.out
  have HR11 := Lib.hid hr7
  clear hw7 hr7
  go_wp2_with fail
  refine (H5.out _).mono ?_
  rintro e w8 ⟨rfl, hb⟩
  have b8 : Below w.heap.size w w8 := b7.trans (hb.mono b7.size)
  have hr8 := HR11.out.below hb
  clear hb
  obtain ⟨A', c', e', _, _, hcell⟩ := hr8
  rw [strs_length L] at e'
  injection e' with e1 e2 e3
  subst e1 e3
  by_cases h1 : L.length = 1
  · have h1I : ((L.length : Int) == 1) = true := by simp; omega
    have h1J : (L.length : Int) = 1 := by omega
    obtain ⟨b, o, rfl, _, hcc⟩ := hcell (by rw [strs_length]; omega)
    have hx := hcc 0 (by rw [strs_length]; omega)
    rw [strs_at 0 (by omega), Nat.add_zero] at hx
    have ho := HONE.out h1 L[0] (List.getElem?_eq_getElem (by omega))
    generalize L[0] = x at hx ho
    have HD := Lib.hid ho
    clear hcc hcell h1 ho
    by_cases hxl : x = l
    · have hxb : (x == l) = true := by simp [hxl]
      have hD : D = true := by rw [HD.out, hxb]
      subst hD
      clear hxl
      go_wp2_with fail
      go_ret
      exact ⟨by first | rfl | simp, b8⟩
    · have hxb : (x == l) = false := by simp [hxl]
      have hD : D = false := by rw [HD.out, hxb]
      subst hD
      clear hxl
      go_wp2_with fail
      go_ret
      exact ⟨by first | rfl | simp, b8⟩
  · have h1I : ((L.length : Int) == 1) = false := by simp; omega
    have hD := HNO.out h1
    subst hD
    clear h1 hcell
    go_wp2_with fail
    go_ret
    exact ⟨by first | rfl | simp, b8⟩
end Go.Proofs.Ytmimkcdomgoefaa
