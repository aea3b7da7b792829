/-
  XmlNothing's call: it answers true. Conditions: the table of signs is as the program's text lays it; the library's MaxLen is a number.
-/
import Derived.Test.YtelhdkidnhfnbaaDoorMgl
import Derived.Test.YtelhdkidnhfnbaaDoorMgm
import Derived.Test.YtelhdkidnhfnbaaDoorXNoth
namespace Go.Proofs.YtelhdkidnhfnbaaDoor
open Go.RowKit

def NoIn (i : List UInt8) (w : World) (u : Value) (W : World) : Prop := ∃ k : Nat, k ≤ i.length ∧ u = .int .i64 (k : Int) ∧ (∀ x ∈ i.take k, x ≠ 45 ∧ x ≠ 63) ∧ w = W
def NoRel (w : World) (GY E0 : List TokE) (u20 u21 : Value) (W : World) : Prop :=
  ∃ (k : Nat) (E : List TokE), k ≤ GY.length ∧ u21 = .int .i64 (k : Int) ∧ E.map TokE.tk = glueV (E0.map TokE.tk) ((GY.take k).map TokE.tk) ∧ W.ownsRow w.heap.size 36 4 u20 E.length (tcells E) ∧ (∀ e ∈ E, SrcA w e.v e.attrs) ∧ Below w.heap.size w W ∧ E.length ≤ E0.length + k ∧ (k = 0 → E = E0)
theorem tcells_one : ∀ G : List TokE, (∀ e ∈ G, ∃ A n c, e.v = .slice A n c) → ∀ u ∈ tcells G, u.oneCell' = true
  | [], _, u, hu => by cases hu
  | e :: r, h, u, hu => by
    have h1 := tcells_one r fun x hx => h x (List.mem_cons_of_mem _ hx)
    obtain ⟨A, n, c, hv⟩ := h e List.mem_cons_self
    have hu' : u ∈ (Value.int .i64 e.kind :: .string (str e.name) :: e.v :: .string (str e.text) :: tcells r) := hu
    simp only [List.mem_cons] at hu'
    rcases hu' with rfl | rfl | rfl | rfl | hu'
    · rfl
    · rfl
    · rw [hv]; rfl
    · rfl
    · exact h1 u hu'
theorem srcW_srcT {w : World} {v : Value} {G : List TokE} (h : SrcT w v G) : SrcW w 4 v G.length (tcells G) ∧ ∀ u ∈ tcells G, u.oneCell' = true := by
  obtain ⟨⟨A, c, hv, hA⟩, hs⟩ := h
  refine ⟨⟨A, c, hv, by rw [tcells_len, Nat.mul_comm], fun hn => ?_, fun ad had j u hu => ?_⟩, tcells_one G fun e he => ?_⟩
  · rcases Nat.eq_zero_or_pos G.length with h0 | h0
    · exact h0
    · obtain ⟨b, o, h1, _⟩ := hA h0
      rw [hn] at h1; cases h1
  · have h0 : 0 < G.length := by
      have := (List.getElem?_eq_some_iff.1 hu).1
      rw [tcells_len] at this
      omega
    obtain ⟨b, o, h1, _, hc⟩ := hA h0
    rw [had] at h1
    injection h1 with h1
    subst h1
    rw [Addr.add_mid]
    exact hc j u hu
  · obtain ⟨A, c, hv, _⟩ := hs e he
    exact ⟨A, _, c, hv⟩
theorem srcT_own {w W : World} {b : Nat} {v : Value} {G : List TokE} (h : W.ownsRow b 36 4 v G.length (tcells G)) (ha : ∀ e ∈ G, SrcA w e.v e.attrs) (hb : Below w.heap.size w W) : SrcT W v G := by
  refine ⟨?_, fun e he => (ha e he).below hb⟩
  obtain ⟨A, c, hv, _, _, hn, hA⟩ := ownsRow_shape h
  refine ⟨A, c, hv, fun hp => ?_⟩
  cases A with
  | none => have := (hn rfl).1; omega
  | some ad =>
    obtain ⟨g, rfl, _⟩ := hA ad rfl
    have hg : v.ownBlock = some g := by rw [hv]; rfl
    refine ⟨g, 0, rfl, (World.ownsRow.lt h g hg).2, fun j u hu => ?_⟩
    rw [Nat.zero_add]
    exact rowcell h hg j u hu
theorem small_has {G : List TokE} {T : List Tk} {B : Nat} (h : ∀ t ∈ T, t.text.length ≤ B) (hg : G.map TokE.tk = T) : ∀ e ∈ G, e.text.length ≤ B := fun e he => h e.tk (by rw [← hg]; exact List.mem_map_of_mem he)
theorem cat_strN (l m : List UInt8) : str l ++ str m = str (l ++ m) := by unfold str; exact ByteArray.mk_append_mk l m
theorem cat_arr (l m : List UInt8) (h : str m = ⟨⟨m⟩⟩) : str l ++ ⟨⟨m⟩⟩ = str (l ++ m) := by rw [← h]; exact cat_strN l m
theorem no_push {w wr X w9 : World} {v v9 : Value} {E : List TokE} {e : TokE} (hX : Below wr.heap.size wr X) (hE : X.ownsRow w.heap.size 36 4 v E.length (tcells E)) (hs : ∀ x ∈ E, SrcA w x.v x.attrs) (he : SrcA w e.v e.attrs) (hb : Below w.heap.size w wr)
    (o9 : w9.ownsRow w.heap.size 36 4 v9 (E.length + 1) (tcells E ++ [.int .i64 e.kind, .string (str e.name), e.v, .string (str e.text)])) (g9 : X.grownBy w9 v.ownBlock) :
    w9.ownsRow w.heap.size 36 4 v9 (E ++ [e]).length (tcells (E ++ [e])) ∧ (∀ x ∈ E ++ [e], SrcA w x.v x.attrs) ∧ Below w.heap.size w w9 := by
  refine ⟨by rw [List.length_append, tcells_app]; exact o9, fun x hx => ?_, (below_then hb hX).grown g9 (Nat.le_trans hb.size hX.size) fun k hk => (World.ownsRow.lt hE k hk).1⟩
  rcases List.mem_append.1 hx with hx | hx
  · exact hs x hx
  · rw [List.mem_singleton.1 hx]; exact he
theorem no_join {w wr : World} {P : List TokE} {x : TokE} {tx : List UInt8} {bo n c : Nat} (hE : wr.ownsRow w.heap.size 36 4 (.slice (some ⟨bo, 0, none⟩) n c) (P ++ [x]).length (tcells (P ++ [x]))) (hn : n = (P ++ [x]).length) (hs : ∀ y ∈ P ++ [x], SrcA w y.v y.attrs) (hb : Below w.heap.size w wr) :
    (wr.setCell ⟨bo, P.length * 4 + 3, none⟩ (.string (str tx))).ownsRow w.heap.size 36 4 (.slice (some ⟨bo, 0, none⟩) n c) (P ++ [{ x with text := tx }]).length (tcells (P ++ [{ x with text := tx }])) ∧ (∀ y ∈ P ++ [{ x with text := tx }], SrcA w y.v y.attrs) ∧ Below w.heap.size w (wr.setCell ⟨bo, P.length * 4 + 3, none⟩ (.string (str tx))) := by
  subst hn
  refine ⟨?_, fun y hy => ?_, below_more hb (grown_set wr bo (P.length * 4 + 3) (.string (str tx))) (World.ownsRow.lt hE bo rfl).1⟩
  · have h := ownsRow_set hE (P.length * 4 + 3) (.string (str tx))
    rw [tcells_set] at h
    have hl : (P ++ [{ x with text := tx }]).length = (P ++ [x]).length := by simp
    rw [hl]
    exact h
  · rcases List.mem_append.1 hy with hy | hy
    · exact hs y (List.mem_append.2 (.inl hy))
    · rw [List.mem_singleton.1 hy]
      exact hs x (List.mem_append.2 (.inr List.mem_cons_self))
set_option maxHeartbeats 12800000 in
set_option maxRecDepth 100000 in
theorem lnoth_long (a b i : List UInt8) (w : World) (hS : Sig w) (hm : MaxAt w) (hl : 1000 < a.length ∨ 1000 < b.length ∨ 300 < i.length) : Calls Tryd.prog 6 #[.string (str a), .string (str b), .string (str i)] w (Made w (.bool true)) := by
  have HS := Lib.hid hS
  have HM := Lib.hid hm
  clear hS hm
  by_cases h1 : (1000 : Int) < (a.length : Int)
  · clear hl
    go_enter Tryd.func6, Tryd.ntmps6
    go_wp2_with (go_at_call 7; refine (lives_any _ HS.out HM.out).mono ?_; rintro e w1 ⟨rfl, b1⟩; have B1 := Lib.hid b1; clear b1)
    go_ret
    exact ⟨rfl, B1.out⟩
  · have h1' : decide ((1000 : Int) < (a.length : Int)) = false := decide_eq_false h1
    by_cases h2 : (1000 : Int) < (b.length : Int)
    · clear hl h1
      go_enter Tryd.func6, Tryd.ntmps6
      go_wp2_with (go_at_call 7; refine (lives_any _ HS.out HM.out).mono ?_; rintro e w1 ⟨rfl, b1⟩; have B1 := Lib.hid b1; clear b1)
      go_ret
      exact ⟨rfl, B1.out⟩
    · have h2' : decide ((1000 : Int) < (b.length : Int)) = false := decide_eq_false h2
      have h3 : (300 : Int) < (i.length : Int) := by omega
      clear hl h1 h2
      go_enter Tryd.func6, Tryd.ntmps6
      go_wp2_with (go_at_call 7; refine (lives_any _ HS.out HM.out).mono ?_; rintro e w1 ⟨rfl, b1⟩; have B1 := Lib.hid b1; clear b1)
      go_ret
      exact ⟨rfl, B1.out⟩
set_option maxHeartbeats 12800000 in
set_option maxRecDepth 100000 in
theorem lnoth_any (a b i : List UInt8) (w : World) (hS : Sig w) (hm : MaxAt w) : Calls Tryd.prog 6 #[.string (str a), .string (str b), .string (str i)] w (Made w (.bool true)) := by
  by_cases hlong : 1000 < a.length ∨ 1000 < b.length ∨ 300 < i.length
  · exact lnoth_long a b i w hS hm hlong
  · have ha : a.length ≤ 1000 := by omega
    have hb : b.length ≤ 1000 := by omega
    have hi : i.length ≤ 300 := by omega
    have HI3 := Lib.hid hi
    have HA3 := Lib.hid ha
    have HB3 := Lib.hid hb
    have h1' : decide ((1000 : Int) < (a.length : Int)) = false := decide_eq_false (by omega)
    have h2' : decide ((1000 : Int) < (b.length : Int)) = false := decide_eq_false (by omega)
    have h3' : decide ((300 : Int) < (i.length : Int)) = false := decide_eq_false (by omega)
    have HS := Lib.hid hS
    have HM := Lib.hid hm
    clear hS hm hlong
    go_enter Tryd.func6, Tryd.ntmps6
    go_wp2_with fail
    go_loopw [7] (NoIn i w) (fun u _ => i.length - (intOf u).toNat)
    case atStart => exact ⟨0, Nat.zero_le _, rfl, (fun x hx => by cases hx), rfl⟩
    case round =>
      obtain ⟨k, hk, rfl, hin, rfl⟩ := hrel
      have HIN := Lib.hid hin
      clear hin
      by_cases hki : k < i.length
      · have hkI : (k : Int) < (i.length : Int) := by omega
        have hiI : (i.length : Int) ≤ 300 := by omega
        have hky := idx_at i k hki
        have hyy : at0B i k = i[k].toNat := by unfold at0B; rw [show i.getD k 0 = i[k] by simp [List.getD, hki]]
        rw [hyy] at hky
        have HNX : Hid (i[k] ≠ 45 ∧ i[k] ≠ 63 → ∀ x ∈ i.take (k + 1), x ≠ 45 ∧ x ≠ 63) := Lib.hid fun hx x hm => by
          rw [List.take_succ_eq_append_getElem hki] at hm
          rcases List.mem_append.1 hm with hm | hm
          · exact HIN.out x hm
          · rw [List.mem_singleton.1 hm]; exact hx
        have HE1 : Hid (¬ (i[k].toNat : Int) = 45 → i[k] ≠ 45) := Lib.hid fun h e => h (by rw [e]; rfl)
        have HE2 : Hid (¬ (i[k].toNat : Int) = 63 → i[k] ≠ 63) := Lib.hid fun h e => h (by rw [e]; rfl)
        have HK1 : Hid (k + 1 ≤ i.length) := Lib.hid hki
        generalize i[k] = x at *
        obtain ⟨y, hy⟩ : ∃ y : Int, y = (x.toNat : Int) := ⟨_, rfl⟩
        rw [← hy] at hky HE1 HE2
        clear hyy hy
        by_cases h45 : y = 45
        · subst h45
          go_wp2_with (go_at_call 7; refine (lives_any _ HS.out HM.out).mono ?_; rintro e w1 ⟨rfl, b1⟩; have B1 := Lib.hid b1; clear b1)
          go_ret
          exact ⟨rfl, B1.out⟩
        · have y1 : (y == 45) = false := by simpa using h45
          have y2 : decide (y = 45) = false := decide_eq_false h45
          have N1 := Lib.hid (HE1.out h45)
          clear h45
          by_cases h63 : y = 63
          · subst h63
            go_wp2_with (go_at_call 7; refine (lives_any _ HS.out HM.out).mono ?_; rintro e w1 ⟨rfl, b1⟩; have B1 := Lib.hid b1; clear b1)
            go_ret
            exact ⟨rfl, B1.out⟩
          · have y3 : (y == 63) = false := by simpa using h63
            have y4 : decide (y = 63) = false := decide_eq_false h63
            have N2 := Lib.hid (HE2.out h63)
            clear h63
            go_wp2_with fail
            go_roundw
            case rel => exact ⟨k + 1, HK1.out, by go_num, HNX.out ⟨N1.out, N2.out⟩, rfl⟩
            case measure => have := HK1.out; simp [intOf]; omega
      · have hkI : ¬ (k : Int) < (i.length : Int) := by omega
        have HIA : Hid (∀ x ∈ i, x ≠ 45 ∧ x ≠ 63) := Lib.hid (by
          have h := HIN.out
          rw [List.take_of_length_le (by omega)] at h
          exact h)
        clear hk hki
        have HLA : Hid (a.length ≤ 1000000000) := Lib.hid (by omega)
        have HLB : Hid (b.length ≤ 1000000000) := Lib.hid (by omega)
        obtain ⟨p1, hp1⟩ : ∃ p1, p1 = a ++ [60, 33, 45, 45] := ⟨_, rfl⟩
        obtain ⟨p2, hp2⟩ : ∃ p2, p2 = p1 ++ i := ⟨_, rfl⟩
        obtain ⟨p3, hp3⟩ : ∃ p3, p3 = p2 ++ [45, 45, 62] := ⟨_, rfl⟩
        obtain ⟨p4, hp4⟩ : ∃ p4, p4 = p3 ++ b := ⟨_, rfl⟩
        obtain ⟨q1, hq1⟩ : ∃ q1, q1 = a ++ [60, 63] := ⟨_, rfl⟩
        obtain ⟨q2, hq2⟩ : ∃ q2, q2 = q1 ++ i := ⟨_, rfl⟩
        obtain ⟨q3, hq3⟩ : ∃ q3, q3 = q2 ++ [63, 62] := ⟨_, rfl⟩
        obtain ⟨q4, hq4⟩ : ∃ q4, q4 = q3 ++ b := ⟨_, rfl⟩
        have cp1 : str a ++ ⟨#[60, 33, 45, 45]⟩ = str p1 := by rw [hp1]; exact cat_arr _ _ rfl
        have cp2 : str p1 ++ str i = str p2 := by rw [hp2]; exact cat_strN _ _
        have cp3 : str p2 ++ ⟨#[45, 45, 62]⟩ = str p3 := by rw [hp3]; exact cat_arr _ _ rfl
        have cp4 : str p3 ++ str b = str p4 := by rw [hp4]; exact cat_strN _ _
        have cq1 : str a ++ ⟨#[60, 63]⟩ = str q1 := by rw [hq1]; exact cat_arr _ _ rfl
        have cq2 : str q1 ++ str i = str q2 := by rw [hq2]; exact cat_strN _ _
        have cq3 : str q2 ++ ⟨#[63, 62]⟩ = str q3 := by rw [hq3]; exact cat_arr _ _ rfl
        have cq4 : str q3 ++ str b = str q4 := by rw [hq4]; exact cat_strN _ _
        have lp1 : p1.length ≤ 1400 := by rw [hp1, List.length_append]; show a.length + 4 ≤ _; omega
        have lp2 : p2.length ≤ 1800 := by rw [hp2, List.length_append]; omega
        have lp3 : p3.length ≤ 1900 := by rw [hp3, List.length_append]; show p2.length + 3 ≤ _; omega
        have lq1 : q1.length ≤ 1400 := by rw [hq1, List.length_append]; show a.length + 2 ≤ _; omega
        have lq2 : q2.length ≤ 1800 := by rw [hq2, List.length_append]; omega
        have lq3 : q3.length ≤ 1900 := by rw [hq3, List.length_append]; show q2.length + 2 ≤ _; omega
        have LP4 : Hid (p4.length ≤ 3000) := Lib.hid (by rw [hp4, List.length_append]; omega)
        have LQ4 : Hid (q4.length ≤ 3000) := Lib.hid (by rw [hq4, List.length_append]; omega)
        have HLP : Hid (p4.length ≤ 1000000000) := Lib.hid (by have := LP4.out; omega)
        have HLQ : Hid (q4.length ≤ 1000000000) := Lib.hid (by have := LQ4.out; omega)
        have HP : Hid (p4 = a ++ (([60, 33, 45, 45] ++ (i ++ [45, 45, 62])) ++ b)) := Lib.hid (by rw [hp4, hp3, hp2, hp1]; simp only [List.append_assoc])
        have HQ : Hid (q4 = a ++ (([60, 63] ++ (i ++ [63, 62])) ++ b)) := Lib.hid (by rw [hq4, hq3, hq2, hq1]; simp only [List.append_assoc])
        clear hp1 hp2 hp3 hp4 hq1 hq2 hq3 hq4
        have d1 : ¬ 9223372036854775807 < a.length + 4 := by omega
        have d2 : ¬ 9223372036854775807 < p1.length + i.length := by omega
        have d3 : ¬ 9223372036854775807 < p2.length + 3 := by omega
        have d4 : ¬ 9223372036854775807 < p3.length + b.length := by omega
        have d5 : ¬ 9223372036854775807 < a.length + 2 := by omega
        have d6 : ¬ 9223372036854775807 < q1.length + i.length := by omega
        have d7 : ¬ 9223372036854775807 < q2.length + 2 := by omega
        have d8 : ¬ 9223372036854775807 < q3.length + b.length := by omega
        obtain ⟨⟨TA, na, ea⟩, hxa⟩ : ∃ x, x = tokX a := ⟨_, rfl⟩
        obtain ⟨⟨TB, nb, eb⟩, hxb⟩ : ∃ x, x = tokX b := ⟨_, rfl⟩
        have HXA := Lib.hid hxa
        have HXB := Lib.hid hxb
        clear hxa hxb
        by_cases hea : ea = 0
        · subst hea
          by_cases heb : eb = 0
          · subst heb
            have HXP : Hid ((glueV TA TB, p4.length, (0 : Int)) = tokX p4) := Lib.hid (by
              rw [HP.out]
              exact (noth_eq HXA.out.symm HXB.out.symm HA3.out HB3.out (by have := HI3.out; simp only [List.length_append, List.length_cons, List.length_nil]; omega) rfl (note_part fun x hx => (HIA.out x hx).1)).symm)
            have HXQ : Hid ((glueV TA TB, q4.length, (0 : Int)) = tokX q4) := Lib.hid (by
              rw [HQ.out]
              exact (noth_eq HXA.out.symm HXB.out.symm HA3.out HB3.out (by have := HI3.out; simp only [List.length_append, List.length_cons, List.length_nil]; omega) rfl (inst_part fun x hx => (HIA.out x hx).2)).symm)
            have HTA := Lib.hid (tokX_has HXA.out.symm)
            have HTB := Lib.hid (tokX_has HXB.out.symm)
            have HTP : Hid (SmallT (glueV TA TB)) := Lib.hid (by have h := toks_small p4 LP4.out; rw [← HXP.out] at h; exact h)
            clear ha hb hi
            go_wp2_with (first
              | (go_at_call 8; have q := MT3.out; clear q; have k := tokens_any q4 w3 HLQ.out (HS.out.below B3.out) (HM.out.below B3.out); unfold ToksAns at k; rw [← HXQ.out] at k; refine k.mono ?_; rintro e w4 ⟨v4, G4, rfl, b, g, r⟩; have B4 := Lib.hid (below_then B3.out b); have R14 := Lib.hid (R13.out.below b); have R24 := Lib.hid (R23.out.below b); have R34 := Lib.hid (R33.out.below b); have R44 := Lib.hid r; have HG4 := Lib.hid g; have MT4 : Hid True := Lib.hid trivial; clear k b r g)
              | (go_at_call 8; have q := MT2.out; clear q; have k := tokens_any p4 w2 HLP.out (HS.out.below B2.out) (HM.out.below B2.out); unfold ToksAns at k; rw [← HXP.out] at k; refine k.mono ?_; rintro e w3 ⟨v3, G3, rfl, b, g, r⟩; have B3 := Lib.hid (below_then B2.out b); have R13 := Lib.hid (R12.out.below b); have R23 := Lib.hid (R22.out.below b); have R33 := Lib.hid r; have HG3 := Lib.hid g; have MT3 : Hid True := Lib.hid trivial; clear k b r g)
              | (go_at_call 8; have q := MT1.out; clear q; have k := tokens_any b w1 HLB.out (HS.out.below B1.out) (HM.out.below B1.out); unfold ToksAns at k; rw [← HXB.out] at k; refine k.mono ?_; rintro e w2 ⟨v2, G2, rfl, b, g, r⟩; have B2 := Lib.hid (below_then B1.out b); have R12 := Lib.hid (R11.out.below b); have R22 := Lib.hid r; have HG2 := Lib.hid g; have MT2 : Hid True := Lib.hid trivial; obtain ⟨A2, c2, hv, z⟩ := ownsRow_shape r.1; have Z2 := Lib.hid z; clear z; obtain ⟨N2, hN⟩ : ∃ N, N = G2.length := ⟨_, rfl⟩; rw [← hN] at hv; have HN2 := Lib.hid hN; clear hN k b r g; subst hv)
              | (go_at_call 8; have k := tokens_any a w HLA.out HS.out HM.out; unfold ToksAns at k; rw [← HXA.out] at k; refine k.mono ?_; rintro e w1 ⟨v1, G1, rfl, b, g, r⟩; have B1 := Lib.hid b; have R11 := Lib.hid r; have HG1 := Lib.hid g; have MT1 : Hid True := Lib.hid trivial; obtain ⟨A1, c1, hv, z⟩ := ownsRow_shape r.1; have Z1 := Lib.hid z; clear z; obtain ⟨N1, hN⟩ : ∃ N, N = G1.length := ⟨_, rfl⟩; rw [← hN] at hv; have HN1 := Lib.hid hN; clear hN k b r g; subst hv)
              | (go_at_call 7; have q := MT4.out; clear q; refine (lives_any _ (HS.out.below B4.out) (HM.out.below B4.out)).mono ?_; rintro e w5 ⟨rfl, b⟩; have B5 := Lib.hid (below_then B4.out b); have HBA : Hid (Below w5.heap.size w5 (w5.alloc (.cells #[] 36))) := Lib.hid ((Below.refl _ _).alloc (Nat.le_refl _) _); have ER : Hid ((w5.alloc (.cells #[] 36)).ownsRow w5.heap.size 36 4 (.slice (some ⟨w5.heap.size, 0, none⟩) 0 0) 0 []) := Lib.hid (ownsRow_empty w5 36 4 _ rfl); have R15 := Lib.hid (R14.out.below b); have R25 := Lib.hid (R24.out.below b); have R35 := Lib.hid (R34.out.below b); have R45 := Lib.hid (R44.out.below b); have MT5 : Hid True := Lib.hid trivial; have SX : Hid (SrcW (w5.alloc (.cells #[] 36)) 4 (.slice A1 N1 c1) N1 (tcells G1) ∧ ∀ u ∈ tcells G1, u.oneCell' = true) := Lib.hid (by have h := srcW_srcT (srcT_row (R15.out.below HBA.out)); rw [← HN1.out] at h; exact h); have HN1B : Hid (N1 ≤ 2000) := Lib.hid (by have h1 := congrArg List.length HG1.out; rw [List.length_map, ← HN1.out] at h1; have h2 := HTA.out.1; have h3 := HA3.out; omega); clear b)
              | (at_builtin; go_must (refine wpList_append_w _ (by rfl) (.tmp 101) (.tmp 102) 23 (by rfl) w5.heap.size 36 (.agg #[.int .i64 0, .string ⟨#[]⟩, .slice none 0 0, .string ⟨#[]⟩]) 4 64 Tryd.underlying23 Tryd.tokinfo (by rfl) (by decide) _ _ _ (by rfl) (by exact ER.out) _ _ _ (by rfl) (by exact SX.out.1) (by exact SX.out.2) (by have := HN1B.out; unfold maxLen; omega) (by have := HN1B.out; omega) (by exact HBA.out.size) ?_); intro v9 w9 o9 g9 a9; have O9 := Lib.hid o9; have G9 := Lib.hid g9; clear o9 g9 a9))
            obtain ⟨AQ, cQ, hvQ, zQ⟩ := ownsRow_shape O9.out
            have H0 : Hid (NoRel w5 G2 G1 v9 (.int .i64 0) w9) := Lib.hid ⟨0, G1, Nat.zero_le _, rfl, rfl, by have h := O9.out; rw [Nat.zero_add, List.nil_append, HN1.out] at h; exact h, (srcT_row R15.out).2, below_more HBA.out ⟨G9.out.os, G9.out.tape, G9.out.output, G9.out.size, G9.out.block⟩ (Nat.le_refl _), Nat.le_refl _, fun _ => rfl⟩
            have HX1 : Hid (∀ e ∈ G1, e.text.length ≤ 4000) := Lib.hid fun e he => by have h := small_has HTA.out.2.1 HG1.out e he; have := HA3.out; omega
            have HX2 : Hid (∀ e ∈ G2, e.text.length ≤ 4000) := Lib.hid fun e he => by have h := small_has HTB.out.2.1 HG2.out e he; have := HB3.out; omega
            have HHD : Hid (HeadOk (G2.map TokE.tk)) := Lib.hid (by rw [HG2.out]; exact HTB.out.2.2)
            have HL1 : Hid (G1.length ≤ 2000) := Lib.hid (by have := HN1B.out; have := HN1.out; omega)
            have HL2 : Hid (G2.length ≤ 2000) := Lib.hid (by have h1 := congrArg List.length HG2.out; rw [List.length_map] at h1; have h2 := HTB.out.1; have h3 := HB3.out; omega)
            have HSA2 : Hid (∀ e ∈ G2, SrcA w5 e.v e.attrs) := Lib.hid (srcT_row R25.out).2
            clear hvQ zQ O9 G9 SX ER HBA R15 R14 R24 R34 R44 R13 R23 R33 R12 R22 R11
            go_loopw [20, 21] (NoRel w5 G2 G1) (fun _ u _ => G2.length - (intOf u).toNat)
            case atStart => exact H0.out
            case round =>
              obtain ⟨k, E, hk, rfl, hmp, hown, hsa, hbk, hlen, hke⟩ := hrel
              obtain ⟨A, c, hv, zz⟩ := ownsRow_shape hown
              have HZE : Hid (0 < E.length → ∃ b, A = some ⟨b, 0, none⟩) := Lib.hid fun h => by
                cases A with
                | none => have := (zz.2.2.1 rfl).1; omega
                | some ad => obtain ⟨b, hb, _⟩ := zz.2.2.2 ad rfl; exact ⟨b, by rw [hb]⟩
              obtain ⟨N, hN⟩ : ∃ N, N = E.length := ⟨_, rfl⟩
              rw [← hN] at hv
              have HN := Lib.hid hN
              clear hN zz
              subst hv
              have HMP := Lib.hid hmp
              have HOW := Lib.hid hown
              have HSA := Lib.hid hsa
              have HBk := Lib.hid hbk
              have HLEN := Lib.hid hlen
              have HKE := Lib.hid hke
              clear hmp hown hsa hbk hlen hke
              rw [← HN2.out] at hk
              by_cases hkN : k < N2
              · have hkI : (k : Int) < (N2 : Int) := by omega
                have hn2I : (N2 : Int) ≤ 2000 := by have := HN2.out; have := HL2.out; omega
                have hkG : k < G2.length := by have := HN2.out; omega
                have HTG := Lib.hid (R25.out.below HBk.out)
                obtain ⟨bY, hbY⟩ : ∃ b, A2 = some ⟨b, 0, none⟩ := by
                  cases A2 with
                  | none => have := (Z2.out.2.2.1 rfl).1; have := HN2.out; omega
                  | some ad => obtain ⟨b, hb, _⟩ := Z2.out.2.2.2 ad rfl; exact ⟨b, by rw [hb]⟩
                have HKL : Hid (k + 1 ≤ G2.length) := Lib.hid hkG
                have hat := tcells_at G2 k hkG
                have HEG : Hid (G2[k] ∈ G2) := Lib.hid (List.getElem_mem hkG)
                have HNB : Hid (N ≤ 5000) := Lib.hid (by have := HLEN.out; have := HL1.out; have := HL2.out; have := HN.out; omega)
                subst hbY
                have yc := fun (j : Nat) (u : Value) (hu : (tcells G2)[j]? = some u) => rowcell HTG.out.1 (show (Value.slice (some ⟨bY, 0, none⟩) N2 c2).ownBlock = some bY from rfl) j u hu
                have YC : Hid (wr.cell? ⟨bY, k * 4, none⟩ = some (.int .i64 G2[k].kind) ∧ wr.cell? ⟨bY, k * 4 + 1, none⟩ = some (.string (str G2[k].name)) ∧ wr.cell? ⟨bY, k * 4 + 2, none⟩ = some G2[k].v ∧ wr.cell? ⟨bY, k * 4 + 3, none⟩ = some (.string (str G2[k].text))) := Lib.hid (by
                  rw [Nat.mul_comm k 4]
                  exact ⟨yc _ _ hat.1, yc _ _ hat.2.1, yc _ _ hat.2.2.1, yc _ _ hat.2.2.2⟩)
                have HEA := Lib.hid (HSA2.out _ HEG.out)
                have HEV : Hid (G2[k].v.oneCell' = true) := Lib.hid (by obtain ⟨A, c, hv, _⟩ := HEA.out; rw [hv]; rfl)
                have HET := Lib.hid (HX2.out _ HEG.out)
                have HTKE : Hid ((G2.take (k + 1)).map TokE.tk = (G2.take k).map TokE.tk ++ [G2[k].tk]) := Lib.hid (by rw [List.take_succ_eq_append_getElem hkG, List.map_append]; rfl)
                have HHE : Hid (k = 0 → ¬ (G2[k].tk.kind = 3 ∧ G2[k].tk.text = [])) := Lib.hid fun h0 => by
                  subst h0
                  exact HHD.out _ (by rw [List.head?_map, List.head?_eq_getElem?, List.getElem?_eq_getElem hkG]; rfl)
                clear hat yc
                generalize G2[k] = e at *
                obtain ⟨ek, en, ea, ev, et⟩ := e
                simp only at YC HEV HET
                have BF4 : Hid (Blk (wr.alloc (.cells #[.int .i64 ek, .string (str en), ev, .string (str et)] 36)) wr.heap.size 36 #[.int .i64 ek, .string (str en), ev, .string (str et)]) := Lib.hid (Blk.fresh _ _ _)
                have HB4 : Hid (Below wr.heap.size wr (wr.alloc (.cells #[.int .i64 ek, .string (str en), ev, .string (str et)] 36))) := Lib.hid ((Below.refl _ _).alloc (Nat.le_refl _) _)
                have AR5 : Hid ((wr.alloc (.cells #[.int .i64 ek, .string (str en), ev, .string (str et)] 36)).ownsRow w5.heap.size 36 4 (.slice A N c) E.length (tcells E)) := Lib.hid (ownsRow_blk HOW.out fun k hk => HB4.out.block k (World.ownsRow.lt HOW.out k hk).2)
                have AR4 : Hid ((wr.alloc (.cells #[.int .i64 ek, .string (str en), ev, .string (str et)] 36)).ownsRow w5.heap.size 36 4 (.slice A N c) N (tcells E)) := Lib.hid (by have h := AR5.out; rw [← HN.out] at h; exact h)
                clear hkG
                by_cases hk0 : k = 0
                · have HK0 := Lib.hid hk0
                  have k1 : ((k : Int) == 0) = true := by simpa using hk0
                  have k2 : decide ((k : Int) = 0) = true := decide_eq_true (by omega)
                  have HG0 : Hid (glueV (G1.map TokE.tk) ((G2.take (k + 1)).map TokE.tk) = addV (E.map TokE.tk) (TokE.tk ⟨ek, en, ea, ev, et⟩)) := Lib.hid (by
                    rw [HTKE.out, HKE.out hk0]
                    subst hk0
                    exact glue_one _ _)
                  have HNE := Lib.hid (HHE.out hk0)
                  have x0 : wr.cell? ⟨bY, 0, none⟩ = some (.int .i64 ek) := by have h := YC.out.1; rw [hk0] at h; exact h
                  have x3 : wr.cell? ⟨bY, 3, none⟩ = some (.string (str et)) := by have h := YC.out.2.2.2; rw [hk0] at h; exact h
                  clear hk0
                  rcases List.eq_nil_or_concat E with hE | ⟨P, x, hE⟩
                  · have hN0 : N = 0 := by rw [HN.out, hE]; rfl
                    have hn0 : ¬ (0 : Int) < (N : Int) := by omega
                    have hn0n : ¬ 0 < N := by omega
                    have hn0d : decide (0 < N) = false := decide_eq_false hn0n
                    have HEE := Lib.hid hE
                    clear hN0 hE x0 x3
                    have y0 : wr.cell? ⟨bY, k * 4, none⟩ = some (.int .i64 ek) := YC.out.1
                    have y1 : wr.cell? ⟨bY, k * 4 + 1, none⟩ = some (.string (str en)) := YC.out.2.1
                    have y2 : wr.cell? ⟨bY, k * 4 + 2, none⟩ = some ev := YC.out.2.2.1
                    have y3 : wr.cell? ⟨bY, k * 4 + 3, none⟩ = some (.string (str et)) := YC.out.2.2.2
                    go_wp2_with (at_builtin; go_must (refine wpList_append_w _ (by rfl) (.tmp 150) (.tmp 155) 23 (by rfl) w5.heap.size 36 (.agg #[.int .i64 0, .string ⟨#[]⟩, .slice none 0 0, .string ⟨#[]⟩]) 4 64 Tryd.underlying23 Tryd.tokinfo (by rfl) (by decide) _ _ _ (by rfl) (by exact AR4.out) _ _ _ (by rfl) (by exact tok_one BF4.out) (by simp [Value.oneCell'] <;> exact HEV.out) (by have := HNB.out; unfold maxLen; omega) (by have := HNB.out; omega) (by exact Nat.le_trans HBk.out.size HB4.out.size) ?_); intro v8 w8 o8 g8 a8; have O8 := Lib.hid o8; have G8 := Lib.hid g8; clear o8 g8 a8 y0 y1 y2 y3)
                    have HPU := Lib.hid (no_push (w := w5) (e := ⟨ek, en, ea, ev, et⟩) HB4.out AR5.out HSA.out HEA.out HBk.out (by have h := O8.out; rw [HN.out] at h; exact h) ⟨G8.out.os, G8.out.tape, G8.out.output, G8.out.size, G8.out.block⟩)
                    go_roundw
                    case rel => exact ⟨k + 1, E ++ [⟨ek, en, ea, ev, et⟩], HKL.out, by go_num, by rw [HG0.out, HEE.out]; show _ = addV [] _; unfold addV; rw [if_neg HNE.out]; rfl, HPU.out.1, HPU.out.2.1, HPU.out.2.2, by rw [List.length_append, List.length_singleton]; have := HLEN.out; omega, fun h => by omega⟩
                    case measure => have := HKL.out; simp [intOf]; omega
                  · rw [List.concat_eq_append] at hE
                    obtain ⟨xk, xn, xa, xv, xt⟩ := x
                    have HNP : Hid (N = P.length + 1) := Lib.hid (by rw [HN.out, hE]; simp)
                    obtain ⟨bE, hbE⟩ := HZE.out (by rw [← HN.out]; have := HNP.out; omega)
                    subst hbE
                    have hatE := tcells_at E P.length (by rw [← HN.out]; have := HNP.out; omega)
                    have hgP : E[P.length]'(by rw [← HN.out]; have := HNP.out; omega) = ⟨xk, xn, xa, xv, xt⟩ := by simp [hE]
                    rw [hgP] at hatE
                    have u0 : wr.cell? ⟨bE, P.length * 4, none⟩ = some (.int .i64 xk) := by rw [Nat.mul_comm]; exact rowcell HOW.out rfl _ _ hatE.1
                    have U3 : Hid (wr.cell? ⟨bE, P.length * 4 + 3, none⟩ = some (.string (str xt))) := Lib.hid (by rw [Nat.mul_comm]; exact rowcell HOW.out rfl _ _ hatE.2.2.2)
                    have UF : Hid (∀ j, wr.frozen? ⟨bE, j, none⟩ = false) := Lib.hid fun j => by
                      obtain ⟨cur, hcur⟩ := ownsRow_rowAt HOW.out bE rfl
                      exact Blk.free hcur j
                    obtain ⟨M, hM⟩ : ∃ M, M = P.length := ⟨_, rfl⟩
                    rw [← hM] at u0 U3
                    have hMI : (M : Int) < (N : Int) := by have := HNP.out; omega
                    have hM0 : (0 : Int) ≤ (M : Int) := by omega
                    have hNI : (0 : Int) < (N : Int) := by have := HNP.out; omega
                    have hNIn : 0 < N := by have := HNP.out; omega
                    have hNId : decide (0 < N) = true := decide_eq_true hNIn
                    have hNI2 : (N : Int) ≤ 100000 := by have := HNB.out; omega
                    have hNM : (N : Int) - 1 = (M : Int) := by have := HNP.out; omega
                    have hwM : IntKind.i64.wrap (M : Int) = (M : Int) := IntWalk.i64_in _ (by omega)
                    have hN20 : (0 : Int) < (N2 : Int) := by omega
                    have hN20n : 0 < N2 := by omega
                    have HM := Lib.hid hM
                    have HEE := Lib.hid hE
                    clear hatE hgP hM hE
                    by_cases hx3 : xk = 3
                    · subst hx3
                      by_cases h3 : ek = 3
                      · subst h3
                        have HT0 : Hid (et ≠ []) := Lib.hid fun e => HNE.out ⟨rfl, e⟩
                        have HXB : Hid (xt.length + et.length ≤ 8000) := Lib.hid (by
                          have hm : (⟨3, xn, xa, xv, xt⟩ : TokE) ∈ G1 := by rw [← HKE.out HK0.out, HEE.out]; simp
                          have h1 := HX1.out _ hm
                          have h2 := HET.out
                          simp only at h1 h2
                          omega)
                        have hcln : ¬ 9223372036854775807 < xt.length + et.length := by have := HXB.out; omega
                        have hcat : str xt ++ str et = str (xt ++ et) := cat_strN _ _
                        have u3 := U3.out
                        have uf : wr.frozen? ⟨bE, M * 4 + 3, none⟩ = false := UF.out _
                        have hcl : xt.length + et.length ≤ 9223372036854775807 := by have := HXB.out; omega
                        go_wp2_with fail
                        refine up_start (fun k => k = 0 ∨ 0 ≤ k) (by kernel_rfl) ?_
                        refine up_take (by exact at0) (by kernel_rfl) (by exact fun _ _ _ h => h) (by rfl) (by intro W hW; go_simp; try with_reducible rfl) ?_
                        simp only [Act.put, List.setIfInBounds_toArray, List.set_cons_zero, List.set_cons_succ]
                        refine up_take (by exact (atS at0)) (by kernel_rfl) (by exact fun _ _ _ h => h) (by rfl) (by intro W hW; go_simp; try with_reducible rfl) ?_
                        simp only [Act.put, List.setIfInBounds_toArray, List.set_cons_zero, List.set_cons_succ]
                        refine up_take (by exact (atS (atS at0))) (by kernel_rfl) (by exact fun _ _ _ h => h) (by rfl) (by intro W hW; go_simp; try with_reducible rfl) ?_
                        simp only [Act.put, List.setIfInBounds_toArray, List.set_cons_zero, List.set_cons_succ]
                        refine up_take (by exact (atS (atS (atS at0)))) (by kernel_rfl) (by exact fun _ _ _ h => h) (by rfl) (by intro W hW; go_simp; try with_reducible rfl) ?_
                        simp only [Act.put, List.setIfInBounds_toArray, List.set_cons_zero, List.set_cons_succ]
                        refine up_take (by exact (atS (atS (atS (atS at0))))) (by kernel_rfl) (by exact fun _ _ _ h => h) (by rfl) (by intro W hW; go_simp; try with_reducible rfl) ?_
                        simp only [Act.put, List.setIfInBounds_toArray, List.set_cons_zero, List.set_cons_succ]
                        refine up_take (by exact (atS (atS (atS (atS (atS at0)))))) (by kernel_rfl) (by exact fun _ _ _ h => h) (by rfl) (by intro W hW; go_simp; try with_reducible rfl) ?_
                        simp only [Act.put, List.setIfInBounds_toArray, List.set_cons_zero, List.set_cons_succ]
                        refine up_take (by exact (atS (atS (atS (atS (atS (atS at0))))))) (by kernel_rfl) (by exact fun _ _ _ h => h) (by rfl) (by intro W hW; go_simp; try with_reducible rfl) ?_
                        simp only [Act.put, List.setIfInBounds_toArray, List.set_cons_zero, List.set_cons_succ]
                        refine up_take (by exact (atS (atS (atS (atS (atS (atS (atS at0)))))))) (by kernel_rfl) (by exact fun _ _ _ h => h) (by rfl) (by intro W hW; go_simp; try with_reducible rfl) ?_
                        simp only [Act.put, List.setIfInBounds_toArray, List.set_cons_zero, List.set_cons_succ]
                        refine up_take (by exact (atS (atS (atS (atS (atS (atS (atS (atS (atS at0)))))))))) (by kernel_rfl) (by exact fun _ _ _ h => h) (by rfl) (by intro W hW; go_simp; try with_reducible rfl) ?_
                        simp only [Act.put, List.setIfInBounds_toArray, List.set_cons_zero, List.set_cons_succ]
                        refine up_take (by exact (atS (atS (atS (atS (atS (atS (atS (atS (atS (atS at0))))))))))) (by kernel_rfl) (by exact fun _ _ _ h => h) (by rfl) (by intro W hW; go_simp; try with_reducible rfl) ?_
                        simp only [Act.put, List.setIfInBounds_toArray, List.set_cons_zero, List.set_cons_succ]
                        refine up_take (by exact (atS (atS (atS (atS (atS (atS (atS (atS (atS (atS (atS at0)))))))))))) (by kernel_rfl) (by exact fun _ _ _ h => h) (by rfl) (by intro W hW; go_simp; try with_reducible rfl) ?_
                        simp only [Act.put, List.setIfInBounds_toArray, List.set_cons_zero, List.set_cons_succ]
                        refine up_two (by exact (atS (atS (atS (atS (atS (atS (atS (atS at0))))))))) (by exact (atS (atS (atS (atS (atS (atS (atS (atS (atS (atS (atS (atS at0))))))))))))) (by kernel_rfl) (fun K hK => ?_) (fun K hK => ?_)
                        · go_simp
                          refine hK.out _ _ (Kept.refl _ _) ?_
                          clear hK K
                          refine up_one (by exact (atS (atS (atS (atS (atS (atS (atS (atS (atS (atS (atS (atS at0))))))))))))) (by kernel_rfl) (fun K hK => ?_)
                          go_simp
                          refine hK.out _ _ (Kept.refl _ _) ?_
                          clear hK K
                          refine up_take (by exact (atS (atS (atS (atS (atS (atS (atS (atS (atS (atS (atS (atS (atS at0)))))))))))))) (by kernel_rfl) (by exact fun _ _ _ h => h) (by rfl) (by intro W hW; go_simp; try with_reducible rfl) ?_
                          simp only [Act.put, List.setIfInBounds_toArray, List.set_cons_zero, List.set_cons_succ]
                          refine up_take (by exact (atS (atS (atS (atS (atS (atS (atS (atS (atS (atS (atS (atS (atS (atS at0))))))))))))))) (by kernel_rfl) (by exact fun _ _ _ h => h) (by rfl) (by intro W hW; go_simp; try with_reducible rfl) ?_
                          simp only [Act.put, List.setIfInBounds_toArray, List.set_cons_zero, List.set_cons_succ]
                          refine up_take (by exact (atS (atS (atS (atS (atS (atS (atS (atS (atS (atS (atS (atS (atS (atS (atS at0)))))))))))))))) (by kernel_rfl) (by exact fun _ _ _ h => h) (by rfl) (by intro W hW; go_simp; try with_reducible rfl) ?_
                          simp only [Act.put, List.setIfInBounds_toArray, List.set_cons_zero, List.set_cons_succ]
                          refine up_one (by exact (atS (atS (atS (atS (atS (atS (atS (atS (atS (atS (atS (atS (atS (atS (atS (atS at0))))))))))))))))) (by kernel_rfl) (fun K hK => ?_)
                          go_simp
                          refine hK.out _ _ (Kept.grown (grown_set _ bE _ _) (fun k _ => .inr (Nat.zero_le k))) ?_
                          clear hK K
                          refine up_done (by kernel_rfl) ?_
                          go_wp2_with fail
                          have HJ := Lib.hid (no_join (tx := xt ++ et) (by have h := HOW.out; rw [HEE.out] at h; exact h) (by rw [HN.out, HEE.out]) (by have h := HSA.out; rw [HEE.out] at h; exact h) HBk.out)
                          rw [← HM.out] at HJ
                          go_roundw
                          case rel =>
                            refine ⟨k + 1, P ++ [(⟨3, xn, xa, xv, xt ++ et⟩ : TokE)], HKL.out, by go_num, ?_, ?_, ?_, ?_, ?_, ?_⟩
                            · rw [HG0.out, HEE.out, List.map_append, List.map_append]; exact (addV_join (P := P.map TokE.tk) (x := TokE.tk ⟨3, xn, xa, xv, xt⟩) (t := TokE.tk ⟨3, en, ea, ev, et⟩) rfl HT0.out rfl).symm
                            · exact HJ.out.1
                            · exact HJ.out.2.1
                            · exact drewb2 HJ.out.2.2
                            · have h := HLEN.out; rw [HEE.out] at h; simp only [List.length_append, List.length_singleton] at h ⊢; omega
                            · exact fun h => by omega
                          case measure => have := HKL.out; simp [intOf]; omega
                        · go_simp
                          refine hK.out _ _ (Kept.refl _ _) ?_
                          clear hK K
                          refine up_one (by exact (atS (atS (atS (atS (atS (atS (atS (atS at0))))))))) (by kernel_rfl) (fun K hK => ?_)
                          go_simp
                          refine hK.out _ _ (Kept.refl _ _) ?_
                          clear hK K
                          refine up_take (by exact (atS (atS (atS (atS (atS (atS (atS (atS (atS (atS (atS (atS (atS at0)))))))))))))) (by kernel_rfl) (by exact fun _ _ _ h => h) (by rfl) (by intro W hW; go_simp; try with_reducible rfl) ?_
                          simp only [Act.put, List.setIfInBounds_toArray, List.set_cons_zero, List.set_cons_succ]
                          refine up_take (by exact (atS (atS (atS (atS (atS (atS (atS (atS (atS (atS (atS (atS (atS (atS at0))))))))))))))) (by kernel_rfl) (by exact fun _ _ _ h => h) (by rfl) (by intro W hW; go_simp; try with_reducible rfl) ?_
                          simp only [Act.put, List.setIfInBounds_toArray, List.set_cons_zero, List.set_cons_succ]
                          refine up_take (by exact (atS (atS (atS (atS (atS (atS (atS (atS (atS (atS (atS (atS (atS (atS (atS at0)))))))))))))))) (by kernel_rfl) (by exact fun _ _ _ h => h) (by rfl) (by intro W hW; go_simp; try with_reducible rfl) ?_
                          simp only [Act.put, List.setIfInBounds_toArray, List.set_cons_zero, List.set_cons_succ]
                          refine up_one (by exact (atS (atS (atS (atS (atS (atS (atS (atS (atS (atS (atS (atS (atS (atS (atS (atS at0))))))))))))))))) (by kernel_rfl) (fun K hK => ?_)
                          go_simp
                          refine hK.out _ _ (Kept.grown (grown_set _ bE _ _) (fun k _ => .inr (Nat.zero_le k))) ?_
                          clear hK K
                          refine up_done (by kernel_rfl) ?_
                          go_wp2_with fail
                          have HJ := Lib.hid (no_join (tx := xt ++ et) (by have h := HOW.out; rw [HEE.out] at h; exact h) (by rw [HN.out, HEE.out]) (by have h := HSA.out; rw [HEE.out] at h; exact h) HBk.out)
                          rw [← HM.out] at HJ
                          go_roundw
                          case rel =>
                            refine ⟨k + 1, P ++ [(⟨3, xn, xa, xv, xt ++ et⟩ : TokE)], HKL.out, by go_num, ?_, ?_, ?_, ?_, ?_, ?_⟩
                            · rw [HG0.out, HEE.out, List.map_append, List.map_append]; exact (addV_join (P := P.map TokE.tk) (x := TokE.tk ⟨3, xn, xa, xv, xt⟩) (t := TokE.tk ⟨3, en, ea, ev, et⟩) rfl HT0.out rfl).symm
                            · exact HJ.out.1
                            · exact HJ.out.2.1
                            · exact drewb2 HJ.out.2.2
                            · have h := HLEN.out; rw [HEE.out] at h; simp only [List.length_append, List.length_singleton] at h ⊢; omega
                            · exact fun h => by omega
                          case measure => have := HKL.out; simp [intOf]; omega
                      · have h3e : (ek == 3) = false := by simpa using h3
                        have h3d : decide (ek = 3) = false := decide_eq_false h3
                        have H3 := Lib.hid h3
                        clear h3
                        have y0 : wr.cell? ⟨bY, k * 4, none⟩ = some (.int .i64 ek) := YC.out.1
                        have y1 : wr.cell? ⟨bY, k * 4 + 1, none⟩ = some (.string (str en)) := YC.out.2.1
                        have y2 : wr.cell? ⟨bY, k * 4 + 2, none⟩ = some ev := YC.out.2.2.1
                        have y3 : wr.cell? ⟨bY, k * 4 + 3, none⟩ = some (.string (str et)) := YC.out.2.2.2
                        go_wp2_with (at_builtin; go_must (refine wpList_append_w _ (by rfl) (.tmp 150) (.tmp 155) 23 (by rfl) w5.heap.size 36 (.agg #[.int .i64 0, .string ⟨#[]⟩, .slice none 0 0, .string ⟨#[]⟩]) 4 64 Tryd.underlying23 Tryd.tokinfo (by rfl) (by decide) _ _ _ (by rfl) (by exact AR4.out) _ _ _ (by rfl) (by exact tok_one BF4.out) (by simp [Value.oneCell'] <;> exact HEV.out) (by have := HNB.out; unfold maxLen; omega) (by have := HNB.out; omega) (by exact Nat.le_trans HBk.out.size HB4.out.size) ?_); intro v8 w8 o8 g8 a8; have O8 := Lib.hid o8; have G8 := Lib.hid g8; clear o8 g8 a8 y0 y1 y2 y3)
                        have HPU := Lib.hid (no_push (w := w5) (e := ⟨ek, en, ea, ev, et⟩) HB4.out AR5.out HSA.out HEA.out HBk.out (by have h := O8.out; rw [HN.out] at h; exact h) ⟨G8.out.os, G8.out.tape, G8.out.output, G8.out.size, G8.out.block⟩)
                        go_roundw
                        case rel => exact ⟨k + 1, E ++ [⟨ek, en, ea, ev, et⟩], HKL.out, by go_num, by rw [HG0.out, List.map_append]; exact (addV_tag (t := TokE.tk ⟨ek, en, ea, ev, et⟩) H3.out).symm, HPU.out.1, HPU.out.2.1, HPU.out.2.2, by rw [List.length_append, List.length_singleton]; have := HLEN.out; omega, fun h => by omega⟩
                        case measure => have := HKL.out; simp [intOf]; omega
                    · have hxe : (xk == 3) = false := by simpa using hx3
                      have hxd : decide (xk = 3) = false := decide_eq_false hx3
                      have HX3 := Lib.hid hx3
                      clear hx3
                      have y0 : wr.cell? ⟨bY, k * 4, none⟩ = some (.int .i64 ek) := YC.out.1
                      have y1 : wr.cell? ⟨bY, k * 4 + 1, none⟩ = some (.string (str en)) := YC.out.2.1
                      have y2 : wr.cell? ⟨bY, k * 4 + 2, none⟩ = some ev := YC.out.2.2.1
                      have y3 : wr.cell? ⟨bY, k * 4 + 3, none⟩ = some (.string (str et)) := YC.out.2.2.2
                      go_wp2_with (at_builtin; go_must (refine wpList_append_w _ (by rfl) (.tmp 150) (.tmp 155) 23 (by rfl) w5.heap.size 36 (.agg #[.int .i64 0, .string ⟨#[]⟩, .slice none 0 0, .string ⟨#[]⟩]) 4 64 Tryd.underlying23 Tryd.tokinfo (by rfl) (by decide) _ _ _ (by rfl) (by exact AR4.out) _ _ _ (by rfl) (by exact tok_one BF4.out) (by simp [Value.oneCell'] <;> exact HEV.out) (by have := HNB.out; unfold maxLen; omega) (by have := HNB.out; omega) (by exact Nat.le_trans HBk.out.size HB4.out.size) ?_); intro v8 w8 o8 g8 a8; have O8 := Lib.hid o8; have G8 := Lib.hid g8; clear o8 g8 a8 y0 y1 y2 y3)
                      have HPU := Lib.hid (no_push (w := w5) (e := ⟨ek, en, ea, ev, et⟩) HB4.out AR5.out HSA.out HEA.out HBk.out (by have h := O8.out; rw [HN.out] at h; exact h) ⟨G8.out.os, G8.out.tape, G8.out.output, G8.out.size, G8.out.block⟩)
                      go_roundw
                      case rel => exact ⟨k + 1, E ++ [⟨ek, en, ea, ev, et⟩], HKL.out, by go_num, by rw [HG0.out, HEE.out]; simp only [List.map_append]; by_cases h3 : ek = 3; exact (addV_behind (P := P.map TokE.tk) (x := TokE.tk ⟨xk, xn, xa, xv, xt⟩) (t := TokE.tk ⟨ek, en, ea, ev, et⟩) (fun h => HNE.out ⟨h3, h⟩) HX3.out).symm; exact (addV_tag (t := TokE.tk ⟨ek, en, ea, ev, et⟩) h3).symm, HPU.out.1, HPU.out.2.1, HPU.out.2.2, by rw [List.length_append, List.length_singleton]; have := HLEN.out; omega, fun h => by omega⟩
                      case measure => have := HKL.out; simp [intOf]; omega
                · have k1 : ((k : Int) == 0) = false := by simpa using hk0
                  have k2 : decide ((k : Int) = 0) = false := decide_eq_false (by omega)
                  have HGN : Hid (glueV (G1.map TokE.tk) ((G2.take (k + 1)).map TokE.tk) = E.map TokE.tk ++ [TokE.tk ⟨ek, en, ea, ev, et⟩]) := Lib.hid (by
                    rw [HTKE.out, HMP.out]
                    refine glue_more _ _ _ fun h => hk0 ?_
                    have h1 := congrArg List.length h
                    rw [List.length_map, List.length_take, List.length_nil] at h1
                    have := HKL.out
                    omega)
                  clear hk0
                  have y0 : wr.cell? ⟨bY, k * 4, none⟩ = some (.int .i64 ek) := YC.out.1
                  have y1 : wr.cell? ⟨bY, k * 4 + 1, none⟩ = some (.string (str en)) := YC.out.2.1
                  have y2 : wr.cell? ⟨bY, k * 4 + 2, none⟩ = some ev := YC.out.2.2.1
                  have y3 : wr.cell? ⟨bY, k * 4 + 3, none⟩ = some (.string (str et)) := YC.out.2.2.2
                  go_wp2_with (at_builtin; go_must (refine wpList_append_w _ (by rfl) (.tmp 150) (.tmp 155) 23 (by rfl) w5.heap.size 36 (.agg #[.int .i64 0, .string ⟨#[]⟩, .slice none 0 0, .string ⟨#[]⟩]) 4 64 Tryd.underlying23 Tryd.tokinfo (by rfl) (by decide) _ _ _ (by rfl) (by exact AR4.out) _ _ _ (by rfl) (by exact tok_one BF4.out) (by simp [Value.oneCell'] <;> exact HEV.out) (by have := HNB.out; unfold maxLen; omega) (by have := HNB.out; omega) (by exact Nat.le_trans HBk.out.size HB4.out.size) ?_); intro v8 w8 o8 g8 a8; have O8 := Lib.hid o8; have G8 := Lib.hid g8; clear o8 g8 a8 y0 y1 y2 y3)
                  have HPU := Lib.hid (no_push (w := w5) (e := ⟨ek, en, ea, ev, et⟩) HB4.out AR5.out HSA.out HEA.out HBk.out (by have h := O8.out; rw [HN.out] at h; exact h) ⟨G8.out.os, G8.out.tape, G8.out.output, G8.out.size, G8.out.block⟩)
                  go_roundw
                  case rel => exact ⟨k + 1, E ++ [⟨ek, en, ea, ev, et⟩], HKL.out, by go_num, by rw [HGN.out, List.map_append]; rfl, HPU.out.1, HPU.out.2.1, HPU.out.2.2, by rw [List.length_append, List.length_singleton]; have := HLEN.out; omega, fun h => by omega⟩
                  case measure => have := HKL.out; simp [intOf]; omega
              · have hkI : ¬ (k : Int) < (N2 : Int) := by omega
                have HFE : Hid (E.map TokE.tk = glueV TA TB) := Lib.hid (by rw [HMP.out, List.take_of_length_le (by have := HN2.out; omega), HG1.out, HG2.out])
                have HSE := Lib.hid (srcT_own HOW.out HSA.out HBk.out)
                have HS3 := Lib.hid ((srcT_row R35.out).below HBk.out)
                have HS4 := Lib.hid ((srcT_row R45.out).below HBk.out)
                have HBW := Lib.hid (below_then B5.out HBk.out)
                have HSM3 := Lib.hid (small_of HTP.out HG3.out)
                have HSM4 := Lib.hid (small_of HTP.out HG4.out)
                go_wp2_with (first
                  | (go_at_call 10; have q := MS1.out; clear q; have ks := rsame_any (HS4.out.below (below_drewN (Below.refl _ _) m1)) (HSE.out.below (below_drewN (Below.refl _ _) m1)) HSM4.out.1 HSM4.out.2; rw [HG4.out, HFE.out, decide_eq_true rfl] at ks; refine ks.mono ?_; rintro e wS ⟨rfl, m2, rfl⟩; clear ks)
                  | (go_at_call 10; have ks := rsame_any HS3.out HSE.out HSM3.out.1 HSM3.out.2; rw [HG3.out, HFE.out, decide_eq_true rfl] at ks; refine ks.mono ?_; rintro e wS ⟨rfl, m1, rfl⟩; have MS1 : Hid True := Lib.hid trivial; clear ks))
                go_ret
                exact ⟨rfl, below_drewN HBW.out _⟩
          · have eb1 : (eb == 0) = false := by simpa using heb
            have eb2 : (eb != 0) = true := by simpa using heb
            have eb3 : decide (eb = 0) = false := decide_eq_false heb
            clear heb ha hb hi
            obtain ⟨⟨TP, np, ep⟩, hxp⟩ : ∃ x, x = tokX p4 := ⟨_, rfl⟩
            obtain ⟨⟨TQ, nq, eq⟩, hxq⟩ : ∃ x, x = tokX q4 := ⟨_, rfl⟩
            have HXP := Lib.hid hxp
            have HXQ := Lib.hid hxq
            clear hxp hxq
            go_wp2_with (first
              | (go_at_call 8; have q := MT3.out; clear q; have k := tokens_any q4 w3 HLQ.out (HS.out.below B3.out) (HM.out.below B3.out); unfold ToksAns at k; rw [← HXQ.out] at k; refine k.mono ?_; rintro e w4 ⟨v4, G4, rfl, b, g, r⟩; have B4 := Lib.hid (below_then B3.out b); have R14 := Lib.hid (R13.out.below b); have R24 := Lib.hid (R23.out.below b); have R34 := Lib.hid (R33.out.below b); have R44 := Lib.hid r; have HG4 := Lib.hid g; have MT4 : Hid True := Lib.hid trivial; clear k b r g)
              | (go_at_call 8; have q := MT2.out; clear q; have k := tokens_any p4 w2 HLP.out (HS.out.below B2.out) (HM.out.below B2.out); unfold ToksAns at k; rw [← HXP.out] at k; refine k.mono ?_; rintro e w3 ⟨v3, G3, rfl, b, g, r⟩; have B3 := Lib.hid (below_then B2.out b); have R13 := Lib.hid (R12.out.below b); have R23 := Lib.hid (R22.out.below b); have R33 := Lib.hid r; have HG3 := Lib.hid g; have MT3 : Hid True := Lib.hid trivial; clear k b r g)
              | (go_at_call 8; have q := MT1.out; clear q; have k := tokens_any b w1 HLB.out (HS.out.below B1.out) (HM.out.below B1.out); unfold ToksAns at k; rw [← HXB.out] at k; refine k.mono ?_; rintro e w2 ⟨v2, G2, rfl, b, g, r⟩; have B2 := Lib.hid (below_then B1.out b); have R12 := Lib.hid (R11.out.below b); have R22 := Lib.hid r; have HG2 := Lib.hid g; have MT2 : Hid True := Lib.hid trivial; obtain ⟨A2, c2, hv, z⟩ := ownsRow_shape r.1; have Z2 := Lib.hid z; clear z; obtain ⟨N2, hN⟩ : ∃ N, N = G2.length := ⟨_, rfl⟩; rw [← hN] at hv; have HN2 := Lib.hid hN; clear hN k b r g; subst hv)
              | (go_at_call 8; have k := tokens_any a w HLA.out HS.out HM.out; unfold ToksAns at k; rw [← HXA.out] at k; refine k.mono ?_; rintro e w1 ⟨v1, G1, rfl, b, g, r⟩; have B1 := Lib.hid b; have R11 := Lib.hid r; have HG1 := Lib.hid g; have MT1 : Hid True := Lib.hid trivial; obtain ⟨A1, c1, hv, z⟩ := ownsRow_shape r.1; have Z1 := Lib.hid z; clear z; obtain ⟨N1, hN⟩ : ∃ N, N = G1.length := ⟨_, rfl⟩; rw [← hN] at hv; have HN1 := Lib.hid hN; clear hN k b r g; subst hv)
              | (go_at_call 7; have q := MT5.out; clear q; refine (lives_any _ (HS.out.below B5.out) (HM.out.below B5.out)).mono ?_; rintro e w6 ⟨rfl, b⟩; have B6 := Lib.hid (below_then B5.out b); clear b)
              | (go_at_call 7; have q := MT4.out; clear q; refine (lives_any _ (HS.out.below B4.out) (HM.out.below B4.out)).mono ?_; rintro e w5 ⟨rfl, b⟩; have B5 := Lib.hid (below_then B4.out b); have MT5 : Hid True := Lib.hid trivial; clear b))
            go_ret
            exact ⟨rfl, B6.out⟩
        · have ea1 : (ea == 0) = false := by simpa using hea
          have ea2 : (ea != 0) = true := by simpa using hea
          have ea3 : decide (ea = 0) = false := decide_eq_false hea
          clear hea ha hb hi
          obtain ⟨⟨TP, np, ep⟩, hxp⟩ : ∃ x, x = tokX p4 := ⟨_, rfl⟩
          obtain ⟨⟨TQ, nq, eq⟩, hxq⟩ : ∃ x, x = tokX q4 := ⟨_, rfl⟩
          have HXP := Lib.hid hxp
          have HXQ := Lib.hid hxq
          clear hxp hxq
          go_wp2_with (first
            | (go_at_call 8; have q := MT3.out; clear q; have k := tokens_any q4 w3 HLQ.out (HS.out.below B3.out) (HM.out.below B3.out); unfold ToksAns at k; rw [← HXQ.out] at k; refine k.mono ?_; rintro e w4 ⟨v4, G4, rfl, b, g, r⟩; have B4 := Lib.hid (below_then B3.out b); have R14 := Lib.hid (R13.out.below b); have R24 := Lib.hid (R23.out.below b); have R34 := Lib.hid (R33.out.below b); have R44 := Lib.hid r; have HG4 := Lib.hid g; have MT4 : Hid True := Lib.hid trivial; clear k b r g)
            | (go_at_call 8; have q := MT2.out; clear q; have k := tokens_any p4 w2 HLP.out (HS.out.below B2.out) (HM.out.below B2.out); unfold ToksAns at k; rw [← HXP.out] at k; refine k.mono ?_; rintro e w3 ⟨v3, G3, rfl, b, g, r⟩; have B3 := Lib.hid (below_then B2.out b); have R13 := Lib.hid (R12.out.below b); have R23 := Lib.hid (R22.out.below b); have R33 := Lib.hid r; have HG3 := Lib.hid g; have MT3 : Hid True := Lib.hid trivial; clear k b r g)
            | (go_at_call 8; have q := MT1.out; clear q; have k := tokens_any b w1 HLB.out (HS.out.below B1.out) (HM.out.below B1.out); unfold ToksAns at k; rw [← HXB.out] at k; refine k.mono ?_; rintro e w2 ⟨v2, G2, rfl, b, g, r⟩; have B2 := Lib.hid (below_then B1.out b); have R12 := Lib.hid (R11.out.below b); have R22 := Lib.hid r; have HG2 := Lib.hid g; have MT2 : Hid True := Lib.hid trivial; obtain ⟨A2, c2, hv, z⟩ := ownsRow_shape r.1; have Z2 := Lib.hid z; clear z; obtain ⟨N2, hN⟩ : ∃ N, N = G2.length := ⟨_, rfl⟩; rw [← hN] at hv; have HN2 := Lib.hid hN; clear hN k b r g; subst hv)
            | (go_at_call 8; have k := tokens_any a w HLA.out HS.out HM.out; unfold ToksAns at k; rw [← HXA.out] at k; refine k.mono ?_; rintro e w1 ⟨v1, G1, rfl, b, g, r⟩; have B1 := Lib.hid b; have R11 := Lib.hid r; have HG1 := Lib.hid g; have MT1 : Hid True := Lib.hid trivial; obtain ⟨A1, c1, hv, z⟩ := ownsRow_shape r.1; have Z1 := Lib.hid z; clear z; obtain ⟨N1, hN⟩ : ∃ N, N = G1.length := ⟨_, rfl⟩; rw [← hN] at hv; have HN1 := Lib.hid hN; clear hN k b r g; subst hv)
            | (go_at_call 7; have q := MT5.out; clear q; refine (lives_any _ (HS.out.below B5.out) (HM.out.below B5.out)).mono ?_; rintro e w6 ⟨rfl, b⟩; have B6 := Lib.hid (below_then B5.out b); clear b)
            | (go_at_call 7; have q := MT4.out; clear q; refine (lives_any _ (HS.out.below B4.out) (HM.out.below B4.out)).mono ?_; rintro e w5 ⟨rfl, b⟩; have B5 := Lib.hid (below_then B4.out b); have MT5 : Hid True := Lib.hid trivial; clear b))
          go_ret
          exact ⟨rfl, B6.out⟩
end Go.Proofs.YtelhdkidnhfnbaaDoor
