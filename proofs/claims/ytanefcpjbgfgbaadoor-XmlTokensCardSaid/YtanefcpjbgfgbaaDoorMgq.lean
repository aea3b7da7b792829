/-
  What must come of every program (lives of newsstandlaw08), in plain words. No condition; no run.
-/
import Derived.Test.YtanefcpjbgfgbaaDoorXWrite
namespace Go.Proofs.YtanefcpjbgfgbaaDoor

/-- <a b="1">x<!-- -->y<c/></a> -/
def liv1 : List UInt8 := [60, 97, 32, 98, 61, 34, 49, 34, 62, 120, 60, 33, 45, 45, 32, 45, 45, 62, 121, 60, 99, 47, 62, 60, 47, 97, 62]
/-- <a></b><c d> -/
def liv2 : List UInt8 := [60, 97, 62, 60, 47, 98, 62, 60, 99, 32, 100, 62]
def livT : List Tk := [⟨1, [97], [([98], [49])], []⟩, ⟨3, [], [], [120, 121]⟩, ⟨1, [99], [], []⟩, ⟨2, [99], [], []⟩, ⟨2, [97], [], []⟩]
/-- <a b="1">xy<c></c></a> -/
def liv3 : List UInt8 := [60, 97, 32, 98, 61, 34, 49, 34, 62, 120, 121, 60, 99, 62, 60, 47, 99, 62, 60, 47, 97, 62]
theorem liv1_is : tokX liv1 = (livT, 27, 0) := by kernel_rfl
theorem liv2_is : tokX liv2 = ([], 7, 80) := by kernel_rfl
theorem liv3_is : wriF 0 [] livT = (liv3, 0) := by kernel_rfl
theorem liv4_is : wriF 0 [] [⟨0, [], [], []⟩] = ([], 1) := by kernel_rfl
theorem liv5_is : nameX [120, 58, 121] = true := by kernel_rfl
theorem liv6_is : nameX [49, 120] = false := by kernel_rfl
end Go.Proofs.YtanefcpjbgfgbaaDoor

/-
  lives of newsstandlaw08: it answers true. Conditions: the table of signs and the library's MaxLen lie in memory.
-/
namespace Go.Proofs.YtanefcpjbgfgbaaDoor
open Go.RowKit

def livW (b : Nat) : List TokE := [⟨1, [97], [([98], [49])], .slice (some ⟨b, 0, none⟩) 1 1, []⟩, ⟨3, [], [], .slice none 0 0, [120, 121]⟩, ⟨1, [99], [], .slice none 0 0, []⟩, ⟨2, [99], [], .slice none 0 0, []⟩, ⟨2, [97], [], .slice none 0 0, []⟩]
def livC (b : Nat) : Array Value := #[.int .i64 1, .string ⟨#[97]⟩, .slice (some ⟨b, 0, none⟩) 1 1, .string ⟨#[]⟩, .int .i64 3, .string ⟨#[]⟩, .slice none 0 0, .string ⟨#[120, 121]⟩, .int .i64 1, .string ⟨#[99]⟩, .slice none 0 0, .string ⟨#[]⟩, .int .i64 2, .string ⟨#[99]⟩, .slice none 0 0, .string ⟨#[]⟩, .int .i64 2, .string ⟨#[97]⟩, .slice none 0 0, .string ⟨#[]⟩]
theorem liv_row {w : World} {b q base : Nat} (h1 : Blk w b 39 #[.string ⟨#[98]⟩, .string ⟨#[49]⟩]) (h2 : Blk w q 36 (livC b)) (hb : base ≤ b) (hq : base ≤ q) : TokRow w base (.slice (some ⟨q, 0, none⟩) 5 5) (livW b) := by
  refine ⟨row_of_blk h2 rfl hq (by unfold maxLen; omega), fun e he => ?_⟩
  have h9 : AttrRow w base ⟨1, [97], [([98], [49])], .slice (some ⟨b, 0, none⟩) 1 1, []⟩ := row_of_blk h1 rfl hb (by unfold maxLen; omega)
  unfold livW at he
  simp only [List.mem_cons, List.not_mem_nil, or_false] at he
  rcases he with rfl | rfl | rfl | rfl | rfl
  · exact h9
  · exact World.ownsRow_nil _ _ _ _
  · exact World.ownsRow_nil _ _ _ _
  · exact World.ownsRow_nil _ _ _ _
  · exact World.ownsRow_nil _ _ _ _
theorem livW_tk (b : Nat) : (livW b).map TokE.tk = livT := rfl
theorem livW_len (b : Nat) : ∀ e ∈ livW b, LenT e := by
  intro e he
  unfold livW at he
  simp only [List.mem_cons, List.not_mem_nil, or_false] at he
  rcases he with rfl | rfl | rfl | rfl | rfl <;> exact ⟨by simp, by simp, fun a ha => by simp at ha; try (subst ha; simp)⟩
theorem livW_attrs (b : Nat) : ∀ e ∈ livW b, e.attrs.length ≤ 1000000 := by
  intro e he
  unfold livW at he
  simp only [List.mem_cons, List.not_mem_nil, or_false] at he
  rcases he with rfl | rfl | rfl | rfl | rfl <;> simp
theorem map_len {G : List TokE} {n : Nat} (h : G.map TokE.tk = livT) (hn : 5 ≤ n) : G.length ≤ n ∧ ∀ e ∈ G, e.attrs.length ≤ n := by
  have h1 := congrArg List.length h
  rw [List.length_map] at h1
  refine ⟨by rw [h1]; exact hn, fun e he => ?_⟩
  have h2 : e.tk ∈ livT := by rw [← h]; exact List.mem_map_of_mem he
  have h3 : ∀ t ∈ livT, t.attrs.length ≤ 1 := by decide
  exact Nat.le_trans (h3 _ h2) (by omega)
set_option maxHeartbeats 12800000 in
set_option maxRecDepth 100000 in
theorem lives_any (w : World) (hS : Sig w) (hm : MaxAt w) : Calls Tryd.prog 7 #[] w (Made w (.bool true)) := by
  have HS := Lib.hid hS
  have HM := Lib.hid hm
  have K1 : Hid (Calls Tryd.prog 8 #[.string (str liv1)] w (fun e w' => ∃ v G, e = .returned (.tuple #[v, .int .i64 27, .int .i64 0]) ∧ Below w.heap.size w w' ∧ G.map TokE.tk = livT ∧ TokRow w' w.heap.size v G)) := Lib.hid (by
    have h := tokens_any liv1 w (by decide) hS hm
    unfold ToksAns at h
    rw [liv1_is] at h
    exact h)
  have K2 : Hid (∀ W, Below w.heap.size w W → Calls Tryd.prog 8 #[.string (str liv2)] W (fun e w' => ∃ v G, e = .returned (.tuple #[v, .int .i64 7, .int .i64 80]) ∧ Below W.heap.size W w' ∧ G.map TokE.tk = [] ∧ TokRow w' W.heap.size v G)) := Lib.hid fun W hW => by
    have h := tokens_any liv2 W (by decide) (hS.below hW) (hm.below hW)
    unfold ToksAns at h
    rw [liv2_is] at h
    exact h
  have KN1 : Hid (∀ W, Calls Tryd.prog 15 #[.string (str [120, 58, 121])] W (Made W (.bool true))) := Lib.hid fun W => by have h := xname_any [120, 58, 121] W; rw [liv5_is] at h; exact h
  have KN2 : Hid (∀ W, Calls Tryd.prog 15 #[.string (str [49, 120])] W (Made W (.bool false))) := Lib.hid fun W => by have h := xname_any [49, 120] W; rw [liv6_is] at h; exact h
  have hlit : (⟨⟨liv3⟩⟩ : ByteArray) = str liv3 := rfl
  clear hS hm
  go_enter Tryd.func7, Tryd.ntmps7
  go_wp2_with (first
    | (go_at_call 8; have m1 := HM1.out; clear m1; refine (K2.out w1 HB1.out).mono ?_; rintro e w2 ⟨v2, G2, rfl, b2, g2, r2⟩; have HB2 := Lib.hid (below_then HB1.out b2); have R12 := Lib.hid (R1.out.below b2); obtain ⟨A2, c2, hv2, z2⟩ := ownsRow_shape r2.1; subst hv2; have g2l := congrArg List.length g2; rw [List.length_map] at g2l; rw [show G2.length = 0 from g2l]; have hx1 : Below w2.heap.size w2 (w2.alloc (.cells #[.string ⟨#[98]⟩, .string ⟨#[49]⟩] 39)) := (Below.refl _ _).alloc (Nat.le_refl _) _; have hx2 : Below w2.heap.size w2 ((w2.alloc (.cells #[.string ⟨#[98]⟩, .string ⟨#[49]⟩] 39)).alloc (.cells (livC w2.heap.size) 36)) := hx1.alloc hx1.size _; have HX2 := Lib.hid (below_then HB2.out hx2); have RW2 : Hid (TokRow ((w2.alloc (.cells #[.string ⟨#[98]⟩, .string ⟨#[49]⟩] 39)).alloc (.cells (livC w2.heap.size) 36)) w2.heap.size (.slice (some ⟨w2.heap.size + 1, 0, none⟩) 5 5) (livW w2.heap.size)) := Lib.hid (liv_row ((Blk.fresh w2 39 #[.string ⟨#[98]⟩, .string ⟨#[49]⟩]).alloc _) (by have h := Blk.fresh (w2.alloc (.cells #[.string ⟨#[98]⟩, .string ⟨#[49]⟩] 39)) 36 (livC w2.heap.size); rw [show (w2.alloc (.cells #[.string ⟨#[98]⟩, .string ⟨#[49]⟩] 39)).heap.size = w2.heap.size + 1 by simp] at h; exact h) (Nat.le_refl _) (by omega)); have R1X := Lib.hid (R12.out.below hx2); clear hx1 hx2; clear b2 g2 r2 z2 g2l)
    | (go_at_call 8; refine K1.out.mono ?_; rintro e w1 ⟨v1, G1, rfl, b1, g1, r1⟩; have HB1 := Lib.hid b1; have HG1 := Lib.hid g1; have R1 := Lib.hid r1; have HM1 : Hid True := Lib.hid trivial; obtain ⟨A1, c1, hv1, z1⟩ := ownsRow_shape r1.1; subst hv1; have g1l := congrArg List.length g1; rw [List.length_map] at g1l; have g1m : G1.length = 5 := g1l; rw [g1m] at R1; rw [g1m]; clear b1 g1 r1 z1 g1l g1m)
    | (go_at_call 12; have m3 := HM3.out; clear m3; have hx3 : Below w3.heap.size w3 (w3.alloc (.cells #[.int .i64 0, .string ⟨#[]⟩, .slice none 0 0, .string ⟨#[]⟩] 36)) := (Below.refl _ _).alloc (Nat.le_refl _) _; have kw := xwrite_any (w := (w3.alloc (.cells #[.int .i64 0, .string ⟨#[]⟩, .slice none 0 0, .string ⟨#[]⟩] 36))) (srcT_row (tok_row1 (k := 0) (nm := []) (tx := []) (Blk.fresh w3 36 #[.int .i64 0, .string ⟨#[]⟩, .slice none 0 0, .string ⟨#[]⟩]) (Nat.le_refl _))) (by show 1 ≤ 400; omega) (fun e he => by rw [List.mem_singleton.1 he]; exact ⟨by simp, by simp, fun a ha => by cases ha⟩) (HS.out.below (below_then HB3.out hx3)); unfold XWAns at kw; rw [show ([(⟨0, [], [], .slice none 0 0, []⟩ : TokE)].map TokE.tk) = [⟨0, [], [], []⟩] from rfl, liv4_is] at kw; have kw2 : Calls Tryd.prog 12 #[.slice (some ⟨w3.heap.size, 0, none⟩) 1 1] (w3.alloc (.cells #[.int .i64 0, .string ⟨#[]⟩, .slice none 0 0, .string ⟨#[]⟩] 36)) (Made (w3.alloc (.cells #[.int .i64 0, .string ⟨#[]⟩, .slice none 0 0, .string ⟨#[]⟩] 36)) (.tuple #[.string ⟨#[]⟩, .int .i64 1])) := kw; refine kw2.mono ?_; rintro e w4 ⟨rfl, b4⟩; have HB4 := Lib.hid (below_then (below_then HB3.out hx3) b4); have RW4 := Lib.hid ((RW3.out.below hx3).below b4); have R14 := Lib.hid ((R13.out.below hx3).below b4); clear kw kw2 b4 hx3)
    | (go_at_call 12; have kw := xwrite_any (srcT_row RW2.out) (by show 5 ≤ 400; omega) (livW_len _) (HS.out.below HX2.out); unfold XWAns at kw; rw [livW_tk, liv3_is] at kw; have kw2 : Calls Tryd.prog 12 #[(.slice (some ⟨w2.heap.size + 1, 0, none⟩) 5 5)] ((w2.alloc (.cells #[.string ⟨#[98]⟩, .string ⟨#[49]⟩] 39)).alloc (.cells (livC w2.heap.size) 36)) (Made ((w2.alloc (.cells #[.string ⟨#[98]⟩, .string ⟨#[49]⟩] 39)).alloc (.cells (livC w2.heap.size) 36)) (.tuple #[.string ⟨#[60, 97, 32, 98, 61, 34, 49, 34, 62, 120, 121, 60, 99, 62, 60, 47, 99, 62, 60, 47, 97, 62]⟩, .int .i64 0])) := kw; refine kw2.mono ?_; rintro e w3 ⟨rfl, b3⟩; have HB3 := Lib.hid (below_then HX2.out b3); have RW3 := Lib.hid (RW2.out.below b3); have R13 := Lib.hid (R1X.out.below b3); have HM3 : Hid True := Lib.hid trivial; clear kw kw2 b3)
    | (go_at_call 10; have ks := rsame_any (srcT_row R14.out) (srcT_row RW4.out) (map_len HG1.out (by omega)).1 (map_len HG1.out (by omega)).2; rw [HG1.out, livW_tk, decide_eq_true rfl] at ks; refine ks.mono ?_; rintro e w5 ⟨rfl, q5, rfl⟩; have b5 : Below w4.heap.size w4 (w4.drewN q5) := below_drewN (Below.refl _ _) _; have HB5 := Lib.hid (below_then HB4.out b5); have RW5 := Lib.hid (RW4.out.below b5); have R15 := Lib.hid (R14.out.below b5); clear ks b5)
    | (go_at_call 15; have m6 := HM6.out; clear m6; refine (KN2.out _).mono ?_; rintro e w7 ⟨rfl, b7⟩; have HB7 := Lib.hid (below_then HB6.out b7); have RW7 := Lib.hid (RW6.out.below b7); have R17 := Lib.hid (R16.out.below b7); clear b7)
    | (go_at_call 15; refine (KN1.out _).mono ?_; rintro e w6 ⟨rfl, b6⟩; have HB6 := Lib.hid (below_then HB5.out b6); have RW6 := Lib.hid (RW5.out.below b6); have R16 := Lib.hid (R15.out.below b6); have HM6 : Hid True := Lib.hid trivial; clear b6)
    | (go_at_call 17; have kx := xsame_any (srcT_row R17.out) (srcT_row RW7.out) (map_len HG1.out (by omega)).1 (map_len HG1.out (by omega)).2; rw [HG1.out, livW_tk, decide_eq_true rfl] at kx; refine kx.mono ?_; rintro e w8 ⟨rfl, b8⟩; have HB8 := Lib.hid (below_then HB7.out b8); clear kx b8))
  go_ret
  exact ⟨rfl, HB8.out⟩
end Go.Proofs.YtanefcpjbgfgbaaDoor

/-
  XmlTokens's call: it answers true. Conditions: the table of signs is as the program's text lays it; the library's MaxLen is a number.
-/
namespace Go.Proofs.YtanefcpjbgfgbaaDoor
open Go.RowKit

def SmallT (T : List Tk) : Prop := T.length ≤ 1000000 ∧ ∀ t ∈ T, t.attrs.length ≤ 1000000
theorem opnF_small : ∀ (n : Nat) (l : List UInt8) (L : AttrL) (R : AttrL × List UInt8), opnF n l L = some R → R.1.length ≤ L.length + l.length
  | 0, l, L, R, h => by cases h
  | n + 1, l, L, R, h => by
    rw [opnF] at h
    split at h
    · split at h
      · rename_i h3
        have h1 := opnF_small n _ _ _ h
        have h2 := (attrX_yes h3).1
        have h4 := dropB_len l
        rw [List.length_append, List.length_singleton] at h1
        omega
      · cases h
    · injection h with h
      rw [← h]
      exact Nat.le_add_right _ _
theorem part_small {l r : List UInt8} {ts : List Tk} (h : partX l = some (ts, r)) : ∀ t ∈ ts, t.attrs.length ≤ l.length := by
  have nn : ∀ (k : Int) (nm tx : List UInt8) (t : Tk), t = ⟨k, nm, [], tx⟩ → t.attrs.length ≤ l.length := fun k nm tx t e => by rw [e]; exact Nat.zero_le _
  unfold partX at h
  intro t ht
  by_cases a1 : hasB l mk1 = true
  · rw [if_pos a1] at h
    cases hb : betwX l mk1 [45, 45, 62] with
    | none => rw [hb] at h; cases h
    | some q => rw [hb] at h; injection h with h; injection h with h _; rw [← h] at ht; cases ht
  rw [if_neg a1] at h
  by_cases a2 : hasB l mk2 = true
  · rw [if_pos a2] at h
    cases hb : betwX l mk2 [63, 62] with
    | none => rw [hb] at h; cases h
    | some q => rw [hb] at h; injection h with h; injection h with h _; rw [← h] at ht; cases ht
  rw [if_neg a2] at h
  by_cases a3 : hasB l mk3 = true
  · rw [if_pos a3] at h
    cases hb : betwX l mk3 [62] with
    | none => rw [hb] at h; cases h
    | some q =>
      rw [hb] at h
      simp only at h
      split at h
      · cases h
      · injection h with h; injection h with h _; rw [← h] at ht; cases ht
  rw [if_neg a3] at h
  by_cases a4 : hasB l mk4 = true
  · rw [if_pos a4] at h
    cases hb : betwX l mk4 [93, 93, 62] with
    | none => rw [hb] at h; cases h
    | some q => rw [hb] at h; injection h with h; injection h with h _; rw [← h] at ht; exact nn _ _ _ t (List.mem_singleton.1 ht)
  rw [if_neg a4] at h
  by_cases a5 : hasB l mk5 = true
  · rw [if_pos a5] at h
    split at h
    · injection h with h; injection h with h _; rw [← h] at ht; exact nn _ _ _ t (List.mem_singleton.1 ht)
    · cases h
  rw [if_neg a5] at h
  by_cases a6 : hasB l [60] = true
  · rw [if_pos a6] at h
    cases hb : opnX (l.drop 1) with
    | none => rw [hb] at h; cases h
    | some q =>
      obtain ⟨L, c, rest⟩ := q
      have hL : L.length ≤ l.length := by
        unfold opnX at hb
        cases ho : opnF ((tailX (l.drop 1)).length + 1) (tailX (l.drop 1)) [] with
        | none => rw [ho] at hb; cases hb
        | some R =>
          obtain ⟨M, d⟩ := R
          have h1 := opnF_small _ _ _ _ ho
          have h2 := tailX_len (l.drop 1)
          rw [List.length_drop] at h2
          rw [ho] at hb
          simp only at hb h1
          split at hb
          · injection hb with hb
            injection hb with hb _
            rw [← hb]
            simp only [List.length_nil] at h1
            omega
          · cases hb
      rw [hb] at h; injection h with h; injection h with h _; rw [← h] at ht
      unfold openT at ht
      rcases List.mem_cons.1 ht with e | ht
      · rw [e]; exact hL
      · split at ht
        · exact nn _ _ _ t (List.mem_singleton.1 ht)
        · cases ht
  · rw [if_neg a6] at h
    injection h with h; injection h with h _; rw [← h] at ht; exact nn _ _ _ t (List.mem_singleton.1 ht)
theorem allK_small {S : List Tk × List UInt8} {M : Nat} (h : ∀ t ∈ S.1, t.attrs.length ≤ M) : ∀ t ∈ allK S, t.attrs.length ≤ M := by
  intro t ht
  rcases List.mem_append.1 ht with ht | ht
  · exact h t ht
  · unfold textK at ht
    split at ht
    · cases ht
    · rw [List.mem_singleton.1 ht]; exact Nat.zero_le _
theorem addK_small {M : Nat} : ∀ (ts : List Tk) (S : List Tk × List UInt8), (∀ t ∈ S.1, t.attrs.length ≤ M) → (∀ t ∈ ts, t.attrs.length ≤ M) → ∀ t ∈ (ts.foldl addK S).1, t.attrs.length ≤ M
  | [], S, h, _ => h
  | x :: r, S, h, hx => by
    rw [List.foldl_cons]
    refine addK_small r _ (fun t ht => ?_) fun t ht => hx t (List.mem_cons_of_mem _ ht)
    unfold addK at ht
    split at ht
    · exact h t ht
    · rcases List.mem_append.1 ht with ht | ht
      · exact allK_small (S := S) h t ht
      · rw [List.mem_singleton.1 ht]; exact hx x List.mem_cons_self
theorem tokF_small : ∀ (n N : Nat) (l : List UInt8) (S : List Tk × List UInt8), l.length ≤ 1000000 → (∀ t ∈ S.1, t.attrs.length ≤ 1000000) → (allK S).length ≤ 8192 → SmallT (tokF n N l S).1
  | 0, _, _, _, _, _, _ => ⟨Nat.zero_le _, fun t ht => by cases ht⟩
  | n + 1, N, l, S, hl, hS, h8 => by
    rw [tokF]
    by_cases h0 : l = []
    · rw [if_pos h0]
      exact ⟨Nat.le_trans h8 (by decide), allK_small hS⟩
    · rw [if_neg h0]
      cases hp : partX l with
      | none => exact ⟨Nat.zero_le _, fun t ht => by cases ht⟩
      | some q =>
        obtain ⟨ts, r⟩ := q
        simp only
        split
        · exact ⟨Nat.zero_le _, fun t ht => by cases ht⟩
        · rename_i h9
          refine tokF_small n N r _ ?_ (addK_small ts S hS fun t ht => Nat.le_trans (part_small hp t ht) hl) (by omega)
          have := (prt_len hp h0 [] []).1
          omega
theorem toks_small (l : List UInt8) (hl : l.length ≤ 3000) : SmallT (tokX l).1 := by
  unfold tokX
  rw [if_neg (by omega)]
  exact tokF_small _ _ _ _ (by omega) (fun t ht => by cases ht) (by decide)
theorem small_of {G : List TokE} {T : List Tk} (h : SmallT T) (hg : G.map TokE.tk = T) : G.length ≤ 1000000 ∧ ∀ e ∈ G, e.attrs.length ≤ 1000000 := by
  subst hg
  refine ⟨by have := h.1; rw [List.length_map] at this; exact this, fun e he => h.2 e.tk (List.mem_map_of_mem he)⟩
set_option maxHeartbeats 6400000 in
set_option maxRecDepth 100000 in
theorem ltok_any (l : List UInt8) (w : World) (hS : Sig w) (hm : MaxAt w) : Calls Tryd.prog 3 #[.string (str l)] w (Made w (.bool true)) := by
  have HS := Lib.hid hS
  have HM := Lib.hid hm
  clear hS hm
  by_cases h1 : (3000 : Int) < (l.length : Int)
  · go_enter Tryd.func3, Tryd.ntmps3
    go_wp2_with (go_at_call 7; refine (lives_any _ HS.out HM.out).mono ?_; rintro e w1 ⟨rfl, b1⟩; have B1 := Lib.hid b1; clear b1)
    go_ret
    exact ⟨rfl, B1.out⟩
  · have h1' : decide ((3000 : Int) < (l.length : Int)) = false := decide_eq_false h1
    have HL : Hid (l.length ≤ 1000000000) := Lib.hid (by omega)
    have HT := Lib.hid (toks_small l (by omega))
    obtain ⟨⟨T, n, er⟩, hx⟩ : ∃ x, x = tokX l := ⟨_, rfl⟩
    have HX := Lib.hid hx
    clear h1 hx
    go_enter Tryd.func3, Tryd.ntmps3
    go_wp2_with (first
      | (go_at_call 8; have k := tokens_any l w HL.out HS.out HM.out; unfold ToksAns at k; rw [← HX.out] at k; refine k.mono ?_; rintro e w1 ⟨v1, G1, rfl, b1, g1, r1⟩; have B1 := Lib.hid b1; have R1 := Lib.hid r1; have HG1 := Lib.hid g1; clear k b1 r1 g1)
      | (go_at_call 9; have k := rtokens_any l w1 HL.out; unfold ToksAns at k; rw [← HX.out] at k; refine k.mono ?_; rintro e w2 ⟨v2, G2, rfl, b2, g2, r2⟩; have B2 := Lib.hid (below_then B1.out b2); have R12 := Lib.hid (R1.out.below b2); have R2 := Lib.hid r2; have HG2 := Lib.hid g2; clear k b2 r2 g2)
      | (go_at_call 7; refine (lives_any _ (HS.out.below B2.out) (HM.out.below B2.out)).mono ?_; rintro e w3 ⟨rfl, b3⟩; have B3 := Lib.hid (below_then B2.out b3); have R13 := Lib.hid (R12.out.below b3); have R23 := Lib.hid (R2.out.below b3); clear b3)
      | (go_at_call 10; have ks := rsame_any (srcT_row R13.out) (srcT_row R23.out) (small_of HT.out (HG1.out.trans (by rw [← HX.out]))).1 (small_of HT.out (HG1.out.trans (by rw [← HX.out]))).2; rw [HG1.out, HG2.out, decide_eq_true rfl] at ks; refine ks.mono ?_; rintro e w4 ⟨rfl, q4, rfl⟩; have B4 := Lib.hid (below_drewN B3.out q4); clear ks))
    go_ret
    exact ⟨rfl, B4.out⟩
end Go.Proofs.YtanefcpjbgfgbaaDoor
