/-
  What must come of every program (lives of newsstandlaw08), in plain words. No condition; no run.
-/
import Derived.Test.YtelhdkidnhfnbaaDoorXWrite
import Derived.Test.YtelhdkidnhfnbaaDoorMgD
import Derived.OpenShut
import Derived.Test.YtelhdkidnhfnbaaDoorXRSame
import Derived.ShutString
import Derived.ChangeOld
import Derived.Deep.Slices
import Derived.Deep.Fields
import Derived.ChangeSame
namespace Go.Proofs.YtelhdkidnhfnbaaDoor

/-- <a b="1">x<!-- -->y<c/></a> -/
def liv1 : List UInt8 := [60, 97, 32, 98, 61, 34, 49, 34, 62, 120, 60, 33, 45, 45, 32, 45, 45, 62, 121, 60, 99, 47, 62, 60, 47, 97, 62]
/-- <a></b><c d> -/
def liv2 : List UInt8 := [60, 97, 62, 60, 47, 98, 62, 60, 99, 32, 100, 62]
def livT : List Tk := [⟨1, [97], [([98], [49])], []⟩, ⟨3, [], [], [120, 121]⟩, ⟨1, [99], [], []⟩, ⟨2, [99], [], []⟩, ⟨2, [97], [], []⟩]
/-- <a b="1">xy<c></c></a> -/
def liv3 : List UInt8 := [60, 97, 32, 98, 61, 34, 49, 34, 62, 120, 121, 60, 99, 62, 60, 47, 99, 62, 60, 47, 97, 62]
theorem liv1_is : tokX liv1 = (livT, 27, 0) := by kernel_rfl
theorem liv2_is : tokX liv2 = ([], 7, 80) := by kernel_rfl
theorem liv3_is : wriF 0 [] livT = (liv3, 0) := by kernel_rfl
theorem liv4_is : wriF 0 [] [⟨0, [], [], []⟩] = ([], 1) := by kernel_rfl
theorem liv5_is : nameX [120, 58, 121] = true := by kernel_rfl
theorem liv6_is : nameX [49, 120] = false := by kernel_rfl
end Go.Proofs.YtelhdkidnhfnbaaDoor

/-
  lives of newsstandlaw08: it answers true. Conditions: the table of signs and the library's MaxLen lie in memory.
-/
namespace Go.Proofs.YtelhdkidnhfnbaaDoor
open Go.RowKit

def livW (b : Nat) : List TokE := [⟨1, [97], [([98], [49])], .slice (some ⟨b, 0, none⟩) 1 1, []⟩, ⟨3, [], [], .slice none 0 0, [120, 121]⟩, ⟨1, [99], [], .slice none 0 0, []⟩, ⟨2, [99], [], .slice none 0 0, []⟩, ⟨2, [97], [], .slice none 0 0, []⟩]
def livC (b : Nat) : Array Value := #[.int .i64 1, .string ⟨#[97]⟩, .slice (some ⟨b, 0, none⟩) 1 1, .string ⟨#[]⟩, .int .i64 3, .string ⟨#[]⟩, .slice none 0 0, .string ⟨#[120, 121]⟩, .int .i64 1, .string ⟨#[99]⟩, .slice none 0 0, .string ⟨#[]⟩, .int .i64 2, .string ⟨#[99]⟩, .slice none 0 0, .string ⟨#[]⟩, .int .i64 2, .string ⟨#[97]⟩, .slice none 0 0, .string ⟨#[]⟩]
theorem liv_row {w : World} {b q base : Nat} (h1 : Blk w b 39 #[.string ⟨#[98]⟩, .string ⟨#[49]⟩]) (h2 : Blk w q 36 (livC b)) (hb : base ≤ b) (hq : base ≤ q) : TokRow w base (.slice (some ⟨q, 0, none⟩) 5 5) (livW b) := by
  refine ⟨row_of_blk h2 rfl hq (by unfold maxLen; omega), fun e he => ?_⟩
  have h9 : AttrRow w base ⟨1, [97], [([98], [49])], .slice (some ⟨b, 0, none⟩) 1 1, []⟩ := row_of_blk h1 rfl hb (by unfold maxLen; omega)
  unfold livW at he
  simp only [List.mem_cons, List.not_mem_nil, or_false] at he
  rcases he with rfl | rfl | rfl | rfl | rfl
  · exact h9
  · exact World.ownsRow_nil _ _ _ _
  · exact World.ownsRow_nil _ _ _ _
  · exact World.ownsRow_nil _ _ _ _
  · exact World.ownsRow_nil _ _ _ _
theorem livW_tk (b : Nat) : (livW b).map TokE.tk = livT := rfl
theorem livW_len (b : Nat) : ∀ e ∈ livW b, LenT e := by
  intro e he
  unfold livW at he
  simp only [List.mem_cons, List.not_mem_nil, or_false] at he
  rcases he with rfl | rfl | rfl | rfl | rfl <;> exact ⟨by simp, by simp, fun a ha => by simp at ha; try (subst ha; simp)⟩
theorem livW_attrs (b : Nat) : ∀ e ∈ livW b, e.attrs.length ≤ 1000000 := by
  intro e he
  unfold livW at he
  simp only [List.mem_cons, List.not_mem_nil, or_false] at he
  rcases he with rfl | rfl | rfl | rfl | rfl <;> simp
theorem map_len {G : List TokE} {n : Nat} (h : G.map TokE.tk = livT) (hn : 5 ≤ n) : G.length ≤ n ∧ ∀ e ∈ G, e.attrs.length ≤ n := by
  have h1 := congrArg List.length h
  rw [List.length_map] at h1
  refine ⟨by rw [h1]; exact hn, fun e he => ?_⟩
  have h2 : e.tk ∈ livT := by rw [← h]; exact List.mem_map_of_mem he
  have h3 : ∀ t ∈ livT, t.attrs.length ≤ 1 := by decide
  exact Nat.le_trans (h3 _ h2) (by omega)
set_option maxHeartbeats 12800000 in
set_option maxRecDepth 100000 in
theorem lives_any (w : World) (hS : Sig w) (hm : MaxAt w) : Calls Tryd.prog 7 #[] w (Made w (.bool true)) := by
  have HS := Lib.hid hS
  have HM := Lib.hid hm
  have K1 : Hid (Calls Tryd.prog 8 #[.string (str liv1)] w (fun e w' => ∃ v G, e = .returned (.tuple #[v, .int .i64 27, .int .i64 0]) ∧ Below w.heap.size w w' ∧ G.map TokE.tk = livT ∧ TokRow w' w.heap.size v G)) := Lib.hid (by
    have h := tokens_any liv1 w (by decide) hS hm
    unfold ToksAns at h
    rw [liv1_is] at h
    exact h)
  have K2 : Hid (∀ W, Below w.heap.size w W → Calls Tryd.prog 8 #[.string (str liv2)] W (fun e w' => ∃ v G, e = .returned (.tuple #[v, .int .i64 7, .int .i64 80]) ∧ Below W.heap.size W w' ∧ G.map TokE.tk = [] ∧ TokRow w' W.heap.size v G)) := Lib.hid fun W hW => by
    have h := tokens_any liv2 W (by decide) (hS.below hW) (hm.below hW)
    unfold ToksAns at h
    rw [liv2_is] at h
    exact h
  have KN1 : Hid (∀ W, Calls Tryd.prog 15 #[.string (str [120, 58, 121])] W (Made W (.bool true))) := Lib.hid fun W => by have h := xname_any [120, 58, 121] W; rw [liv5_is] at h; exact h
  have KN2 : Hid (∀ W, Calls Tryd.prog 15 #[.string (str [49, 120])] W (Made W (.bool false))) := Lib.hid fun W => by have h := xname_any [49, 120] W; rw [liv6_is] at h; exact h
  have hlit : (⟨⟨liv3⟩⟩ : ByteArray) = str liv3 := rfl
  clear hS hm
  go_enter Tryd.func7, Tryd.ntmps7
  go_wp2_with (first
    | (go_at_call 8; have m1 := HM1.out; clear m1; refine (K2.out w1 HB1.out).mono ?_; rintro e w2 ⟨v2, G2, rfl, b2, g2, r2⟩; have HB2 := Lib.hid (below_then HB1.out b2); have R12 := Lib.hid (R1.out.below b2); obtain ⟨A2, c2, hv2, z2⟩ := ownsRow_shape r2.1; subst hv2; have g2l := congrArg List.length g2; rw [List.length_map] at g2l; rw [show G2.length = 0 from g2l]; have hx1 : Below w2.heap.size w2 (w2.alloc (.cells #[.string ⟨#[98]⟩, .string ⟨#[49]⟩] 39)) := (Below.refl _ _).alloc (Nat.le_refl _) _; have hx2 : Below w2.heap.size w2 ((w2.alloc (.cells #[.string ⟨#[98]⟩, .string ⟨#[49]⟩] 39)).alloc (.cells (livC w2.heap.size) 36)) := hx1.alloc hx1.size _; have HX2 := Lib.hid (below_then HB2.out hx2); have RW2 : Hid (TokRow ((w2.alloc (.cells #[.string ⟨#[98]⟩, .string ⟨#[49]⟩] 39)).alloc (.cells (livC w2.heap.size) 36)) w2.heap.size (.slice (some ⟨w2.heap.size + 1, 0, none⟩) 5 5) (livW w2.heap.size)) := Lib.hid (liv_row ((Blk.fresh w2 39 #[.string ⟨#[98]⟩, .string ⟨#[49]⟩]).alloc _) (by have h := Blk.fresh (w2.alloc (.cells #[.string ⟨#[98]⟩, .string ⟨#[49]⟩] 39)) 36 (livC w2.heap.size); rw [show (w2.alloc (.cells #[.string ⟨#[98]⟩, .string ⟨#[49]⟩] 39)).heap.size = w2.heap.size + 1 by simp] at h; exact h) (Nat.le_refl _) (by omega)); have R1X := Lib.hid (R12.out.below hx2); clear hx1 hx2; clear b2 g2 r2 z2 g2l)
    | (go_at_call 8; refine K1.out.mono ?_; rintro e w1 ⟨v1, G1, rfl, b1, g1, r1⟩; have HB1 := Lib.hid b1; have HG1 := Lib.hid g1; have R1 := Lib.hid r1; have HM1 : Hid True := Lib.hid trivial; obtain ⟨A1, c1, hv1, z1⟩ := ownsRow_shape r1.1; subst hv1; have g1l := congrArg List.length g1; rw [List.length_map] at g1l; have g1m : G1.length = 5 := g1l; rw [g1m] at R1; rw [g1m]; clear b1 g1 r1 z1 g1l g1m)
    | (go_at_call 12; have m3 := HM3.out; clear m3; have hx3 : Below w3.heap.size w3 (w3.alloc (.cells #[.int .i64 0, .string ⟨#[]⟩, .slice none 0 0, .string ⟨#[]⟩] 36)) := (Below.refl _ _).alloc (Nat.le_refl _) _; have kw := xwrite_any (w := (w3.alloc (.cells #[.int .i64 0, .string ⟨#[]⟩, .slice none 0 0, .string ⟨#[]⟩] 36))) (srcT_row (tok_row1 (k := 0) (nm := []) (tx := []) (Blk.fresh w3 36 #[.int .i64 0, .string ⟨#[]⟩, .slice none 0 0, .string ⟨#[]⟩]) (Nat.le_refl _))) (by show 1 ≤ 400; omega) (fun e he => by rw [List.mem_singleton.1 he]; exact ⟨by simp, by simp, fun a ha => by cases ha⟩) (HS.out.below (below_then HB3.out hx3)); unfold XWAns at kw; rw [show ([(⟨0, [], [], .slice none 0 0, []⟩ : TokE)].map TokE.tk) = [⟨0, [], [], []⟩] from rfl, liv4_is] at kw; have kw2 : Calls Tryd.prog 12 #[.slice (some ⟨w3.heap.size, 0, none⟩) 1 1] (w3.alloc (.cells #[.int .i64 0, .string ⟨#[]⟩, .slice none 0 0, .string ⟨#[]⟩] 36)) (Made (w3.alloc (.cells #[.int .i64 0, .string ⟨#[]⟩, .slice none 0 0, .string ⟨#[]⟩] 36)) (.tuple #[.string ⟨#[]⟩, .int .i64 1])) := kw; refine kw2.mono ?_; rintro e w4 ⟨rfl, b4⟩; have HB4 := Lib.hid (below_then (below_then HB3.out hx3) b4); have RW4 := Lib.hid ((RW3.out.below hx3).below b4); have R14 := Lib.hid ((R13.out.below hx3).below b4); clear kw kw2 b4 hx3)
    | (go_at_call 12; have kw := xwrite_any (srcT_row RW2.out) (by show 5 ≤ 400; omega) (livW_len _) (HS.out.below HX2.out); unfold XWAns at kw; rw [livW_tk, liv3_is] at kw; have kw2 : Calls Tryd.prog 12 #[(.slice (some ⟨w2.heap.size + 1, 0, none⟩) 5 5)] ((w2.alloc (.cells #[.string ⟨#[98]⟩, .string ⟨#[49]⟩] 39)).alloc (.cells (livC w2.heap.size) 36)) (Made ((w2.alloc (.cells #[.string ⟨#[98]⟩, .string ⟨#[49]⟩] 39)).alloc (.cells (livC w2.heap.size) 36)) (.tuple #[.string ⟨#[60, 97, 32, 98, 61, 34, 49, 34, 62, 120, 121, 60, 99, 62, 60, 47, 99, 62, 60, 47, 97, 62]⟩, .int .i64 0])) := kw; refine kw2.mono ?_; rintro e w3 ⟨rfl, b3⟩; have HB3 := Lib.hid (below_then HX2.out b3); have RW3 := Lib.hid (RW2.out.below b3); have R13 := Lib.hid (R1X.out.below b3); have HM3 : Hid True := Lib.hid trivial; clear kw kw2 b3)
    | (go_at_call 10; have ks := rsame_any (srcT_row R14.out) (srcT_row RW4.out) (map_len HG1.out (by omega)).1 (map_len HG1.out (by omega)).2; rw [HG1.out, livW_tk, decide_eq_true rfl] at ks; refine ks.mono ?_; rintro e w5 ⟨rfl, q5, rfl⟩; have b5 : Below w4.heap.size w4 (w4.drewN q5) := below_drewN (Below.refl _ _) _; have HB5 := Lib.hid (below_then HB4.out b5); have RW5 := Lib.hid (RW4.out.below b5); have R15 := Lib.hid (R14.out.below b5); clear ks b5)
    | (go_at_call 15; have m6 := HM6.out; clear m6; refine (KN2.out _).mono ?_; rintro e w7 ⟨rfl, b7⟩; have HB7 := Lib.hid (below_then HB6.out b7); have RW7 := Lib.hid (RW6.out.below b7); have R17 := Lib.hid (R16.out.below b7); clear b7)
    | (go_at_call 15; refine (KN1.out _).mono ?_; rintro e w6 ⟨rfl, b6⟩; have HB6 := Lib.hid (below_then HB5.out b6); have RW6 := Lib.hid (RW5.out.below b6); have R16 := Lib.hid (R15.out.below b6); have HM6 : Hid True := Lib.hid trivial; clear b6)
    | (go_at_call 17; have kx := xsame_any (srcT_row R17.out) (srcT_row RW7.out) (map_len HG1.out (by omega)).1 (map_len HG1.out (by omega)).2; rw [HG1.out, livW_tk, decide_eq_true rfl] at kx; refine kx.mono ?_; rintro e w8 ⟨rfl, b8⟩; have HB8 := Lib.hid (below_then HB7.out b8); clear kx b8))
  go_ret
  exact ⟨rfl, HB8.out⟩
end Go.Proofs.YtelhdkidnhfnbaaDoor

/-
  Slices of integers that are only read. No condition.
-/
namespace Go.Proofs.YtelhdkidnhfnbaaDoor
open Go.RowKit

/-- The slice value v reads in w as these integers; what is read lies below block B. -/
def RdI (w : World) (B : Nat) (v : Value) (l : List Int) : Prop :=
  ∃ A c, v = .slice A l.length c ∧ l.length ≤ c ∧ c ≤ maxLen ∧
    (0 < l.length → ∃ b o, A = some ⟨b, o, none⟩ ∧ b < B ∧ ∀ j (h : j < l.length), w.cell? ⟨b, o + j, none⟩ = some (.int .i64 l[j]))

theorem RdI.below {w w' : World} {B : Nat} {v : Value} {l : List Int} (h : RdI w B v l) (hk : Below B w w') : RdI w' B v l := by
  obtain ⟨A, c, rfl, h1, h2, h3⟩ := h
  refine ⟨A, c, rfl, h1, h2, fun hn => ?_⟩
  obtain ⟨b, o, rfl, hb, hc⟩ := h3 hn
  exact ⟨b, o, rfl, hb, fun j hj => (hk.cell (p := ⟨b, o + j, none⟩) hb).trans (hc j hj)⟩

end Go.Proofs.YtelhdkidnhfnbaaDoor

/-
  Slices that came in with a law's call, as the frame opens them, read as bytes. Conditions: the cells are bytes.
-/
namespace Go.Proofs.YtelhdkidnhfnbaaDoor
open Go.RowKit

/-- A slice of integers that came in: nil, or 'cap' cells, the numbers 'zs', each fitting its kind. -/
def IsRow (k : IntKind) (w : World) (a : Option Addr) (len cap : Nat) (zs : List Int) : Prop :=
  (a = none ∧ len = 0 ∧ cap = 0 ∧ zs = []) ∨
  ∃ x, a = some x ∧ len ≤ cap ∧ cap ≤ maxLen ∧ zs.length = cap ∧ (∀ i, i < zs.length → w.cell? (x.add i) = some (.int k (zs.getD i 0))) ∧ ∀ n ∈ zs, (Lit.int k n).wf = true

theorem wf_u8 {n : Int} (h : (Lit.int .u8 n).wf = true) : 0 ≤ n ∧ n < 256 := by
  have h1 : IntKind.u8.min = 0 := rfl
  have h2 : IntKind.u8.max = 255 := rfl
  simp only [Lit.wf, Bool.and_eq_true, decide_eq_true_eq] at h
  omega
theorem wf_i64 {n : Int} (h : (Lit.int .i64 n).wf = true) : -9223372036854775808 ≤ n ∧ n ≤ 9223372036854775807 := by
  have h1 : IntKind.i64.min = -9223372036854775808 := rfl
  have h2 : IntKind.i64.max = 9223372036854775807 := rfl
  simp only [Lit.wf, Bool.and_eq_true, decide_eq_true_eq] at h
  omega
theorem wf_u32 {n : Int} (h : (Lit.int .u32 n).wf = true) : 0 ≤ n ∧ n < 4294967296 := by
  have h1 : IntKind.u32.min = 0 := rfl
  have h2 : IntKind.u32.max = 4294967295 := rfl
  simp only [Lit.wf, Bool.and_eq_true, decide_eq_true_eq] at h
  omega

theorem isRow_rd {w : World} {a : Option Addr} {len cap : Nat} {zs : List Int} (h : IsRow .u8 w a len cap zs) : ∃ l : List UInt8, Rd w w.heap.size (.slice a len cap) l := by
  rcases h with ⟨rfl, rfl, rfl, rfl⟩ | ⟨x, rfl, hlc, hcm, hz, hcell, hwf⟩
  · exact ⟨[], Rd.nil _ _⟩
  · have hll : ((zs.take len).map fun n => UInt8.ofNat n.toNat).length = len := by simp; omega
    refine ⟨(zs.take len).map fun n => UInt8.ofNat n.toNat, some x, cap, by rw [hll], by omega, hcm, fun h0 => ?_⟩
    rw [hll] at h0
    have hc0 := hcell 0 (by omega)
    have hx0 : x.add 0 = x := by simp [Addr.add]
    rw [hx0] at hc0
    obtain ⟨b, o, sp⟩ := x
    have hsp : sp = none := World.cell?_spot hc0
    subst hsp
    refine ⟨b, o, rfl, World.block_lt_of_cell? w _ hc0, fun j hj => ?_⟩
    rw [hll] at hj
    have hcj := hcell j (by omega)
    have hadd : (⟨b, o, none⟩ : Addr).add j = ⟨b, o + j, none⟩ := by
      unfold Addr.add
      by_cases h : j = 0 <;> simp [h]
    rw [hadd] at hcj
    rw [hcj]
    have hmem : zs[j]'(by omega) ∈ zs := List.getElem_mem _
    have hb := wf_u8 (hwf _ hmem)
    have e1 : zs.getD j 0 = zs[j]'(by omega) := by simp [List.getD, List.getElem?_eq_getElem (show j < zs.length by omega)]
    rw [e1]
    unfold u8v
    simp only [List.getElem_map, List.getElem_take, UInt8.toNat_ofNat']
    congr 2
    omega

theorem isRow_ints {w : World} {a : Option Addr} {len cap : Nat} {zs : List Int} (h : IsRow .i64 w a len cap zs) : ∃ l : List Int, RdI w w.heap.size (.slice a len cap) l := by
  rcases h with ⟨rfl, rfl, rfl, rfl⟩ | ⟨x, rfl, hlc, hcm, hz, hcell, hwf⟩
  · exact ⟨[], none, 0, rfl, Nat.le_refl _, Nat.zero_le _, fun h => absurd h (by simp)⟩
  · have hll : (zs.take len).length = len := by simp; omega
    refine ⟨zs.take len, some x, cap, by rw [hll], by omega, hcm, fun h0 => ?_⟩
    rw [hll] at h0
    have hc0 := hcell 0 (by omega)
    have hx0 : x.add 0 = x := by simp [Addr.add]
    rw [hx0] at hc0
    obtain ⟨b, o, sp⟩ := x
    have hsp : sp = none := World.cell?_spot hc0
    subst hsp
    refine ⟨b, o, rfl, World.block_lt_of_cell? w _ hc0, fun j hj => ?_⟩
    rw [hll] at hj
    have hcj := hcell j (by omega)
    have hadd : (⟨b, o, none⟩ : Addr).add j = ⟨b, o + j, none⟩ := by
      unfold Addr.add
      by_cases h : j = 0 <;> simp [h]
    rw [hadd] at hcj
    rw [hcj]
    have e1 : zs.getD j 0 = zs[j]'(by omega) := by simp [List.getD, List.getElem?_eq_getElem (show j < zs.length by omega)]
    rw [e1]
    simp
end Go.Proofs.YtelhdkidnhfnbaaDoor

/-
  Tokens that came in as a slice, with their attributes' slices, opened. No condition.
-/
namespace Go.Proofs.YtelhdkidnhfnbaaDoor
open Go.RowKit Go.ChangeShapes Go.WideShapes

theorem acells_inv : ∀ (L : AttrL) (j : Nat) (u : Value), (acells L)[j]? = some u → ∃ (k r : Nat) (hk : k < L.length), r < 2 ∧ j = k * 2 + r ∧ [Value.string (str L[k].1), .string (str L[k].2)][r]? = some u
  | a :: l, 0, u, h => ⟨0, 0, Nat.zero_lt_succ _, by decide, rfl, h⟩
  | a :: l, 1, u, h => ⟨0, 1, Nat.zero_lt_succ _, by decide, rfl, h⟩
  | a :: l, j + 2, u, h => by
    obtain ⟨k, r, hk, hr, hj, hu⟩ := acells_inv l j u h
    exact ⟨k + 1, r, by simpa using hk, hr, by omega, hu⟩
theorem tcells_inv : ∀ (G : List TokE) (j : Nat) (u : Value), (tcells G)[j]? = some u → ∃ (k r : Nat) (hk : k < G.length), r < 4 ∧ j = k * 4 + r ∧ [Value.int .i64 G[k].kind, .string (str G[k].name), G[k].v, .string (str G[k].text)][r]? = some u
  | a :: l, 0, u, h => ⟨0, 0, Nat.zero_lt_succ _, by decide, rfl, h⟩
  | a :: l, 1, u, h => ⟨0, 1, Nat.zero_lt_succ _, by decide, rfl, h⟩
  | a :: l, 2, u, h => ⟨0, 2, Nat.zero_lt_succ _, by decide, rfl, h⟩
  | a :: l, 3, u, h => ⟨0, 3, Nat.zero_lt_succ _, by decide, rfl, h⟩
  | a :: l, j + 4, u, h => by
    obtain ⟨k, r, hk, hr, hj, hu⟩ := tcells_inv l j u h
    exact ⟨k + 1, r, by simpa using hk, hr, by omega, hu⟩
def LenA (a : List UInt8 × List UInt8) : Prop := a.1.length ≤ maxLen ∧ a.2.length ≤ maxLen
set_option maxRecDepth 100000 in
theorem attr_parts {H : Type} {enc : TypeId × Value → H} {W : World} {fuel : Nat} {cs : List Value} {x : DataW H × List MemPlace} (hlen : cs.length = 2) (hf : DataW.trod enc Tryd.prog W 0 (fun _ => true) true fuel 39 cs = some x) :
    ∃ a : List UInt8 × List UInt8, cs = [.string (str a.1), .string (str a.2)] ∧ LenA a := by
  obtain ⟨xs, n, _, _, _, hxl, hg⟩ := DataW.trod_struct Tryd.underlying39 hf
  have hx2 : xs.length = 2 := hxl
  have cS : Tryd.prog.cellsOf 9 = 1 := by kernel_rfl
  match cs, hlen with
  | [b0, b1], _ =>
    have g0 := hg 0 _ rfl
    have g1 := hg 1 _ rfl
    rw [List.getElem?_eq_getElem (by omega)] at g0 g1
    obtain ⟨a0, e0, _, s0⟩ := DataW.trod_string Tryd.underlying9 g0
    obtain ⟨a1, e1, _, s1⟩ := DataW.trod_string Tryd.underlying9 g1
    have q0 : ([b0, b1].drop 0).take (Tryd.prog.cellsOf 9) = [.string a0] := e0
    have q1 : ([b0, b1].drop 1).take (Tryd.prog.cellsOf 9) = [.string a1] := e1
    rw [cS] at q0 q1
    have r0 : b0 = .string a0 := by simpa using q0
    have r1 : b1 = .string a1 := by simpa using q1
    subst r0 r1
    refine ⟨(a0.data.toList, a1.data.toList), ?_, ?_, ?_⟩
    · rw [str_of, str_of]
    · show a0.data.toList.length ≤ maxLen
      rw [Array.length_toList]; exact s0
    · show a1.data.toList.length ≤ maxLen
      rw [Array.length_toList]; exact s1
set_option maxRecDepth 100000 in
theorem attrs_open {H : Type} {enc : TypeId × Value → H} {W : World} {fuel : Nat} {v : Value} {x : DataW H × List MemPlace} (hf : DataW.trod enc Tryd.prog W 0 (fun _ => true) true fuel 34 [v] = some x) :
    ∃ L : AttrL, SrcA W v L ∧ (∀ a ∈ L, LenA a) ∧ L.length ≤ maxLen := by
  have c2 : Tryd.prog.cellsOf 39 = 2 := by kernel_rfl
  rcases Deep.open_slice Tryd.underlying34 hf with ⟨hcs, _⟩ | ⟨ad, n, cap, m, k, D, Pl, hcs, _, hl, hm, hmm, _, hx⟩
  · injection hcs with hcs
    rw [hcs]
    exact ⟨[], ⟨none, 0, rfl, fun h => absurd h (by simp)⟩, (fun a ha => by cases ha), Nat.zero_le _⟩
  · injection hcs with hcs
    rw [hcs]
    rw [c2] at hx
    have hmc : m = cap := hmm
    have hall : ∀ i, i < n → ∃ a : List UInt8 × List UInt8, LenA a ∧ ∀ j, j < 2 → W.cell? ((ad.add (i * 2)).add j) = [Value.string (str a.1), .string (str a.2)][j]? := fun i hi => by
      obtain ⟨cs, h1, h2⟩ := hx i (by omega)
      obtain ⟨_, h3, h4⟩ := World.cells?_some h1
      obtain ⟨a, ha, hb⟩ := attr_parts h3 h2
      subst ha
      exact ⟨a, hb, h4⟩
    have : ∀ i, ∃ a : List UInt8 × List UInt8, i < n → LenA a ∧ ∀ j, j < 2 → W.cell? ((ad.add (i * 2)).add j) = [Value.string (str a.1), .string (str a.2)][j]? := fun i => by
      by_cases hi : i < n
      · obtain ⟨a, h⟩ := hall i hi
        exact ⟨a, fun _ => h⟩
      · exact ⟨([], []), fun h => absurd h hi⟩
    have hV := fun i => Classical.choose_spec (this i)
    have hll : ((List.range n).map fun i => Classical.choose (this i)).length = n := by simp
    refine ⟨(List.range n).map fun i => Classical.choose (this i), ⟨some ad, cap, by rw [hll], fun hp => ?_⟩, fun a ha => ?_, by rw [hll]; omega⟩
    · rw [hll] at hp
      obtain ⟨b, o, sp⟩ := ad
      have hc0 := (hV 0 hp).2 0 (by omega)
      have h9 : ((⟨b, o, sp⟩ : Addr).add (0 * 2)).add 0 = ⟨b, o, sp⟩ := by simp [Addr.add]
      rw [h9] at hc0
      have hsp : sp = none := World.cell?_spot hc0
      subst hsp
      refine ⟨b, o, rfl, World.block_lt_of_cell? W _ hc0, fun j u hu => ?_⟩
      obtain ⟨k, r, hk, hr, hj, hu2⟩ := acells_inv _ j u hu
      rw [hll] at hk
      have hc := (hV k hk).2 r hr
      have hadd : ((⟨b, o, none⟩ : Addr).add (k * 2)).add r = ⟨b, o + j, none⟩ := by rw [Addr.add_mid, Addr.add_mid, show o + k * 2 + r = o + j by omega]
      rw [List.getElem_map, List.getElem_range] at hu2
      exact (congrArg W.cell? hadd.symm).trans (hc.trans hu2)
    · obtain ⟨i, hi, rfl⟩ := List.mem_map.1 ha
      exact (hV i (List.mem_range.1 hi)).1
def OkE (W : World) (e : TokE) : Prop := SrcA W e.v e.attrs ∧ e.name.length ≤ maxLen ∧ e.text.length ≤ maxLen ∧ (∀ a ∈ e.attrs, LenA a) ∧ e.attrs.length ≤ maxLen ∧ -9223372036854775808 ≤ e.kind ∧ e.kind ≤ 9223372036854775807
set_option maxRecDepth 100000 in
theorem tok_parts {H : Type} {enc : TypeId × Value → H} {W : World} {fuel : Nat} {cs : List Value} {x : DataW H × List MemPlace} (hlen : cs.length = 4) (hf : DataW.trod enc Tryd.prog W 0 (fun _ => true) true fuel 36 cs = some x) :
    ∃ e : TokE, cs = [.int .i64 e.kind, .string (str e.name), e.v, .string (str e.text)] ∧ OkE W e := by
  obtain ⟨xs, n, _, _, _, hxl, hg⟩ := DataW.trod_struct Tryd.underlying36 hf
  have hx4 : xs.length = 4 := hxl
  have ci : Tryd.prog.cellsOf 3 = 1 := by kernel_rfl
  have cS : Tryd.prog.cellsOf 9 = 1 := by kernel_rfl
  have ca : Tryd.prog.cellsOf 34 = 1 := by kernel_rfl
  match cs, hlen with
  | [b0, b1, b2, b3], _ =>
    have g0 := hg 0 _ rfl
    have g1 := hg 1 _ rfl
    have g2 := hg 2 _ rfl
    have g3 := hg 3 _ rfl
    rw [List.getElem?_eq_getElem (by omega)] at g0 g1 g2 g3
    obtain ⟨a0, e0, _, w0⟩ := DataW.trod_int Tryd.underlying3 g0
    obtain ⟨a1, e1, _, s1⟩ := DataW.trod_string Tryd.underlying9 g1
    obtain ⟨a3, e3, _, s3⟩ := DataW.trod_string Tryd.underlying9 g3
    have q0 : ([b0, b1, b2, b3].drop 0).take (Tryd.prog.cellsOf 3) = [.int .i64 a0] := e0
    have q1 : ([b0, b1, b2, b3].drop 1).take (Tryd.prog.cellsOf 9) = [.string a1] := e1
    have q2 : ([b0, b1, b2, b3].drop 2).take (Tryd.prog.cellsOf 34) = [b2] := by rw [ca]; rfl
    have q3 : ([b0, b1, b2, b3].drop 3).take (Tryd.prog.cellsOf 9) = [.string a3] := e3
    have g2' : DataW.trod enc Tryd.prog W 0 (fun _ => true) true n 34 (([b0, b1, b2, b3].drop 2).take (Tryd.prog.cellsOf 34)) = some xs[2] := g2
    rw [q2] at g2'
    obtain ⟨L, hL, hA, hN⟩ := attrs_open g2'
    rw [ci] at q0
    rw [cS] at q1 q3
    have r0 : b0 = .int .i64 a0 := by simpa using q0
    have r1 : b1 = .string a1 := by simpa using q1
    have r3 : b3 = .string a3 := by simpa using q3
    subst r0 r1 r3
    refine ⟨⟨a0, a1.data.toList, L, b2, a3.data.toList⟩, ?_, hL, ?_, ?_, hA, hN, (wf_i64 w0).1, (wf_i64 w0).2⟩
    · rw [str_of, str_of]
    · show a1.data.toList.length ≤ maxLen
      rw [Array.length_toList]; exact s1
    · show a3.data.toList.length ≤ maxLen
      rw [Array.length_toList]; exact s3
/-- The slice value v reads in W as tokens, of lengths that may be. -/
def RdT (W : World) (v : Value) : Prop := ∃ G : List TokE, SrcT W v G ∧ (∀ e ∈ G, OkE W e) ∧ G.length ≤ maxLen
set_option maxRecDepth 100000 in
theorem toks_open {H : Type} {enc : TypeId × Value → H} {W : World} {base : Nat} {v : Value} {x : DataW H} {p : List MemPlace} (hv : Value.okWide Tryd.prog W .any base 23 v) (ht : DataW.Trod enc Tryd.prog W 0 (fun _ => true) true 23 v x p) : RdT W v := by
  obtain ⟨a, n, cap, rfl⟩ := okWide_slice Tryd.underlying23 hv
  obtain ⟨fuel, hf⟩ := ht
  have c4 : Tryd.prog.cellsOf 36 = 4 := by kernel_rfl
  rcases Deep.open_slice Tryd.underlying23 hf with ⟨hcs, _⟩ | ⟨ad, len, cap, m, k, D, Pl, hcs, _, hl, hm, hmm, _, hx⟩
  · simp [Value.cells] at hcs
    obtain ⟨rfl, rfl, rfl⟩ := hcs
    exact ⟨[], ⟨⟨none, 0, rfl, fun h => absurd h (by simp)⟩, (fun e he => by cases he)⟩, (fun e he => by cases he), Nat.zero_le _⟩
  · simp [Value.cells] at hcs
    obtain ⟨rfl, rfl, rfl⟩ := hcs
    have hmc : m = cap := hmm
    rw [c4] at hx
    have hall : ∀ i, i < n → ∃ e : TokE, OkE W e ∧ ∀ j, j < 4 → W.cell? ((ad.add (i * 4)).add j) = [Value.int .i64 e.kind, .string (str e.name), e.v, .string (str e.text)][j]? := fun i hi => by
      obtain ⟨cs, h1, h2⟩ := hx i (by omega)
      obtain ⟨_, h3, h4⟩ := World.cells?_some h1
      obtain ⟨a, ha, hb⟩ := tok_parts h3 h2
      subst ha
      exact ⟨a, hb, h4⟩
    have : ∀ i, ∃ e : TokE, i < n → OkE W e ∧ ∀ j, j < 4 → W.cell? ((ad.add (i * 4)).add j) = [Value.int .i64 e.kind, .string (str e.name), e.v, .string (str e.text)][j]? := fun i => by
      by_cases hi : i < n
      · obtain ⟨e, h⟩ := hall i hi
        exact ⟨e, fun _ => h⟩
      · exact ⟨⟨0, [], [], .bool true, []⟩, fun h => absurd h hi⟩
    have hV := fun i => Classical.choose_spec (this i)
    have hll : ((List.range n).map fun i => Classical.choose (this i)).length = n := by simp
    have hok : ∀ e ∈ (List.range n).map fun i => Classical.choose (this i), OkE W e := fun e he => by
      obtain ⟨i, hi, rfl⟩ := List.mem_map.1 he
      exact (hV i (List.mem_range.1 hi)).1
    refine ⟨(List.range n).map fun i => Classical.choose (this i), ⟨⟨some ad, cap, by rw [hll], fun hp => ?_⟩, fun e he => (hok e he).1⟩, hok, by rw [hll]; omega⟩
    rw [hll] at hp
    obtain ⟨b, o, sp⟩ := ad
    have hc0 := (hV 0 hp).2 0 (by omega)
    have h9 : ((⟨b, o, sp⟩ : Addr).add (0 * 4)).add 0 = ⟨b, o, sp⟩ := by simp [Addr.add]
    rw [h9] at hc0
    have hsp : sp = none := World.cell?_spot hc0
    subst hsp
    refine ⟨b, o, rfl, World.block_lt_of_cell? W _ hc0, fun j u hu => ?_⟩
    obtain ⟨k, r, hk, hr, hj, hu2⟩ := tcells_inv _ j u hu
    rw [hll] at hk
    have hc := (hV k hk).2 r hr
    have hadd : ((⟨b, o, none⟩ : Addr).add (k * 4)).add r = ⟨b, o + j, none⟩ := by rw [Addr.add_mid, Addr.add_mid, show o + k * 4 + r = o + j by omega]
    rw [List.getElem_map, List.getElem_range] at hu2
    exact (congrArg W.cell? hadd.symm).trans (hc.trans hu2)
end Go.Proofs.YtelhdkidnhfnbaaDoor
