/-
  xml.write: a token put to a builder. Conditions: its cells lie below the builder; at most 32 attributes; lengths are lengths; the table of signs lies in memory.
-/
import Derived.Test.YtelhdkidnhfnbaaDoorXSame
import Derived.Lib.BufferKept
namespace Go.Proofs.YtelhdkidnhfnbaaDoor
open Go.RowKit

def attrW (a : List UInt8 × List UInt8) : List UInt8 := 32 :: (a.1 ++ ([61, 34] ++ (writeR a.2 ++ [34])))
def attrsW (L : AttrL) : List UInt8 := L.flatMap attrW
/-- What a token is written as. -/
def writeK (t : Tk) : List UInt8 := if t.kind = 1 then 60 :: (t.name ++ (attrsW t.attrs ++ [62])) else if t.kind = 2 then 60 :: 47 :: (t.name ++ [62]) else if t.kind = 3 then writeR t.text else []
theorem cat_str (a b : List UInt8) : str a ++ str b = str (a ++ b) := by unfold str; exact ByteArray.mk_append_mk a b
theorem lit_str (a : List UInt8) : (⟨⟨a⟩⟩ : ByteArray) = str a := rfl
def WritAns (w0 w : World) (g : Nat) (out : List UInt8) (e : Ending) (w' : World) : Prop := e = .returned (.tuple #[]) ∧ Bld g out w' ∧ Below w0.heap.size w0 w' ∧ g < w'.heap.size ∧ Lib.OthersKept 5 (some g) w w'
def WritRel (w0 w : World) (g : Nat) (out : List UInt8) (L : AttrL) (u : Value) (W : World) : Prop := ∃ j : Nat, j ≤ L.length ∧ u = .int .i64 (j : Int) ∧ Bld g (out ++ attrsW (L.take j)) W ∧ Below w0.heap.size w0 W ∧ g < W.heap.size ∧ Lib.OthersKept 5 (some g) w W
theorem below_at {w0 w w' : World} {g : Nat} (h : Below w0.heap.size w0 w) (hb : Below g w w') (hg : w0.heap.size ≤ g) (_hs : g < w.heap.size) : Below w0.heap.size w0 w' :=
  ⟨hb.os.trans h.os, hb.tape.trans h.tape, hb.output.trans h.output, Nat.le_trans h.size hb.size, fun k hk => (hb.block k (Nat.lt_of_lt_of_le hk hg)).trans (h.block k hk)⟩
theorem attrW_len (a : List UInt8 × List UInt8) (h1 : a.1.length ≤ 1000000) (h2 : a.2.length ≤ 1000000) : (attrW a).length ≤ 7000010 := by
  have := (writeR_len a.2).2
  unfold attrW
  simp only [List.length_cons, List.length_append, List.length_nil]
  omega
theorem attrsW_len : ∀ L : AttrL, (∀ a ∈ L, a.1.length ≤ 1000000 ∧ a.2.length ≤ 1000000) → (attrsW L).length ≤ 7000010 * L.length
  | [], _ => Nat.le_refl _
  | a :: r, h => by
    have h1 := attrW_len a (h a List.mem_cons_self).1 (h a List.mem_cons_self).2
    have h2 := attrsW_len r fun x hx => h x (List.mem_cons_of_mem _ hx)
    show (attrW a ++ attrsW r).length ≤ _
    rw [List.length_append, List.length_cons]
    omega
theorem attrsW_next {L : AttrL} {j : Nat} (hj : j < L.length) : attrsW (L.take (j + 1)) = attrsW (L.take j) ++ attrW L[j] := by
  unfold attrsW
  rw [List.take_succ_eq_append_getElem hj, List.flatMap_append]
  simp
theorem kept_other {e : TypeId} {g q : Nat} {w w' : World} {t : TypeId} {cs : Array Value} (h : Lib.OthersKept e (some g) w w') (hb : Blk w q t cs) (hq : q ≠ g) (ht : t ≠ e) : Blk w' q t cs :=
  h q _ hb (fun e => hq (by injection e)) fun c fz e => ht (by injection e)
set_option maxHeartbeats 3200000 in
set_option maxRecDepth 100000 in
theorem writ_2 {w0 w : World} {g : Nat} {out name text : List UInt8} {A : Option Addr} {n c : Nat} (hb : Bld g out w) (hg : g < w.heap.size) (h0 : w0.heap.size ≤ g) (hbw : Below w0.heap.size w0 w) (hout : out.length ≤ 100000000000) (hn : name.length ≤ 1000000) : Calls Tryd.prog 24 #[.pointer (some ⟨g, 0, none⟩), .agg #[.int .i64 2, .string (str name), .slice A n c, .string (str text)]] w (WritAns w0 w g (out ++ 60 :: 47 :: (name ++ [62]))) := by
  have HB0 : Hid (Below w.heap.size w (w.alloc (.cells #[.int .i64 2, .string (str name), .slice A n c, .string (str text)] 36))) := Lib.hid ((Below.refl _ _).alloc (Nat.le_refl _) _)
  have BX : Hid (Blk (w.alloc (.cells #[.int .i64 2, .string (str name), .slice A n c, .string (str text)] 36)) w.heap.size 36 #[.int .i64 2, .string (str name), .slice A n c, .string (str text)]) := Lib.hid (Blk.fresh _ _ _)
  have HBD : Hid (Bld g out (w.alloc (.cells #[.int .i64 2, .string (str name), .slice A n c, .string (str text)] 36))) := Lib.hid (Bld.below hb HB0.out)
  have HSZ : Hid (g < (w.alloc (.cells #[.int .i64 2, .string (str name), .slice A n c, .string (str text)] 36)).heap.size) := Lib.hid (Nat.lt_of_lt_of_le hg HB0.out.size)
  have HBW : Hid (Below w0.heap.size w0 (w.alloc (.cells #[.int .i64 2, .string (str name), .slice A n c, .string (str text)] 36))) := Lib.hid (below_then hbw HB0.out)
  have HOK : Hid (Lib.OthersKept 5 (some g) w (w.alloc (.cells #[.int .i64 2, .string (str name), .slice A n c, .string (str text)] 36))) := Lib.hid ((Lib.OthersKept.refl _ _ w).alloc _)
  have HG := Lib.hid hg
  have HG0 := Lib.hid h0
  have hc1 : (⟨#[60, 47]⟩ : ByteArray) ++ str name = str ([60, 47] ++ name) := cat_str [60, 47] name
  have hc2 : str ([60, 47] ++ name) ++ (⟨#[62]⟩ : ByteArray) = str (60 :: 47 :: (name ++ [62])) := cat_str ([60, 47] ++ name) [62]
  have HL : Hid (out.length + (60 :: 47 :: (name ++ [62])).length ≤ 140737488355328) := Lib.hid (by simp; omega)
  have hnI : (name.length : Int) ≤ 1000000 := by omega
  obtain ⟨mid, hmid⟩ : ∃ m, m = [60, 47] ++ name := ⟨_, rfl⟩
  obtain ⟨tx, htx⟩ : ∃ m, m = 60 :: 47 :: (name ++ [62]) := ⟨_, rfl⟩
  rw [← hmid] at hc1 hc2
  rw [← htx] at hc2 HL ⊢
  have hml : mid.length ≤ 1000002 := by rw [hmid]; simp; omega
  clear hb hg h0 hbw hout hmid htx
  go_enter Tryd.func24, Tryd.ntmps24
  go_wp2_with (go_at_call 37; go_must (refine (bld_string g _ tx _ HBD.out HL.out (Nat.le_of_lt HSZ.out)).mono ?_); rintro e w1 ⟨rfl, h1, b1, k1⟩; have H1 := Lib.hid h1; have B1 := Lib.hid (below_at HBW.out b1 HG0.out HSZ.out); have S1 := Lib.hid (Nat.lt_of_lt_of_le HSZ.out b1.size); have K1 := Lib.hid (HOK.out.trans k1); clear h1 b1 k1)
  go_end0
  exact ⟨rfl, H1.out, B1.out, S1.out, K1.out⟩
set_option maxHeartbeats 3200000 in
set_option maxRecDepth 100000 in
theorem writ_3 {w0 w : World} {g : Nat} {out name text : List UInt8} {A : Option Addr} {n c : Nat} (hb : Bld g out w) (hg : g < w.heap.size) (h0 : w0.heap.size ≤ g) (hbw : Below w0.heap.size w0 w) (hout : out.length ≤ 100000000000) (_hn : name.length ≤ 1000000) (ht : text.length ≤ 1000000) (hS : Sig w) : Calls Tryd.prog 24 #[.pointer (some ⟨g, 0, none⟩), .agg #[.int .i64 3, .string (str name), .slice A n c, .string (str text)]] w (WritAns w0 w g (out ++ writeR text)) := by
  have HB0 : Hid (Below w.heap.size w (w.alloc (.cells #[.int .i64 3, .string (str name), .slice A n c, .string (str text)] 36))) := Lib.hid ((Below.refl _ _).alloc (Nat.le_refl _) _)
  have BX : Hid (Blk (w.alloc (.cells #[.int .i64 3, .string (str name), .slice A n c, .string (str text)] 36)) w.heap.size 36 #[.int .i64 3, .string (str name), .slice A n c, .string (str text)]) := Lib.hid (Blk.fresh _ _ _)
  have HBD : Hid (Bld g out (w.alloc (.cells #[.int .i64 3, .string (str name), .slice A n c, .string (str text)] 36))) := Lib.hid (Bld.below hb HB0.out)
  have HSZ : Hid (g < (w.alloc (.cells #[.int .i64 3, .string (str name), .slice A n c, .string (str text)] 36)).heap.size) := Lib.hid (Nat.lt_of_lt_of_le hg HB0.out.size)
  have HBW : Hid (Below w0.heap.size w0 (w.alloc (.cells #[.int .i64 3, .string (str name), .slice A n c, .string (str text)] 36))) := Lib.hid (below_then hbw HB0.out)
  have HOK : Hid (Lib.OthersKept 5 (some g) w (w.alloc (.cells #[.int .i64 3, .string (str name), .slice A n c, .string (str text)] 36))) := Lib.hid ((Lib.OthersKept.refl _ _ w).alloc _)
  have HG := Lib.hid hg
  have HG0 := Lib.hid h0
  have HS := Lib.hid (hS.below HB0.out)
  have HT := Lib.hid ht
  have HL : Hid (out.length + (writeR text).length ≤ 140737488355328) := Lib.hid (by have := (writeR_len text).2; omega)
  clear hb hg h0 hbw hout ht hS
  go_enter Tryd.func24, Tryd.ntmps24
  go_wp2_with (first
    | (go_at_call 52; refine (write_any text _ HS.out (by have := HT.out; omega)).mono ?_; rintro e we ⟨rfl, be⟩; have HBE := Lib.hid (Bld.below HBD.out be); have BE := Lib.hid (below_then HBW.out be); have SE := Lib.hid (Nat.lt_of_lt_of_le HSZ.out be.size); have KE := Lib.hid (HOK.out.below be); clear be)
    | (go_at_call 37; go_must (refine (bld_string g _ (writeR text) _ HBE.out HL.out (Nat.le_of_lt SE.out)).mono ?_); rintro e w1 ⟨rfl, h1, b1, k1⟩; have H1 := Lib.hid h1; have B1 := Lib.hid (below_at BE.out b1 HG0.out SE.out); have S1 := Lib.hid (Nat.lt_of_lt_of_le SE.out b1.size); have K1 := Lib.hid (KE.out.trans k1); clear h1 b1 k1))
  go_end0
  exact ⟨rfl, H1.out, B1.out, S1.out, K1.out⟩
set_option maxHeartbeats 3200000 in
set_option maxRecDepth 100000 in
theorem writ_0 {w0 w : World} {g : Nat} {out name text : List UInt8} {A : Option Addr} {n c : Nat} (hb : Bld g out w) (hg : g < w.heap.size) (h0 : w0.heap.size ≤ g) (hbw : Below w0.heap.size w0 w) (_hout : out.length ≤ 100000000000) (_hn : name.length ≤ 1000000) {k : Int} (k1 : ¬ k = 1) (k2 : ¬ k = 2) (k3 : ¬ k = 3) : Calls Tryd.prog 24 #[.pointer (some ⟨g, 0, none⟩), .agg #[.int .i64 k, .string (str name), .slice A n c, .string (str text)]] w (WritAns w0 w g out) := by
  have HB0 : Hid (Below w.heap.size w (w.alloc (.cells #[.int .i64 k, .string (str name), .slice A n c, .string (str text)] 36))) := Lib.hid ((Below.refl _ _).alloc (Nat.le_refl _) _)
  have BX : Hid (Blk (w.alloc (.cells #[.int .i64 k, .string (str name), .slice A n c, .string (str text)] 36)) w.heap.size 36 #[.int .i64 k, .string (str name), .slice A n c, .string (str text)]) := Lib.hid (Blk.fresh _ _ _)
  have HBD : Hid (Bld g out (w.alloc (.cells #[.int .i64 k, .string (str name), .slice A n c, .string (str text)] 36))) := Lib.hid (Bld.below hb HB0.out)
  have HSZ : Hid (g < (w.alloc (.cells #[.int .i64 k, .string (str name), .slice A n c, .string (str text)] 36)).heap.size) := Lib.hid (Nat.lt_of_lt_of_le hg HB0.out.size)
  have HBW : Hid (Below w0.heap.size w0 (w.alloc (.cells #[.int .i64 k, .string (str name), .slice A n c, .string (str text)] 36))) := Lib.hid (below_then hbw HB0.out)
  have HOK : Hid (Lib.OthersKept 5 (some g) w (w.alloc (.cells #[.int .i64 k, .string (str name), .slice A n c, .string (str text)] 36))) := Lib.hid ((Lib.OthersKept.refl _ _ w).alloc _)
  have HG := Lib.hid hg
  have HG0 := Lib.hid h0
  have e1 : (k == 1) = false := by simpa using k1
  have e2 : (k == 2) = false := by simpa using k2
  have e3 : (k == 3) = false := by simpa using k3
  clear hb hg h0 hbw
  go_enter Tryd.func24, Tryd.ntmps24
  go_wp2_with fail
  go_end0
  exact ⟨rfl, HBD.out, HBW.out, HSZ.out, HOK.out⟩
set_option maxHeartbeats 12800000 in
set_option maxRecDepth 100000 in
theorem writ_1 {w0 w : World} {g : Nat} {out name text : List UInt8} {v : Value} {L : AttrL} (hb : Bld g out w) (hg : g < w.heap.size) (h0 : w0.heap.size ≤ g) (hbw : Below w0.heap.size w0 w) (hout : out.length ≤ 100000000000) (hn : name.length ≤ 1000000) (hs : SrcA w0 v L) (hL : L.length ≤ 32) (hla : ∀ a ∈ L, a.1.length ≤ 1000000 ∧ a.2.length ≤ 1000000) (hS : Sig w0) :
    Calls Tryd.prog 24 #[.pointer (some ⟨g, 0, none⟩), .agg #[.int .i64 1, .string (str name), v, .string (str text)]] w (WritAns w0 w g (out ++ 60 :: (name ++ (attrsW L ++ [62])))) := by
  have HSA := Lib.hid hs
  obtain ⟨A, c, rfl, _⟩ := hs
  obtain ⟨n, hnn⟩ : ∃ n, n = L.length := ⟨_, rfl⟩
  rw [← hnn]
  have HNN := Lib.hid hnn
  have hn32 : (n : Int) ≤ 32 := by omega
  have HB0 : Hid (Below w.heap.size w (w.alloc (.cells #[.int .i64 1, .string (str name), .slice A n c, .string (str text)] 36))) := Lib.hid ((Below.refl _ _).alloc (Nat.le_refl _) _)
  have BX : Hid (Blk (w.alloc (.cells #[.int .i64 1, .string (str name), .slice A n c, .string (str text)] 36)) w.heap.size 36 #[.int .i64 1, .string (str name), .slice A n c, .string (str text)]) := Lib.hid (Blk.fresh _ _ _)
  have HBD : Hid (Bld g out (w.alloc (.cells #[.int .i64 1, .string (str name), .slice A n c, .string (str text)] 36))) := Lib.hid (Bld.below hb HB0.out)
  have HSZ : Hid (g < (w.alloc (.cells #[.int .i64 1, .string (str name), .slice A n c, .string (str text)] 36)).heap.size) := Lib.hid (Nat.lt_of_lt_of_le hg HB0.out.size)
  have HBW : Hid (Below w0.heap.size w0 (w.alloc (.cells #[.int .i64 1, .string (str name), .slice A n c, .string (str text)] 36))) := Lib.hid (below_then hbw HB0.out)
  have HOK : Hid (Lib.OthersKept 5 (some g) w (w.alloc (.cells #[.int .i64 1, .string (str name), .slice A n c, .string (str text)] 36))) := Lib.hid ((Lib.OthersKept.refl _ _ w).alloc _)
  have HG := Lib.hid hg
  have HG0 := Lib.hid h0
  have HS := Lib.hid hS
  have HLA := Lib.hid hla
  have HO := Lib.hid hout
  have hc1 : (⟨#[60]⟩ : ByteArray) ++ str name = str (60 :: name) := cat_str [60] name
  have HL1 : Hid (out.length + (60 :: name).length ≤ 140737488355328) := Lib.hid (by simp; omega)
  have HNL := Lib.hid hn
  have hnI : (name.length : Int) ≤ 1000000 := by omega
  obtain ⟨t1, ht1⟩ : ∃ m, m = 60 :: name := ⟨_, rfl⟩
  rw [← ht1] at hc1 HL1
  have HT1 := Lib.hid ht1
  clear hb hg h0 hbw hout ht1 hL hla hS hnn hn
  go_enter Tryd.func24, Tryd.ntmps24
  go_wp2_with (go_at_call 37; go_must (refine (bld_string g _ t1 _ HBD.out HL1.out (Nat.le_of_lt HSZ.out)).mono ?_); rintro e w1 ⟨rfl, h1, b1, k1⟩; have H1 := Lib.hid h1; have B1 := Lib.hid (below_at HBW.out b1 HG0.out HSZ.out); have S1 := Lib.hid (Nat.lt_of_lt_of_le HSZ.out b1.size); have K1 := Lib.hid (HOK.out.trans k1); have z2 : w1.cell? ⟨w.heap.size, 2, none⟩ = some (.slice A n c) := (kept_other k1 BX.out (by have := HG.out; omega) (by decide)).cell 2; clear h1 b1 k1)
  have HOL : Hid ((out ++ t1).length ≤ 100001000001) := Lib.hid (by rw [List.length_append, HT1.out, List.length_cons]; have := HO.out; have := HNL.out; omega)
  go_loopw [18] (WritRel w0 w g (out ++ t1) L) (fun u _ => L.length - (intOf u).toNat)
  case atStart => exact ⟨0, Nat.zero_le _, rfl, by rw [List.take_zero]; show Bld g (out ++ t1 ++ []) w1; rw [List.append_nil]; exact H1.out, B1.out, S1.out, K1.out⟩
  case round =>
    obtain ⟨j, hj, rfl, hbd, hbw, hsz, hok⟩ := hrel
    have HKj := Lib.hid hok
    have HBj := Lib.hid hbd
    have HWj := Lib.hid hbw
    have HZj := Lib.hid hsz
    clear hbd hbw hsz hok
    have HTL : Hid ((attrsW (L.take j)).length ≤ 7000010 * 32) := Lib.hid (by
      have h := attrsW_len (L.take j) fun a ha => HLA.out a (List.mem_of_mem_take ha)
      have : (L.take j).length ≤ 32 := by rw [List.length_take]; have := HNN.out; omega
      have h2 : 7000010 * (L.take j).length ≤ 7000010 * 32 := Nat.mul_le_mul_left _ this
      omega)
    by_cases hjn : j < n
    · have hjI : (j : Int) < (n : Int) := by omega
      have hjL : j < L.length := by have := HNN.out; omega
      obtain ⟨A', c', hv', hA'⟩ := HSA.out.below HWj.out
      obtain ⟨b, o, hz, hbl, hc⟩ := hA' (by omega)
      injection hv' with i1 _ i3
      subst i3
      rw [hz] at i1
      subst i1
      have x0 : wr.cell? ⟨b, o + j * 2, none⟩ = some (.string (str L[j].1)) := by rw [Nat.mul_comm]; exact hc _ _ (acells_at L j hjL).1
      have x1 : wr.cell? ⟨b, o + j * 2 + 1, none⟩ = some (.string (str L[j].2)) := by rw [Nat.mul_comm, Nat.add_assoc]; exact hc _ _ (acells_at L j hjL).2
      have HNXT := Lib.hid (attrsW_next hjL)
      have HLJ := Lib.hid (HLA.out _ (List.getElem_mem hjL))
      have HJ1 : Hid (j + 1 ≤ L.length) := Lib.hid hjL
      generalize L[j] = x at *
      obtain ⟨an, av⟩ := x
      simp only at x0 x1
      have hanl : an.length ≤ 1000000 := HLJ.out.1
      have havl : (writeR av).length ≤ 6000000 := by have h := (writeR_len av).2; have h2 := HLJ.out.2; simp only at h2; omega
      have hq1 : (⟨#[32]⟩ : ByteArray) ++ str an = str (32 :: an) := cat_str [32] an
      have hq2 : str (32 :: an) ++ (⟨#[61, 34]⟩ : ByteArray) = str (32 :: an ++ [61, 34]) := cat_str (32 :: an) [61, 34]
      have hq3 : str (32 :: an ++ [61, 34]) ++ str (writeR av) = str (32 :: an ++ [61, 34] ++ writeR av) := cat_str _ _
      have hq4 : str (32 :: an ++ [61, 34] ++ writeR av) ++ (⟨#[34]⟩ : ByteArray) = str (attrW (an, av)) := (cat_str (32 :: an ++ [61, 34] ++ writeR av) [34]).trans (by unfold attrW; simp)
      obtain ⟨p1, hp1⟩ : ∃ m, m = 32 :: an := ⟨_, rfl⟩
      rw [← hp1] at hq1 hq2 hq3 hq4
      obtain ⟨p2, hp2⟩ : ∃ m, m = p1 ++ [61, 34] := ⟨_, rfl⟩
      rw [← hp2] at hq2 hq3 hq4
      obtain ⟨p3, hp3⟩ : ∃ m, m = p2 ++ writeR av := ⟨_, rfl⟩
      rw [← hp3] at hq3 hq4
      obtain ⟨p4, hp4⟩ : ∃ m, m = attrW (an, av) := ⟨_, rfl⟩
      rw [← hp4] at hq4
      have hl1 : p1.length ≤ 1000001 := by rw [hp1, List.length_cons]; omega
      have hl2 : p2.length ≤ 1000003 := by rw [hp2, List.length_append]; simp; omega
      have hl3 : p3.length ≤ 7000003 := by rw [hp3, List.length_append]; omega
      have hb1 : ¬ 9223372036854775807 < 1 + an.length := by omega
      have hb2 : ¬ 9223372036854775807 < p1.length + 2 := by omega
      have hb4 : ¬ 9223372036854775807 < p3.length + 1 := by omega
      have HL4 : Hid (p4.length ≤ 7000010) := Lib.hid (by rw [hp4]; exact attrW_len _ HLJ.out.1 HLJ.out.2)
      have HP4 := Lib.hid hp4
      obtain ⟨wv, hwv⟩ : ∃ wv, wv = writeR av := ⟨_, rfl⟩
      rw [← hwv] at hq3 havl
      have HWV := Lib.hid hwv
      have hb3 : ¬ 9223372036854775807 < p2.length + wv.length := by omega
      have BA : Hid (Blk (wr.alloc (.cells #[.string (str an), .string (str av)] 39)) wr.heap.size 39 #[.string (str an), .string (str av)]) := Lib.hid (Blk.fresh _ _ _)
      have hba : Below wr.heap.size wr (wr.alloc (.cells #[.string (str an), .string (str av)] 39)) := (Below.refl _ _).alloc (Nat.le_refl _) _
      have HBA := Lib.hid (Bld.below HBj.out hba)
      have HWA := Lib.hid (below_then HWj.out hba)
      have HZA : Hid (g < (wr.alloc (.cells #[.string (str an), .string (str av)] 39)).heap.size) := Lib.hid (Nat.lt_of_lt_of_le HZj.out hba.size)
      have HAG : Hid (wr.heap.size ≠ g) := Lib.hid (by have h := HZj.out; omega)
      have q0 : (wr.alloc (.cells #[.string (str an), .string (str av)] 39)).drew.cell? ⟨wr.heap.size, 0, none⟩ = some (.string (str an)) := BA.out.cell 0
      have q1 : (wr.alloc (.cells #[.string (str an), .string (str av)] 39)).drew.cell? ⟨wr.heap.size, 1, none⟩ = some (.string (str av)) := BA.out.cell 1
      clear hp1 hp2 hp3 hp4 hba hc hA' hz hjL hbl hwv z2
      go_wp2_with fail
      refine up_start (fun k => k ≠ wr.heap.size) (by kernel_rfl) ?_
      refine up_take (by exact at0) (by kernel_rfl) (by exact fun _ _ _ h => h) (by rfl) (by intro W hW; go_simp; try with_reducible rfl) ?_
      simp only [Act.put, List.setIfInBounds_toArray, List.set_cons_zero, List.set_cons_succ]
      refine up_take (by exact (atS at0)) (by kernel_rfl) (by exact fun _ _ _ h => h) (by rfl) (by intro W hW; go_simp; try with_reducible rfl) ?_
      simp only [Act.put, List.setIfInBounds_toArray, List.set_cons_zero, List.set_cons_succ]
      refine up_take (by exact (atS (atS at0))) (by kernel_rfl) (by exact fun _ _ _ h => h) (by rfl) (by intro W hW; have q9 := cell_up q0 hW (fun h => h rfl); go_simp; try with_reducible rfl) ?_
      simp only [Act.put, List.setIfInBounds_toArray, List.set_cons_zero, List.set_cons_succ]
      refine up_take (by exact (atS (atS (atS at0)))) (by kernel_rfl) (by exact fun _ _ _ h => h) (by rfl) (by intro W hW; go_simp; try with_reducible rfl) ?_
      simp only [Act.put, List.setIfInBounds_toArray, List.set_cons_zero, List.set_cons_succ]
      refine up_take (by exact (atS (atS (atS (atS at0))))) (by kernel_rfl) (by exact fun _ _ _ h => h) (by rfl) (by intro W hW; go_simp; try with_reducible rfl) ?_
      simp only [Act.put, List.setIfInBounds_toArray, List.set_cons_zero, List.set_cons_succ]
      refine up_take (by exact (atS (atS (atS (atS (atS at0)))))) (by kernel_rfl) (by exact fun _ _ _ h => h) (by rfl) (by intro W hW; go_simp; try with_reducible rfl) ?_
      simp only [Act.put, List.setIfInBounds_toArray, List.set_cons_zero, List.set_cons_succ]
      refine up_take (by exact (atS (atS (atS (atS (atS (atS at0))))))) (by kernel_rfl) (by exact fun _ _ _ h => h) (by rfl) (by intro W hW; have q9 := cell_up q1 hW (fun h => h rfl); go_simp; try with_reducible rfl) ?_
      simp only [Act.put, List.setIfInBounds_toArray, List.set_cons_zero, List.set_cons_succ]
      refine up_one (by exact (atS (atS (atS (atS (atS (atS (atS at0)))))))) (by kernel_rfl) (fun K hK => ?_)
      go_simp
      refine (write_any av (wr.alloc (.cells #[.string (str an), .string (str av)] 39)).drew (Sig.below HS.out (drewb2 HWA.out)) (Nat.le_trans HLJ.out.2 (by decide))).mono ?_
      rintro eE wE ⟨rfl, bE0⟩
      rw [← HWV.out]
      have bE : Below (wr.alloc (.cells #[.string (str an), .string (str av)] 39)).heap.size (wr.alloc (.cells #[.string (str an), .string (str av)] 39)) wE := ⟨bE0.os, bE0.tape, bE0.output, bE0.size, bE0.block⟩
      refine hK.out _ _ ⟨bE0.os, bE0.tape, bE0.output, bE0.size, fun k hk _ => bE0.block k hk⟩ ?_
      clear hK K
      have BAE := Lib.hid (BA.out.below bE BA.out.lt)
      have HKE := Lib.hid ((HKj.out.alloc _).below bE)
      have HBE := Lib.hid (Bld.below HBA.out bE)
      have HWE := Lib.hid (below_then HWA.out bE)
      have HZE := Lib.hid (Nat.lt_of_lt_of_le HZA.out bE.size)
      clear bE bE0
      refine up_take (by exact (atS (atS (atS (atS (atS (atS (atS (atS at0))))))))) (by kernel_rfl) (by exact fun _ _ _ h => h) (by rfl) (by intro W hW; go_simp; try with_reducible rfl) ?_
      simp only [Act.put, List.setIfInBounds_toArray, List.set_cons_zero, List.set_cons_succ]
      refine up_take (by exact (atS (atS (atS (atS (atS (atS (atS (atS (atS at0)))))))))) (by kernel_rfl) (by exact fun _ _ _ h => h) (by rfl) (by intro W hW; go_simp; try with_reducible rfl) ?_
      simp only [Act.put, List.setIfInBounds_toArray, List.set_cons_zero, List.set_cons_succ]
      refine up_one (by exact (atS (atS (atS (atS (atS (atS (atS (atS (atS (atS at0))))))))))) (by kernel_rfl) (fun K hK => ?_)
      go_simp
      refine (bld_string g _ p4 _ HBE.out (by rw [List.length_append]; have := HOL.out; have := HTL.out; have := HL4.out; omega) (Nat.le_of_lt HZE.out)).mono ?_
      rintro e9 w9 ⟨rfl, h9, b9, k9⟩
      refine hK.out _ _ ⟨b9.os, b9.tape, b9.output, b9.size, fun k _ hd => by have hk : k = wr.heap.size := Classical.not_not.1 hd; rw [hk]; exact (kept_other k9 BAE.out HAG.out (by decide)).trans BAE.out.symm⟩ ?_
      clear hK K
      have H9 := Lib.hid h9
      have B9 := Lib.hid (below_at HWE.out b9 HG0.out HZE.out)
      have S9 := Lib.hid (Nat.lt_of_lt_of_le HZE.out b9.size)
      have K9 := Lib.hid (HKE.out.trans k9)
      clear h9 b9 k9
      refine up_done (by kernel_rfl) ?_
      go_wp2_with fail
      go_roundw
      case rel => exact ⟨j + 1, HJ1.out, by go_num, by rw [HNXT.out, ← HP4.out, ← List.append_assoc]; exact H9.out, B9.out, S9.out, K9.out⟩
      case measure => have := HJ1.out; simp [intOf]; omega
    · have hjI : ¬ (j : Int) < (n : Int) := by omega
      have HFI : Hid (L.take j = L) := Lib.hid (List.take_of_length_le (by have := HNN.out; omega))
      have HL9 : Hid ((out ++ t1 ++ attrsW (L.take j)).length + [62].length ≤ 140737488355328) := Lib.hid (by have h1 := HOL.out; have h2 := HTL.out; simp only [List.length_append, List.length_cons, List.length_nil] at h1 h2 ⊢; omega)
      go_wp2_with (go_at_call 37; go_must (refine (bld_string g _ [62] _ HBj.out HL9.out (Nat.le_of_lt HZj.out)).mono ?_); rintro e w9 ⟨rfl, h9, b9, k9⟩; have H9 := Lib.hid h9; have B9 := Lib.hid (below_at HWj.out b9 HG0.out HZj.out); have S9 := Lib.hid (Nat.lt_of_lt_of_le HZj.out b9.size); have K9 := Lib.hid (HKj.out.trans k9); clear h9 b9 k9)
      go_end0
      refine ⟨rfl, ?_, B9.out, S9.out, K9.out⟩
      have h := H9.out
      rw [HFI.out, HT1.out] at h
      simpa using h
end Go.Proofs.YtelhdkidnhfnbaaDoor
