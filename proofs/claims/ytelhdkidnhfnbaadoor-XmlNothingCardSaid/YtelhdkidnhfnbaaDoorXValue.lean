/-
  The reader's value: what stands between two signs of the same kind. Conditions: at most a million bytes; the table of signs lies below the reader.
-/
import Derived.Test.YtelhdkidnhfnbaaDoorMgR
import Derived.Test.YtelhdkidnhfnbaaDoorMgS
import Derived.Lib.OthersKept
namespace Go.Proofs.YtelhdkidnhfnbaaDoor
open Go.RowKit

/-- What is between two signs n, and whether they are there; and the rest. -/
def valQ (n : Nat) (l : List UInt8) : (List UInt8 × Bool) × List UInt8 :=
  ((readR ((l.drop 1).takeWhile fun b => b.toNat != n && b.toNat != 60), hasB ((l.drop 1).dropWhile fun b => b.toNat != n && b.toNat != 60) [UInt8.ofNat n]), skipD ((l.drop 1).dropWhile fun b => b.toNat != n && b.toNat != 60) [UInt8.ofNat n])
def valX (l : List UInt8) : (List UInt8 × Bool) × List UInt8 := if hasB l [34] = true then valQ 34 l else if hasB l [39] = true then valQ 39 l else (([], false), l)
theorem Sig.keepsR {g : Nat} {w w' : World} (h : Sig w) (hk : KeepsR g w w') (hg : 0 < g) : Sig w' :=
  ⟨Nat.lt_of_lt_of_le h.1 hk.size, fun i v hv => by
    have h5 : w'.heap[0]? = w.heap[0]? := hk.block 0 h.1 (by intro e; injection e with e; omega)
    exact (World.cell?_of_block (w := w) (a := ⟨0, 0 + i, none⟩) h5).trans (h.2 i v hv)⟩
theorem Blk.keepsR {g q : Nat} {t : TypeId} {cs : Array Value} {w w' : World} (h : Blk w q t cs) (hk : KeepsR g w w') (hq : q ≠ g) : Blk w' q t cs := (hk.block q h.lt (by intro e; injection e with e; exact hq e)).trans h
theorem rune_str (c : Nat) (hc : c = 34 ∨ c = 39) (W : World) : (convert 21 9 (.int .i32 (c : Int))).run Tryd.prog W = .ok (.string (str [UInt8.ofNat c])) W := by
  rcases hc with rfl | rfl
  · kernel_rfl
  · kernel_rfl
def quo : List UInt8 := [34, 39]
def quoN (k : Nat) : Nat := if k = 0 then 34 else 39
theorem next_quo (W : World) (h k : Nat) (ty : TypeId) (hh : W.heap[h]? = some (.stringIter (str quo) k)) (hk : k < 2) : (Instr.next (.pointer (some ⟨h, 0, none⟩)) true ty).run Tryd.prog W = .ok (.tuple #[.bool true, .int .i64 (k : Int), .int .i32 (quoN k : Int)]) (W.iterAt h (str quo) (k + 1)) := by
  have hs : k < (str quo).size := by rw [str_size]; exact hk
  have e : ((str quo)[k]'hs).toNat = quoN k := by
    match k, hk with
    | 0, _ => rfl
    | 1, _ => rfl
  rw [Lib.run_next_ascii_at W h (str quo) k ty hh hs (by rw [e]; unfold quoN; split <;> omega), e]
theorem iterAt_keeps (W : World) (h : Nat) (s : ByteArray) (k : Nat) : W.grownBy (W.iterAt h s k) (some h) :=
  ⟨rfl, rfl, rfl, by simp [World.iterAt], fun j _ hj => by
    have hne : h ≠ j := fun e => hj (by rw [e])
    simp [World.iterAt, hne]⟩
theorem iterAt_self (W : World) (h : Nat) (s : ByteArray) (k : Nat) (hh : h < W.heap.size) : (W.iterAt h s k).heap[h]? = some (.stringIter s k) := by
  simp [World.iterAt, hh]
def ValRel (w : World) (g : Nat) (l : List UInt8) (tk p bf : Value) (_u : Value) (W : World) : Prop :=
  ∃ k : Nat, k ≤ 2 ∧ W.heap[w.heap.size]? = some (.stringIter (str quo) k) ∧ RdrAt W g l tk p bf ∧ KeepsR g w W ∧ Sig W ∧ (∀ j, j < k → hasB l [UInt8.ofNat (quoN j)] = false)
theorem valX_at (l : List UInt8) (k : Nat) (hk : k < 2) (hno : ∀ j, j < k → hasB l [UInt8.ofNat (quoN j)] = false) (hy : hasB l [UInt8.ofNat (quoN k)] = true) : valX l = valQ (quoN k) l := by
  unfold valX
  match k, hk with
  | 0, _ =>
    have hy' : hasB l [34] = true := hy
    rw [if_pos hy']; rfl
  | 1, _ =>
    have h0 := hno 0 (by omega)
    have hy' : hasB l [39] = true := hy
    rw [if_neg (by rw [show hasB l [34] = false from h0]; exact Bool.false_ne_true), if_pos hy']
    rfl
theorem valX_none (l : List UInt8) (hno : ∀ j, j < 2 → hasB l [UInt8.ofNat (quoN j)] = false) : valX l = (([], false), l) := by
  unfold valX
  rw [if_neg (by rw [show hasB l [34] = false from hno 0 (by omega)]; exact Bool.false_ne_true), if_neg (by rw [show hasB l [39] = false from hno 1 (by omega)]; exact Bool.false_ne_true)]
theorem quo_hex (k : Nat) : quoN k = 34 ∨ quoN k = 39 := by unfold quoN; split <;> omega
theorem RdrAt.lt6 {w : World} {g : Nat} {l : List UInt8} {tk p bf : Value} (h : RdrAt w g l tk p bf) : g < w.heap.size := Blk.lt h
theorem RdrAt.below {w w' : World} {g B : Nat} {l : List UInt8} {tk p bf : Value} (h : RdrAt w g l tk p bf) (hb : Below B w w') (hg : g < B) : RdrAt w' g l tk p bf := Blk.below h hb hg
set_option maxHeartbeats 3200000 in
set_option maxRecDepth 100000 in
theorem value_any {w : World} {g : Nat} {l : List UInt8} {tk p bf : Value} (hr : RdrAt w g l tk p bf) (hl : l.length ≤ 1000000) (hS : Sig w) (hg : 0 < g) :
    Calls Tryd.prog 76 #[.pointer (some ⟨g, 0, none⟩)] w (RStep w g (valX l).2 tk p bf (.tuple #[.string (str (valX l).1.1), .bool (valX l).1.2])) := by
  have HR := Lib.hid hr
  have HG := Lib.hid hg
  have HS := Lib.hid hS
  have HL := Lib.hid hl
  have HGW : Hid (g < w.heap.size) := Lib.hid hr.lt6
  obtain ⟨ans, hans⟩ : ∃ ans, ans = valX l := ⟨_, rfl⟩
  rw [← hans]
  have HA := Lib.hid hans
  clear hr hg hS hl hans
  go_enter Tryd.func76, Tryd.ntmps76
  go_wp2_with fail
  go_loopw [5] (ValRel w g l tk p bf) (fun _ wr => 2 - wr.iterPos w.heap.size)
  case atStart =>
    have hb : Below w.heap.size w (w.iter (str quo) 0) := (Below.refl _ _).alloc (Nat.le_refl _) _
    exact ⟨0, by omega, World.iter_heap _ _ _, HR.out.below hb HGW.out, KeepsR.of hb, HS.out.below hb, fun j hj => absurd hj (by omega)⟩
  case round =>
    obtain ⟨k, hk, hit, hr, hkp, hsg, hno⟩ := hrel
    have HR1 := Lib.hid hr
    have HKP := Lib.hid hkp
    have HSG := Lib.hid hsg
    have HNO := Lib.hid hno
    have HIT := Lib.hid hit
    clear hr hkp hsg hno
    by_cases hk2 : k < 2
    · have HK2 := Lib.hid hk2
      have hnx := fun ty => next_quo wr w.heap.size k ty hit hk2
      obtain ⟨n, hn⟩ : ∃ n, n = quoN k := ⟨_, rfl⟩
      have hnq : n = 34 ∨ n = 39 := by rw [hn]; exact quo_hex k
      have hrs := fun W => rune_str n hnq W
      rw [← hn] at hnx
      obtain ⟨wi, hwi⟩ : ∃ wi, wi = wr.iterAt w.heap.size (str quo) (k + 1) := ⟨_, rfl⟩
      rw [← hwi] at hnx
      have hgi : wr.grownBy wi (some w.heap.size) := by rw [hwi]; exact iterAt_keeps _ _ _ _
      have hwl : w.heap.size < wr.heap.size := (Array.getElem?_eq_some_iff.1 HIT.out).1
      have hsi : wi.heap[w.heap.size]? = some (.stringIter (str quo) (k + 1)) := by rw [hwi]; exact iterAt_self _ _ _ _ hwl
      have hng : some g ≠ some w.heap.size := by intro e; injection e with e; have := HGW.out; omega
      have hri : RdrAt wi g l tk p bf := Blk.grown HR1.out hgi hng
      have hsgi : Sig wi := ⟨Nat.lt_of_lt_of_le HSG.out.1 hgi.size, fun i v hv => by
        have h5 : wi.heap[0]? = wr.heap[0]? := hgi.block 0 HSG.out.1 (by intro e; injection e with e; have h1 := HS.out.1; omega)
        exact (World.cell?_of_block (w := wr) (a := ⟨0, 0 + i, none⟩) h5).trans (HSG.out.2 i v hv)⟩
      have hq3 : Blk (wi.alloc (.cells #[.int .i32 (n : Int)] 21)) wi.heap.size 21 #[.int .i32 (n : Int)] := Blk.fresh wi 21 _
      have hb3 : Below wi.heap.size wi (wi.alloc (.cells #[.int .i32 (n : Int)] 21)) := (Below.refl wi.heap.size wi).alloc (Nat.le_refl _) _
      have HQ3 := Lib.hid hq3
      have HB3 := Lib.hid hb3
      have x3 := hq3.cell 0
      have HRI := Lib.hid (hri.below hb3 hri.lt6)
      have HSI := Lib.hid (hsgi.below hb3)
      have HIT3 : Hid ((wi.alloc (.cells #[.int .i32 (n : Int)] 21)).heap[w.heap.size]? = some (.stringIter (str quo) (k + 1))) := Lib.hid ((hb3.block _ (Array.getElem?_eq_some_iff.1 hsi).1).trans hsi)
      have hks := skip_any HRI.out [UInt8.ofNat n]
      have RS := Lib.hid hrs
      have HN := Lib.hid hn
      have HNQ := Lib.hid hnq
      have HWL : Hid (w.heap.size < wi.heap.size) := Lib.hid (Nat.lt_of_lt_of_le hwl hgi.size)
      have HGI : Hid (KeepsR g w wi) := Lib.hid ⟨hgi.os.trans HKP.out.os, hgi.tape.trans HKP.out.tape, hgi.output.trans HKP.out.output, Nat.le_trans HKP.out.size hgi.size, fun j hj hne => (hgi.block j (Nat.lt_of_lt_of_le hj HKP.out.size) (by intro e; injection e with e; omega)).trans (HKP.out.block j hj hne)⟩
      have HK3 : Hid (KeepsR g w (wi.alloc (.cells #[.int .i32 (n : Int)] 21))) := Lib.hid (HGI.out.trans (KeepsR.of hb3))
      have hci := fun W => hrs W
      clear hwi hgi hwl hsi hng hri hsgi hq3 hb3 hn hnq hit hrs hk2
      cases hhb : hasB l [UInt8.ofNat n] with
      | true =>
        have HVX : Hid (ans = valQ n l) := Lib.hid (by rw [HA.out, HN.out]; exact valX_at l k (by have := HK2.out; omega) HNO.out (by rw [← HN.out]; exact hhb))
        have hsd : skipD l [UInt8.ofNat n] = l.drop 1 := by unfold skipD; rw [if_pos hhb]; rfl
        rw [hhb, hsd] at hks
        have KS := Lib.hid hks
        clear hks hsd hhb
        go_wp2_with fail
        refine KS.out.mono ?_
        rintro e w4 ⟨rfl, hr4, hk4⟩
        have HR4 := Lib.hid hr4
        have HK4 := Lib.hid hk4
        have HQ4 := Lib.hid (HQ3.out.keepsR hk4 (by have := HGW.out; have := HWL.out; omega))
        have HSG4 := Lib.hid (HSI.out.keepsR hk4 HG.out)
        clear hr4 hk4 x3
        go_wp2_with fail
        refine (take_val HR4.out (n := n) (by have := HNQ.out; omega) HQ4.out).mono ?_
        rintro e w6 ⟨rfl, hr6, hk6⟩
        have HR6 := Lib.hid hr6
        have HK6 := Lib.hid hk6
        have hq6 := HQ4.out.keepsR hk6 (by have := HGW.out; have := HWL.out; omega)
        have QC : Hid (w6.drew.cell? ⟨wi.heap.size, 0, none⟩ = some (.int .i32 (n : Int))) := Lib.hid (hq6.cell 0)
        have HQG : Hid (¬ (fun k => k = g) wi.heap.size) := Lib.hid (by have := HGW.out; have := HWL.out; show ¬ _ = _; omega)
        have hsg6 := HSG4.out.keepsR hk6 HG.out
        have HSG6 : Hid (Sig w6.drew) := Lib.hid hsg6
        obtain ⟨S1, hS1⟩ : ∃ S1, S1 = (l.drop 1).takeWhile fun b => b.toNat != n && b.toNat != 60 := ⟨_, rfl⟩
        obtain ⟨L1, hL1⟩ : ∃ L1, L1 = (l.drop 1).dropWhile fun b => b.toNat != n && b.toNat != 60 := ⟨_, rfl⟩
        rw [← hL1] at HR6
        rw [← hS1]
        have HLS : Hid (S1.length ≤ 1099511627776) := Lib.hid (by
          have h1 : S1.length ≤ (l.drop 1).length := by rw [hS1]; exact (List.takeWhile_sublist _).length_le
          rw [List.length_drop] at h1
          have := HL.out
          omega)
        have HS1 := Lib.hid hS1
        have HL1 := Lib.hid hL1
        clear hr6 hk6 hq6 hsg6 hS1 hL1 hci
        go_wp2_with fail
        refine up_start (fun k => k = g) (by kernel_rfl) ?_
        refine up_take (by exact at0) (by kernel_rfl) (by exact fun _ _ _ h => h) (by rfl) (by intro W hW; go_simp; try with_reducible rfl) ?_
        simp only [Act.put, List.setIfInBounds_toArray, List.set_cons_zero, List.set_cons_succ]
        refine up_take (by exact (atS (atS at0))) (by kernel_rfl) (by exact fun _ _ _ h => h) (by rfl) (by intro W hW; go_simp; try with_reducible rfl) ?_
        simp only [Act.put, List.setIfInBounds_toArray, List.set_cons_zero, List.set_cons_succ]
        refine up_take (by exact (atS (atS (atS at0)))) (by kernel_rfl) (by exact fun _ _ _ h => h) (by rfl) (by intro W hW; have q := cell_up QC.out hW (by exact HQG.out); go_simp; try with_reducible rfl) ?_
        simp only [Act.put, List.setIfInBounds_toArray, List.set_cons_zero, List.set_cons_succ]
        refine up_take (by exact (atS (atS (atS (atS at0))))) (by kernel_rfl) (by exact fun _ _ _ h => h) (by rfl) (by intro W hW; have q := RS.out W; go_simp; try with_reducible rfl) ?_
        simp only [Act.put, List.setIfInBounds_toArray, List.set_cons_zero, List.set_cons_succ]
        refine up_one (by exact (atS at0)) (by kernel_rfl) (fun K hK => ?_)
        go_simp
        refine (read_any S1 _ HSG6.out HLS.out).mono ?_
        rintro eR wR ⟨rfl, bR⟩
        refine hK.out _ _ (Kept.below bR) ?_
        clear hK K
        have HBR := Lib.hid (drewB bR)
        have HR7 := Lib.hid ((HR6.out).below (drewB bR) (RdrAt.lt6 HR6.out))
        clear bR
        refine up_one (by exact (atS (atS (atS (atS (atS at0)))))) (by kernel_rfl) (fun K hK => ?_)
        go_simp
        refine (skip_any HR7.out [UInt8.ofNat n]).mono ?_
        rintro eK wK ⟨rfl, hrK, hkK⟩
        refine hK.out _ _ (Kept.grown hkK (fun k hk => by injection hk with hk; exact hk.symm)) ?_
        clear hK K
        have HRK := Lib.hid hrK
        have HKK := Lib.hid hkK
        clear hrK hkK
        refine up_take (by exact (atS (atS (atS (atS (atS (atS at0))))))) (by kernel_rfl) (by exact fun _ _ _ h => h) (by rfl) (by intro W hW; go_simp; try with_reducible rfl) ?_
        simp only [Act.put, List.setIfInBounds_toArray, List.set_cons_zero, List.set_cons_succ]
        refine up_take (by exact (atS (atS (atS (atS (atS (atS (atS at0)))))))) (by kernel_rfl) (by exact fun _ _ _ h => h) (by rfl) (by intro W hW; go_simp; try with_reducible rfl) ?_
        simp only [Act.put, List.setIfInBounds_toArray, List.set_cons_zero, List.set_cons_succ]
        refine up_done (by kernel_rfl) ?_
        go_wp2_with fail
        go_ret2
        refine ⟨?_, ?_, ?_⟩
        · rw [HVX.out]
          unfold valQ
          rw [← HS1.out, ← HL1.out]
          rfl
        · rw [HVX.out]
          unfold valQ
          rw [← HL1.out]
          exact HRK.out
        · exact ((((HK3.out.trans HK4.out).trans HK6.out).trans (KeepsR.of HBR.out)).trans HKK.out)
      | false =>
        have hsd : skipD l [UInt8.ofNat n] = l := by unfold skipD; rw [if_neg (by rw [hhb]; exact Bool.false_ne_true)]
        rw [hhb, hsd] at hks
        have KS := Lib.hid hks
        have HHB := Lib.hid hhb
        clear hks hsd hhb
        go_wp2_with fail
        refine KS.out.mono ?_
        rintro e w4 ⟨rfl, hr4, hk4⟩
        have HR4 := Lib.hid hr4
        have HK4 := Lib.hid hk4
        have HSG4 := Lib.hid (HSI.out.keepsR hk4 HG.out)
        have HIT4 : Hid (w4.heap[w.heap.size]? = some (.stringIter (str quo) (k + 1))) := Lib.hid ((hk4.block _ (Array.getElem?_eq_some_iff.1 HIT3.out).1 (by intro e; injection e with e; have := HGW.out; omega)).trans HIT3.out)
        clear hr4 hk4 x3 hci
        go_wp2_with fail
        go_roundw
        case rel =>
          refine ⟨k + 1, by have := HK2.out; omega, HIT4.out, HR4.out, HK3.out.trans HK4.out, HSG4.out, fun j hj => ?_⟩
          by_cases hjk : j < k
          · exact HNO.out j hjk
          · have : j = k := by omega
            subst this
            rw [← HN.out]
            exact HHB.out
        case measure =>
          have h1 : w4.iterPos w.heap.size = k + 1 := by unfold World.iterPos; rw [HIT4.out]
          have h2 : wr.iterPos w.heap.size = k := by unfold World.iterPos; rw [HIT.out]
          have := HK2.out
          rw [h1, h2]
          omega
    · have hke : k = 2 := by omega
      subst hke
      have hnx := fun ty => Lib.run_next_end_at (P := Tryd.prog) wr w.heap.size (str quo) 2 ty hit (by rw [str_size]; decide)
      have HVX : Hid (ans = (([], false), l)) := Lib.hid (by rw [HA.out]; exact valX_none l HNO.out)
      clear hit
      go_wp2_with fail
      go_ret2
      refine ⟨?_, ?_, HKP.out⟩
      · rw [HVX.out]; rfl
      · rw [HVX.out]; exact HR1.out
end Go.Proofs.YtelhdkidnhfnbaaDoor
