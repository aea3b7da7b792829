/-
  DateOfs' call: it answers true. Condition: the table of powers of ten is as the library's text lays it.
-/
import Derived.Test.YtjflfennmeackabDoorDBack
import Derived.Test.YtjflfennmeackabDoorDLives
namespace Go.Proofs.YtjflfennmeackabDoor
open Go.RowKit

set_option maxHeartbeats 1600000 in
set_option maxRecDepth 100000 in
theorem dofs_no (n : Int) (w : World) (hT : Tab w) (hm : mayN n = false) : Calls Tryd.prog 4 #[.int .i64 n] w (Holds w) := by
  have h1 := of_no n w hm
  have h2 := fun w0 => show_no n w0 hm
  have H1 := Lib.hid h1
  have H2 := Lib.hid h2
  have HM := Lib.hid hm
  have HT := Lib.hid hT
  clear h1 h2 hm hT
  go_enter Tryd.func4, Tryd.ntmps4
  go_wp2_with fail
  refine H1.out.mono ?_
  rintro e w1 ⟨rfl, b1⟩
  have hx1 := Blk.fresh w1 23 #[.int .i64 0, .int .i64 0, .int .i64 0, .int .i64 0, .int .i64 0, .int .i64 0]
  have hb1 : Below w.heap.size w (w1.alloc (.cells #[.int .i64 0, .int .i64 0, .int .i64 0, .int .i64 0, .int .i64 0, .int .i64 0] 23)) := b1.alloc b1.size _
  have X1 := Lib.hid hx1
  have B1 := Lib.hid hb1
  clear b1 hx1 hb1
  go_wp2_with fail
  refine (H2.out _).mono ?_
  rintro e w2 ⟨rfl, b2⟩
  have X2 : Hid (Blk w2 w1.heap.size 23 #[.int .i64 0, .int .i64 0, .int .i64 0, .int .i64 0, .int .i64 0, .int .i64 0]) := Lib.hid (X1.out.below b2 X1.out.lt)
  have B2 : Hid (Below w.heap.size w w2) := Lib.hid (B1.out.trans (b2.mono B1.out.size))
  clear b2
  go_wp2_with fail
  refine (lives_any _ (by exact HT.out.next B2.out)).mono ?_
  rintro e w3 ⟨rfl, b3⟩
  have X3 : Hid (Blk w3 w1.heap.size 23 #[.int .i64 0, .int .i64 0, .int .i64 0, .int .i64 0, .int .i64 0, .int .i64 0]) := Lib.hid (X2.out.below b3 X2.out.lt)
  have B3 : Hid (Below w.heap.size w w3) := Lib.hid (B2.out.trans (b3.mono B2.out.size))
  clear b3
  go_wp2_with fail
  refine (rmay_any n _).mono ?_
  rw [HM.out]
  rintro e w4 ⟨rfl, b4⟩
  have X4 : Blk w4 w1.heap.size 23 #[.int .i64 0, .int .i64 0, .int .i64 0, .int .i64 0, .int .i64 0, .int .i64 0] := X3.out.below b4 X3.out.lt
  have B4 : Hid (Below w.heap.size w w4) := Lib.hid (B3.out.trans (b4.mono B3.out.size))
  have c0 : (w4).cell? ⟨w1.heap.size, 0, none⟩ = some (.int .i64 0) := Blk.cell X4 0
  have c1 : (w4).cell? ⟨w1.heap.size, 1, none⟩ = some (.int .i64 0) := Blk.cell X4 1
  have c2 : (w4).cell? ⟨w1.heap.size, 2, none⟩ = some (.int .i64 0) := Blk.cell X4 2
  have c3 : (w4).cell? ⟨w1.heap.size, 3, none⟩ = some (.int .i64 0) := Blk.cell X4 3
  have c4 : (w4).cell? ⟨w1.heap.size, 4, none⟩ = some (.int .i64 0) := Blk.cell X4 4
  have c5 : (w4).cell? ⟨w1.heap.size, 5, none⟩ = some (.int .i64 0) := Blk.cell X4 5
  clear b4 X4
  go_wp2_with fail
  go_ret
  exact ⟨rfl, B4.out⟩

set_option maxHeartbeats 3200000 in
set_option maxRecDepth 100000 in
theorem dofs_yes (n : Int) (w : World) (hT : Tab w) (hm : mayN n = true) : Calls Tryd.prog 4 #[.int .i64 n] w (Holds w) := by
  obtain ⟨y, m, d, h, mi, s, hv, hc, hmom⟩ := date_of n hm
  have hbd := dim_bd y m
  obtain ⟨y, rfl⟩ : ∃ k : Nat, y = (k : Int) := ⟨y.toNat, by have := hv.1; omega⟩
  obtain ⟨m, rfl⟩ : ∃ k : Nat, m = (k : Int) := ⟨m.toNat, by have := hv.2.2.1; omega⟩
  obtain ⟨d, rfl⟩ : ∃ k : Nat, d = (k : Int) := ⟨d.toNat, by have := hv.2.2.2.2.1; omega⟩
  obtain ⟨h, rfl⟩ : ∃ k : Nat, h = (k : Int) := ⟨h.toNat, by have := hc.1; omega⟩
  obtain ⟨mi, rfl⟩ : ∃ k : Nat, mi = (k : Int) := ⟨mi.toNat, by have := hc.2.2.1; omega⟩
  obtain ⟨s, rfl⟩ : ∃ k : Nat, s = (k : Int) := ⟨s.toNat, by have := hc.2.2.2.2.1; omega⟩
  have hof : ∀ w0, Calls Tryd.prog 13 #[.int .i64 n] w0 (Made w0 (.tuple #[.agg #[.int .i64 (y : Int), .int .i64 (m : Int), .int .i64 (d : Int), .int .i64 (h : Int), .int .i64 (mi : Int), .int .i64 (s : Int)], .int .i64 0])) := fun w0 => (of_yes n w0 hm).mono (by
    rintro e w5 ⟨y', m', d', h', mi', s', rfl, hv', hc', hm', hb'⟩
    obtain ⟨rfl, rfl, rfl, rfl, rfl, rfl⟩ := mom_inj hv' hc' hv hc (hm'.trans hmom.symm)
    exact ⟨rfl, hb'⟩)
  have hrof : ∀ w0, Calls Tryd.prog 19 #[.int .i64 n] w0 (Made w0 (.agg #[.int .i64 (y : Int), .int .i64 (m : Int), .int .i64 (d : Int), .int .i64 (h : Int), .int .i64 (mi : Int), .int .i64 (s : Int)])) := fun w0 => (rof_yes n w0 hm).mono (by
    rintro e w5 ⟨y', m', d', h', mi', s', rfl, hv', hc', hm', hb'⟩
    obtain ⟨rfl, rfl, rfl, rfl, rfl, rfl⟩ := mom_inj hv' hc' hv hc (hm'.trans hmom.symm)
    exact ⟨rfl, hb'⟩)
  have hsh : ∀ w0, Tab w0 → Calls Tryd.prog 15 #[.int .i64 n] w0 (Made w0 (.string (str (showL y m d h mi s)))) := fun w0 ht => (show_yes n w0 ht hm).mono (by
    rintro e w5 ⟨y', m', d', h', mi', s', rfl, hv', hc', hm', hb'⟩
    obtain ⟨ey, em, ed, eh, emi, es⟩ := mom_inj hv' hc' hv hc (hm'.trans hmom.symm)
    obtain rfl : y' = y := by omega
    obtain rfl : m' = m := by omega
    obtain rfl : d' = d := by omega
    obtain rfl : h' = h := by omega
    obtain rfl : mi' = mi := by omega
    obtain rfl : s' = s := by omega
    exact ⟨rfl, hb'⟩)
  have hrsh : ∀ w0, Calls Tryd.prog 20 #[.int .i64 n] w0 (Made w0 (.string (str (showL y m d h mi s)))) := fun w0 => (rshow_yes n w0 hm).mono (by
    rintro e w5 ⟨y', m', d', h', mi', s', rfl, hv', hc', hm', hb'⟩
    obtain ⟨ey, em, ed, eh, emi, es⟩ := mom_inj hv' hc' hv hc (hm'.trans hmom.symm)
    obtain rfl : y' = y := by omega
    obtain rfl : m' = m := by omega
    obtain rfl : d' = d := by omega
    obtain rfl : h' = h := by omega
    obtain rfl : mi' = mi := by omega
    obtain rfl : s' = s := by omega
    exact ⟨rfl, hb'⟩)
  have hweb := web_show y m d h mi s n hv hc hmom
  have hslen : (showL y m d h mi s).length = 20 := by unfold showL; simp [padN_len]
  have hanyS : anyS (showL y m d h mi s) = some n := by unfold anyS; rw [hweb]
  have hmo : ∀ w0, Calls Tryd.prog 7 #[.agg #[.int .i64 (y : Int), .int .i64 (m : Int), .int .i64 (d : Int), .int .i64 (h : Int), .int .i64 (mi : Int), .int .i64 (s : Int)]] w0 (Made w0 (.tuple #[.int .i64 n, .int .i64 0])) := fun w0 => by
    have := moment_ok y m d h mi s w0 (valid_okD hv hc)
    rw [hmom] at this
    exact this
  have hwebc : ∀ w0, Calls Tryd.prog 17 #[.string (str (showL y m d h mi s))] w0 (Made w0 (.tuple #[.int .i64 n, .int .i64 0])) := fun w0 => by
    have := web_any (showL y m d h mi s) w0 (by omega)
    rw [hweb] at this
    exact this
  have hanyc : ∀ w0, Calls Tryd.prog 18 #[.string (str (showL y m d h mi s))] w0 (Made w0 (.tuple #[.int .i64 n, .int .i64 0])) := fun w0 => by
    have := any_any (showL y m d h mi s) w0 (by omega)
    rw [hanyS] at this
    exact this
  generalize showL y m d h mi s = L at hsh hrsh hwebc hanyc
  have OF := Lib.hid hof
  have ROF := Lib.hid hrof
  have SH := Lib.hid hsh
  have RSH := Lib.hid hrsh
  have WEB := Lib.hid hwebc
  have ANY := Lib.hid hanyc
  have MO := Lib.hid hmo
  have HM := Lib.hid hm
  have HT := Lib.hid hT
  clear hof hrof hsh hrsh hwebc hanyc hmo hm hT hv hc hmom hbd hweb hslen hanyS
  go_enter Tryd.func4, Tryd.ntmps4
  go_wp2_with fail
  refine (OF.out _).mono ?_
  rintro e w1 ⟨rfl, b1⟩
  have hx1 := Blk.fresh w1 23 #[.int .i64 (y : Int), .int .i64 (m : Int), .int .i64 (d : Int), .int .i64 (h : Int), .int .i64 (mi : Int), .int .i64 (s : Int)]
  have hb1 : Below w.heap.size w (w1.alloc (.cells #[.int .i64 (y : Int), .int .i64 (m : Int), .int .i64 (d : Int), .int .i64 (h : Int), .int .i64 (mi : Int), .int .i64 (s : Int)] 23)) := b1.alloc b1.size _
  have X1 := Lib.hid hx1
  have B1 := Lib.hid hb1
  clear b1 hx1 hb1
  go_wp2_with fail
  refine (SH.out _ (by exact HT.out.next B1.out)).mono ?_
  rintro e w2 ⟨rfl, b2⟩
  have X2 : Hid (Blk w2 w1.heap.size 23 #[.int .i64 (y : Int), .int .i64 (m : Int), .int .i64 (d : Int), .int .i64 (h : Int), .int .i64 (mi : Int), .int .i64 (s : Int)]) := Lib.hid (X1.out.below b2 X1.out.lt)
  have B2 : Hid (Below w.heap.size w w2) := Lib.hid (B1.out.trans (b2.mono B1.out.size))
  clear b2
  go_wp2_with fail
  refine (lives_any _ (by exact HT.out.next B2.out)).mono ?_
  rintro e w3 ⟨rfl, b3⟩
  have X3 : Hid (Blk w3 w1.heap.size 23 #[.int .i64 (y : Int), .int .i64 (m : Int), .int .i64 (d : Int), .int .i64 (h : Int), .int .i64 (mi : Int), .int .i64 (s : Int)]) := Lib.hid (X2.out.below b3 X2.out.lt)
  have B3 : Hid (Below w.heap.size w w3) := Lib.hid (B2.out.trans (b3.mono B2.out.size))
  clear b3
  go_wp2_with fail
  refine (rmay_any n _).mono ?_
  rw [HM.out]
  rintro e w4 ⟨rfl, b4⟩
  have X4 : Hid (Blk w4 w1.heap.size 23 #[.int .i64 (y : Int), .int .i64 (m : Int), .int .i64 (d : Int), .int .i64 (h : Int), .int .i64 (mi : Int), .int .i64 (s : Int)]) := Lib.hid (X3.out.below b4 X3.out.lt)
  have B4 : Hid (Below w.heap.size w w4) := Lib.hid (B3.out.trans (b4.mono B3.out.size))
  clear b4
  have c0 : (w4).cell? ⟨w1.heap.size, 0, none⟩ = some (.int .i64 (y : Int)) := Blk.cell X4.out 0
  have c1 : (w4).cell? ⟨w1.heap.size, 1, none⟩ = some (.int .i64 (m : Int)) := Blk.cell X4.out 1
  have c2 : (w4).cell? ⟨w1.heap.size, 2, none⟩ = some (.int .i64 (d : Int)) := Blk.cell X4.out 2
  have c3 : (w4).cell? ⟨w1.heap.size, 3, none⟩ = some (.int .i64 (h : Int)) := Blk.cell X4.out 3
  have c4 : (w4).cell? ⟨w1.heap.size, 4, none⟩ = some (.int .i64 (mi : Int)) := Blk.cell X4.out 4
  have c5 : (w4).cell? ⟨w1.heap.size, 5, none⟩ = some (.int .i64 (s : Int)) := Blk.cell X4.out 5
  go_wp2_with fail
  refine (MO.out _).mono ?_
  rintro e w5 ⟨rfl, b5⟩
  have X5 : Hid (Blk w5 w1.heap.size 23 #[.int .i64 (y : Int), .int .i64 (m : Int), .int .i64 (d : Int), .int .i64 (h : Int), .int .i64 (mi : Int), .int .i64 (s : Int)]) := Lib.hid (X4.out.below b5 X4.out.lt)
  have B5 : Hid (Below w.heap.size w w5) := Lib.hid (B4.out.trans (b5.mono B4.out.size))
  clear b5
  clear c0 c1 c2 c3 c4 c5
  go_wp2_with fail
  refine (WEB.out _).mono ?_
  rintro e w6 ⟨rfl, b6⟩
  have X6 : Hid (Blk w6 w1.heap.size 23 #[.int .i64 (y : Int), .int .i64 (m : Int), .int .i64 (d : Int), .int .i64 (h : Int), .int .i64 (mi : Int), .int .i64 (s : Int)]) := Lib.hid (X5.out.below b6 X5.out.lt)
  have B6 : Hid (Below w.heap.size w w6) := Lib.hid (B5.out.trans (b6.mono B5.out.size))
  clear b6
  go_wp2_with fail
  refine (ANY.out _).mono ?_
  rintro e w7 ⟨rfl, b7⟩
  have X7 : Hid (Blk w7 w1.heap.size 23 #[.int .i64 (y : Int), .int .i64 (m : Int), .int .i64 (d : Int), .int .i64 (h : Int), .int .i64 (mi : Int), .int .i64 (s : Int)]) := Lib.hid (X6.out.below b7 X6.out.lt)
  have B7 : Hid (Below w.heap.size w w7) := Lib.hid (B6.out.trans (b7.mono B6.out.size))
  clear b7
  have c0 : (w7.drew).cell? ⟨w1.heap.size, 0, none⟩ = some (.int .i64 (y : Int)) := Blk.cell X7.out.drew 0
  have c1 : (w7.drew).cell? ⟨w1.heap.size, 1, none⟩ = some (.int .i64 (m : Int)) := Blk.cell X7.out.drew 1
  have c2 : (w7.drew).cell? ⟨w1.heap.size, 2, none⟩ = some (.int .i64 (d : Int)) := Blk.cell X7.out.drew 2
  have c3 : (w7.drew).cell? ⟨w1.heap.size, 3, none⟩ = some (.int .i64 (h : Int)) := Blk.cell X7.out.drew 3
  have c4 : (w7.drew).cell? ⟨w1.heap.size, 4, none⟩ = some (.int .i64 (mi : Int)) := Blk.cell X7.out.drew 4
  have c5 : (w7.drew).cell? ⟨w1.heap.size, 5, none⟩ = some (.int .i64 (s : Int)) := Blk.cell X7.out.drew 5
  have C0 := Lib.hid c0
  have C1 := Lib.hid c1
  have C2 := Lib.hid c2
  have C3 := Lib.hid c3
  have C4 := Lib.hid c4
  have C5 := Lib.hid c5
  clear c0 c1 c2 c3 c4 c5
  go_wp2_with fail
  refine up_start Nil (by kernel_rfl) ?_
  refine up_take (by exact at0) (by kernel_rfl) (by exact fun _ _ _ h => h) (by rfl) (by intro W hW; go_simp; try with_reducible rfl) ?_
  simp only [Act.put, List.setIfInBounds_toArray, List.set_cons_zero, List.set_cons_succ]
  refine up_take (by exact (atS at0)) (by kernel_rfl) (by exact fun _ _ _ h => h) (by rfl) (by intro W hW; go_simp; try with_reducible rfl) ?_
  simp only [Act.put, List.setIfInBounds_toArray, List.set_cons_zero, List.set_cons_succ]
  refine up_take (by exact (atS (atS at0))) (by kernel_rfl) (by exact fun _ _ _ h => h) (by rfl) (by intro W hW; go_simp; try with_reducible rfl) ?_
  simp only [Act.put, List.setIfInBounds_toArray, List.set_cons_zero, List.set_cons_succ]
  refine up_take (by exact (atS (atS (atS at0)))) (by kernel_rfl) (by exact fun _ _ _ h => h) (by rfl) (by intro W hW; have q0 := cell_up C0.out hW id; have q1 := cell_up C1.out hW id; have q2 := cell_up C2.out hW id; have q3 := cell_up C3.out hW id; have q4 := cell_up C4.out hW id; have q5 := cell_up C5.out hW id; go_simp; try with_reducible rfl) ?_
  simp only [Act.put, List.setIfInBounds_toArray, List.set_cons_zero, List.set_cons_succ]
  refine up_take (by exact (atS (atS (atS (atS at0))))) (by kernel_rfl) (by exact fun _ _ _ h => h) (by rfl) (by intro W hW; go_simp; try with_reducible rfl) ?_
  simp only [Act.put, List.setIfInBounds_toArray, List.set_cons_zero, List.set_cons_succ]
  refine up_one (by exact (atS (atS (atS (atS (atS at0)))))) (by kernel_rfl) (fun K hK => ?_)
  go_simp
  refine (ROF.out _).mono ?_
  rintro e wo ⟨rfl, bo⟩
  refine hK.out _ _ (Kept.below bo) ?_
  clear hK K
  have BO : Hid (Below w.heap.size w wo) := Lib.hid (B7.out.drew.trans (bo.mono (by have := B7.out.size; exact this)))
  clear bo
  refine up_take (by exact (atS (atS (atS (atS (atS (atS at0))))))) (by kernel_rfl) (by exact fun _ _ _ h => h) (by rfl) (by intro W hW; go_simp; try with_reducible rfl) ?_
  simp only [Act.put, List.setIfInBounds_toArray, List.set_cons_zero, List.set_cons_succ]
  refine up_take (by exact (atS (atS (atS (atS (atS (atS (atS at0)))))))) (by kernel_rfl) (by exact fun _ _ _ h => h) (by rfl) (by intro W hW; go_simp; try with_reducible rfl) ?_
  simp only [Act.put, List.setIfInBounds_toArray, List.set_cons_zero, List.set_cons_succ]
  refine up_take (by exact (atS (atS (atS (atS (atS (atS (atS (atS at0))))))))) (by kernel_rfl) (by exact fun _ _ _ h => h) (by rfl) (by intro W hW; go_simp; try with_reducible rfl) ?_
  simp only [Act.put, List.setIfInBounds_toArray, List.set_cons_zero, List.set_cons_succ]
  refine up_take (by exact (atS (atS (atS (atS (atS (atS (atS (atS (atS at0)))))))))) (by kernel_rfl) (by exact fun _ _ _ h => h) (by rfl) (by intro W hW; go_simp; try with_reducible rfl) ?_
  simp only [Act.put, List.setIfInBounds_toArray, List.set_cons_zero, List.set_cons_succ]
  refine up_take (by exact (atS (atS (atS (atS (atS (atS (atS (atS (atS (atS at0))))))))))) (by kernel_rfl) (by exact fun _ _ _ h => h) (by rfl) (by intro W hW; go_simp; try with_reducible rfl) ?_
  simp only [Act.put, List.setIfInBounds_toArray, List.set_cons_zero, List.set_cons_succ]
  refine up_one (by exact (atS (atS (atS (atS (atS (atS (atS (atS (atS (atS (atS at0)))))))))))) (by kernel_rfl) (fun K hK => ?_)
  go_simp
  refine (RSH.out _).mono ?_
  rintro e wh ⟨rfl, bh⟩
  refine hK.out _ _ (Kept.below bh) ?_
  clear hK K
  have BH : Hid (Below w.heap.size w wh) := Lib.hid (BO.out.trans (bh.mono BO.out.size))
  clear bh
  refine up_take (by exact (atS (atS (atS (atS (atS (atS (atS (atS (atS (atS (atS (atS at0))))))))))))) (by kernel_rfl) (by exact fun _ _ _ h => h) (by rfl) (by intro W hW; go_simp; try with_reducible rfl) ?_
  simp only [Act.put, List.setIfInBounds_toArray, List.set_cons_zero, List.set_cons_succ]
  refine up_take (by exact (atS (atS (atS (atS (atS (atS (atS (atS (atS (atS (atS (atS (atS at0)))))))))))))) (by kernel_rfl) (by exact fun _ _ _ h => h) (by rfl) (by intro W hW; go_simp; try with_reducible rfl) ?_
  simp only [Act.put, List.setIfInBounds_toArray, List.set_cons_zero, List.set_cons_succ]
  refine up_take (by exact (atS (atS (atS (atS (atS (atS (atS (atS (atS (atS (atS (atS (atS (atS at0))))))))))))))) (by kernel_rfl) (by exact fun _ _ _ h => h) (by rfl) (by intro W hW; go_simp; try with_reducible rfl) ?_
  simp only [Act.put, List.setIfInBounds_toArray, List.set_cons_zero, List.set_cons_succ]
  refine up_take (by exact (atS (atS (atS (atS (atS (atS (atS (atS (atS (atS (atS (atS (atS (atS (atS at0)))))))))))))))) (by kernel_rfl) (by exact fun _ _ _ h => h) (by rfl) (by intro W hW; go_simp; try with_reducible rfl) ?_
  simp only [Act.put, List.setIfInBounds_toArray, List.set_cons_zero, List.set_cons_succ]
  refine up_take (by exact (atS (atS (atS (atS (atS (atS (atS (atS (atS (atS (atS (atS (atS (atS (atS (atS at0))))))))))))))))) (by kernel_rfl) (by exact fun _ _ _ h => h) (by rfl) (by intro W hW; go_simp; try with_reducible rfl) ?_
  simp only [Act.put, List.setIfInBounds_toArray, List.set_cons_zero, List.set_cons_succ]
  refine up_take (by exact (atS (atS (atS (atS (atS (atS (atS (atS (atS (atS (atS (atS (atS (atS (atS (atS (atS at0)))))))))))))))))) (by kernel_rfl) (by exact fun _ _ _ h => h) (by rfl) (by intro W hW; go_simp; try with_reducible rfl) ?_
  simp only [Act.put, List.setIfInBounds_toArray, List.set_cons_zero, List.set_cons_succ]
  refine up_take (by exact (atS (atS (atS (atS (atS (atS (atS (atS (atS (atS (atS (atS (atS (atS (atS (atS (atS (atS at0))))))))))))))))))) (by kernel_rfl) (by exact fun _ _ _ h => h) (by rfl) (by intro W hW; go_simp; try with_reducible rfl) ?_
  simp only [Act.put, List.setIfInBounds_toArray, List.set_cons_zero, List.set_cons_succ]
  refine up_take (by exact (atS (atS (atS (atS (atS (atS (atS (atS (atS (atS (atS (atS (atS (atS (atS (atS (atS (atS (atS at0)))))))))))))))))))) (by kernel_rfl) (by exact fun _ _ _ h => h) (by rfl) (by intro W hW; go_simp; try with_reducible rfl) ?_
  simp only [Act.put, List.setIfInBounds_toArray, List.set_cons_zero, List.set_cons_succ]
  refine up_take (by exact (atS (atS (atS (atS (atS (atS (atS (atS (atS (atS (atS (atS (atS (atS (atS (atS (atS (atS (atS (atS at0))))))))))))))))))))) (by kernel_rfl) (by exact fun _ _ _ h => h) (by rfl) (by intro W hW; go_simp; try with_reducible rfl) ?_
  simp only [Act.put, List.setIfInBounds_toArray, List.set_cons_zero, List.set_cons_succ]
  refine up_take (by exact (atS (atS (atS (atS (atS (atS (atS (atS (atS (atS (atS (atS (atS (atS (atS (atS (atS (atS (atS (atS (atS at0)))))))))))))))))))))) (by kernel_rfl) (by exact fun _ _ _ h => h) (by rfl) (by intro W hW; go_simp; try with_reducible rfl) ?_
  simp only [Act.put, List.setIfInBounds_toArray, List.set_cons_zero, List.set_cons_succ]
  refine up_take (by exact (atS (atS (atS (atS (atS (atS (atS (atS (atS (atS (atS (atS (atS (atS (atS (atS (atS (atS (atS (atS (atS (atS at0))))))))))))))))))))))) (by kernel_rfl) (by exact fun _ _ _ h => h) (by rfl) (by intro W hW; go_simp; try with_reducible rfl) ?_
  simp only [Act.put, List.setIfInBounds_toArray, List.set_cons_zero, List.set_cons_succ]
  refine up_take (by exact (atS (atS (atS (atS (atS (atS (atS (atS (atS (atS (atS (atS (atS (atS (atS (atS (atS (atS (atS (atS (atS (atS (atS at0)))))))))))))))))))))))) (by kernel_rfl) (by exact fun _ _ _ h => h) (by rfl) (by intro W hW; go_simp; try with_reducible rfl) ?_
  simp only [Act.put, List.setIfInBounds_toArray, List.set_cons_zero, List.set_cons_succ]
  refine up_take (by exact (atS (atS (atS (atS (atS (atS (atS (atS (atS (atS (atS (atS (atS (atS (atS (atS (atS (atS (atS (atS (atS (atS (atS (atS at0))))))))))))))))))))))))) (by kernel_rfl) (by exact fun _ _ _ h => h) (by rfl) (by intro W hW; go_simp; try with_reducible rfl) ?_
  simp only [Act.put, List.setIfInBounds_toArray, List.set_cons_zero, List.set_cons_succ]
  refine up_take (by exact (atS (atS (atS (atS (atS (atS (atS (atS (atS (atS (atS (atS (atS (atS (atS (atS (atS (atS (atS (atS (atS (atS (atS (atS (atS at0)))))))))))))))))))))))))) (by kernel_rfl) (by exact fun _ _ _ h => h) (by rfl) (by intro W hW; go_simp; try with_reducible rfl) ?_
  simp only [Act.put, List.setIfInBounds_toArray, List.set_cons_zero, List.set_cons_succ]
  refine up_take (by exact (atS (atS (atS (atS (atS (atS (atS (atS (atS (atS (atS (atS (atS (atS (atS (atS (atS (atS (atS (atS (atS (atS (atS (atS (atS (atS at0))))))))))))))))))))))))))) (by kernel_rfl) (by exact fun _ _ _ h => h) (by rfl) (by intro W hW; go_simp; try with_reducible rfl) ?_
  simp only [Act.put, List.setIfInBounds_toArray, List.set_cons_zero, List.set_cons_succ]
  refine up_take (by exact (atS (atS (atS (atS (atS (atS (atS (atS (atS (atS (atS (atS (atS (atS (atS (atS (atS (atS (atS (atS (atS (atS (atS (atS (atS (atS (atS at0)))))))))))))))))))))))))))) (by kernel_rfl) (by exact fun _ _ _ h => h) (by rfl) (by intro W hW; go_simp; try with_reducible rfl) ?_
  simp only [Act.put, List.setIfInBounds_toArray, List.set_cons_zero, List.set_cons_succ]
  refine up_take (by exact (atS (atS (atS (atS (atS (atS (atS (atS (atS (atS (atS (atS (atS (atS (atS (atS (atS (atS (atS (atS (atS (atS (atS (atS (atS (atS (atS (atS at0))))))))))))))))))))))))))))) (by kernel_rfl) (by exact fun _ _ _ h => h) (by rfl) (by intro W hW; go_simp; try with_reducible rfl) ?_
  simp only [Act.put, List.setIfInBounds_toArray, List.set_cons_zero, List.set_cons_succ]
  refine up_take (by exact (atS (atS (atS (atS (atS (atS (atS (atS (atS (atS (atS (atS (atS (atS (atS (atS (atS (atS (atS (atS (atS (atS (atS (atS (atS (atS (atS (atS (atS at0)))))))))))))))))))))))))))))) (by kernel_rfl) (by exact fun _ _ _ h => h) (by rfl) (by intro W hW; go_simp; try with_reducible rfl) ?_
  simp only [Act.put, List.setIfInBounds_toArray, List.set_cons_zero, List.set_cons_succ]
  refine up_take (by exact (atS (atS (atS (atS (atS (atS (atS (atS (atS (atS (atS (atS (atS (atS (atS (atS (atS (atS (atS (atS (atS (atS (atS (atS (atS (atS (atS (atS (atS (atS at0))))))))))))))))))))))))))))))) (by kernel_rfl) (by exact fun _ _ _ h => h) (by rfl) (by intro W hW; go_simp; try with_reducible rfl) ?_
  simp only [Act.put, List.setIfInBounds_toArray, List.set_cons_zero, List.set_cons_succ]
  refine up_take (by exact (atS (atS (atS (atS (atS (atS (atS (atS (atS (atS (atS (atS (atS (atS (atS (atS (atS (atS (atS (atS (atS (atS (atS (atS (atS (atS (atS (atS (atS (atS (atS at0)))))))))))))))))))))))))))))))) (by kernel_rfl) (by exact fun _ _ _ h => h) (by rfl) (by intro W hW; go_simp; try with_reducible rfl) ?_
  simp only [Act.put, List.setIfInBounds_toArray, List.set_cons_zero, List.set_cons_succ]
  refine up_take (by exact (atS (atS (atS (atS (atS (atS (atS (atS (atS (atS (atS (atS (atS (atS (atS (atS (atS (atS (atS (atS (atS (atS (atS (atS (atS (atS (atS (atS (atS (atS (atS (atS at0))))))))))))))))))))))))))))))))) (by kernel_rfl) (by exact fun _ _ _ h => h) (by rfl) (by intro W hW; go_simp; try with_reducible rfl) ?_
  simp only [Act.put, List.setIfInBounds_toArray, List.set_cons_zero, List.set_cons_succ]
  refine up_take (by exact (atS (atS (atS (atS (atS (atS (atS (atS (atS (atS (atS (atS (atS (atS (atS (atS (atS (atS (atS (atS (atS (atS (atS (atS (atS (atS (atS (atS (atS (atS (atS (atS (atS at0)))))))))))))))))))))))))))))))))) (by kernel_rfl) (by exact fun _ _ _ h => h) (by rfl) (by intro W hW; go_simp; try with_reducible rfl) ?_
  simp only [Act.put, List.setIfInBounds_toArray, List.set_cons_zero, List.set_cons_succ]
  refine up_take (by exact (atS (atS (atS (atS (atS (atS (atS (atS (atS (atS (atS (atS (atS (atS (atS (atS (atS (atS (atS (atS (atS (atS (atS (atS (atS (atS (atS (atS (atS (atS (atS (atS (atS (atS at0))))))))))))))))))))))))))))))))))) (by kernel_rfl) (by exact fun _ _ _ h => h) (by rfl) (by intro W hW; go_simp; try with_reducible rfl) ?_
  simp only [Act.put, List.setIfInBounds_toArray, List.set_cons_zero, List.set_cons_succ]
  refine up_take (by exact (atS (atS (atS (atS (atS (atS (atS (atS (atS (atS (atS (atS (atS (atS (atS (atS (atS (atS (atS (atS (atS (atS (atS (atS (atS (atS (atS (atS (atS (atS (atS (atS (atS (atS (atS at0)))))))))))))))))))))))))))))))))))) (by kernel_rfl) (by exact fun _ _ _ h => h) (by rfl) (by intro W hW; go_simp; try with_reducible rfl) ?_
  simp only [Act.put, List.setIfInBounds_toArray, List.set_cons_zero, List.set_cons_succ]
  refine up_take (by exact (atS (atS (atS (atS (atS (atS (atS (atS (atS (atS (atS (atS (atS (atS (atS (atS (atS (atS (atS (atS (atS (atS (atS (atS (atS (atS (atS (atS (atS (atS (atS (atS (atS (atS (atS (atS at0))))))))))))))))))))))))))))))))))))) (by kernel_rfl) (by exact fun _ _ _ h => h) (by rfl) (by intro W hW; go_simp; try with_reducible rfl) ?_
  simp only [Act.put, List.setIfInBounds_toArray, List.set_cons_zero, List.set_cons_succ]
  refine up_take (by exact (atS (atS (atS (atS (atS (atS (atS (atS (atS (atS (atS (atS (atS (atS (atS (atS (atS (atS (atS (atS (atS (atS (atS (atS (atS (atS (atS (atS (atS (atS (atS (atS (atS (atS (atS (atS (atS at0)))))))))))))))))))))))))))))))))))))) (by kernel_rfl) (by exact fun _ _ _ h => h) (by rfl) (by intro W hW; go_simp; try with_reducible rfl) ?_
  simp only [Act.put, List.setIfInBounds_toArray, List.set_cons_zero, List.set_cons_succ]
  refine up_take (by exact (atS (atS (atS (atS (atS (atS (atS (atS (atS (atS (atS (atS (atS (atS (atS (atS (atS (atS (atS (atS (atS (atS (atS (atS (atS (atS (atS (atS (atS (atS (atS (atS (atS (atS (atS (atS (atS (atS at0))))))))))))))))))))))))))))))))))))))) (by kernel_rfl) (by exact fun _ _ _ h => h) (by rfl) (by intro W hW; go_simp; try with_reducible rfl) ?_
  simp only [Act.put, List.setIfInBounds_toArray, List.set_cons_zero, List.set_cons_succ]
  refine up_take (by exact (atS (atS (atS (atS (atS (atS (atS (atS (atS (atS (atS (atS (atS (atS (atS (atS (atS (atS (atS (atS (atS (atS (atS (atS (atS (atS (atS (atS (atS (atS (atS (atS (atS (atS (atS (atS (atS (atS (atS at0)))))))))))))))))))))))))))))))))))))))) (by kernel_rfl) (by exact fun _ _ _ h => h) (by rfl) (by intro W hW; go_simp; try with_reducible rfl) ?_
  simp only [Act.put, List.setIfInBounds_toArray, List.set_cons_zero, List.set_cons_succ]
  refine up_take (by exact (atS (atS (atS (atS (atS (atS (atS (atS (atS (atS (atS (atS (atS (atS (atS (atS (atS (atS (atS (atS (atS (atS (atS (atS (atS (atS (atS (atS (atS (atS (atS (atS (atS (atS (atS (atS (atS (atS (atS (atS at0))))))))))))))))))))))))))))))))))))))))) (by kernel_rfl) (by exact fun _ _ _ h => h) (by rfl) (by intro W hW; go_simp; try with_reducible rfl) ?_
  simp only [Act.put, List.setIfInBounds_toArray, List.set_cons_zero, List.set_cons_succ]
  refine up_take (by exact (atS (atS (atS (atS (atS (atS (atS (atS (atS (atS (atS (atS (atS (atS (atS (atS (atS (atS (atS (atS (atS (atS (atS (atS (atS (atS (atS (atS (atS (atS (atS (atS (atS (atS (atS (atS (atS (atS (atS (atS (atS at0)))))))))))))))))))))))))))))))))))))))))) (by kernel_rfl) (by exact fun _ _ _ h => h) (by rfl) (by intro W hW; go_simp; try with_reducible rfl) ?_
  simp only [Act.put, List.setIfInBounds_toArray, List.set_cons_zero, List.set_cons_succ]
  refine up_done (by kernel_rfl) ?_
  go_wp2_with fail
  go_ret
  exact ⟨rfl, BH.out⟩

theorem dofs_any (n : Int) (w : World) (hT : Tab w) : Calls Tryd.prog 4 #[.int .i64 n] w (Holds w) := by
  cases hm : mayN n with
  | true => exact dofs_yes n w hT hm
  | false => exact dofs_no n w hT hm
end Go.Proofs.YtjflfennmeackabDoor
