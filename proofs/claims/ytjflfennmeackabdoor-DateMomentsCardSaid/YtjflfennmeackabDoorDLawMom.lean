/-
  DateMoments' call: it answers true. Condition: the table of powers of ten is as the library's text lays it.
-/
import Derived.Test.YtjflfennmeackabDoorDLives
namespace Go.Proofs.YtjflfennmeackabDoor
open Go.RowKit

set_option maxHeartbeats 3200000 in
set_option maxRecDepth 100000 in
theorem dmom_no (y m d h mi s : Int) (w : World) (hT : Tab w) (hk : ¬ okD y m d h mi s) :
    Calls Tryd.prog 3 #[.agg #[.int .i64 y, .int .i64 m, .int .i64 d, .int .i64 h, .int .i64 mi, .int .i64 s]] w (Holds w) := by
  have HK := Lib.hid hk
  clear hk
  have hblk := Blk.fresh w 23 #[.int .i64 y, .int .i64 m, .int .i64 d, .int .i64 h, .int .i64 mi, .int .i64 s]
  have HB0 := Lib.hid hblk
  have HT := Lib.hid hT
  clear hblk hT
  go_enter Tryd.func3, Tryd.ntmps3
  go_wp2_with fail
  refine (moment_no y m d h mi s _ HK.out).mono ?_
  rintro e w1 ⟨rfl, b1⟩
  have hb1 : Below w.heap.size w w1 := ((Below.refl _ _).alloc (Nat.le_refl _) _).trans (b1.mono (by simp))
  have hd1 : Blk w1 w.heap.size 23 #[.int .i64 y, .int .i64 m, .int .i64 d, .int .i64 h, .int .i64 mi, .int .i64 s] := HB0.out.below b1 (by simp)
  have B1 := Lib.hid hb1
  have D1 := Lib.hid hd1
  have TB : Hid (Tab w1.drew) := Lib.hid (Tab.drew (HT.out.next hb1))
  have c0 : (w1.drew).cell? ⟨w.heap.size, 0, none⟩ = some (.int .i64 y) := Blk.cell hd1.drew 0
  have c1 : (w1.drew).cell? ⟨w.heap.size, 1, none⟩ = some (.int .i64 m) := Blk.cell hd1.drew 1
  have c2 : (w1.drew).cell? ⟨w.heap.size, 2, none⟩ = some (.int .i64 d) := Blk.cell hd1.drew 2
  have c3 : (w1.drew).cell? ⟨w.heap.size, 3, none⟩ = some (.int .i64 h) := Blk.cell hd1.drew 3
  have c4 : (w1.drew).cell? ⟨w.heap.size, 4, none⟩ = some (.int .i64 mi) := Blk.cell hd1.drew 4
  have c5 : (w1.drew).cell? ⟨w.heap.size, 5, none⟩ = some (.int .i64 s) := Blk.cell hd1.drew 5
  have C0 := Lib.hid c0
  have C1 := Lib.hid c1
  have C2 := Lib.hid c2
  have C3 := Lib.hid c3
  have C4 := Lib.hid c4
  have C5 := Lib.hid c5
  clear c0 c1 c2 c3 c4 c5
  clear b1 hb1 hd1
  go_wp2_with fail
  refine up_start Nil (by kernel_rfl) ?_
  refine up_one (by exact at0) (by kernel_rfl) (fun K hK => ?_)
  go_simp
  refine (lives_any _ (by exact TB.out)).mono ?_
  rintro e wl ⟨rfl, bl⟩
  refine hK.out _ _ (Kept.below bl) ?_
  clear hK K
  have kl : Kept Nil w1.drew wl := Kept.below bl
  have bl2 : Below w.heap.size w wl := (B1.out.drew).trans (bl.mono (by have := B1.out.size; exact this))
  have D2 : Hid (Blk wl w.heap.size 23 #[.int .i64 y, .int .i64 m, .int .i64 d, .int .i64 h, .int .i64 mi, .int .i64 s]) := Lib.hid (Blk.below D1.out.drew bl D1.out.lt)
  have BL := Lib.hid bl2
  have TL := Lib.hid (TB.out.next bl)
  clear bl bl2
  refine up_take (by exact (atS at0)) (by kernel_rfl) (by exact fun _ _ _ h => h) (by rfl) (by intro W hW; go_simp; try with_reducible rfl) ?_
  simp only [Act.put, List.setIfInBounds_toArray, List.set_cons_zero, List.set_cons_succ]
  refine up_take (by exact (atS (atS at0))) (by kernel_rfl) (by exact fun _ _ _ h => h) (by rfl) (by intro W hW; go_simp; try with_reducible rfl) ?_
  simp only [Act.put, List.setIfInBounds_toArray, List.set_cons_zero, List.set_cons_succ]
  refine up_take (by exact (atS (atS (atS at0)))) (by kernel_rfl) (by exact fun _ _ _ h => h) (by rfl) (by intro W hW; go_simp; try with_reducible rfl) ?_
  simp only [Act.put, List.setIfInBounds_toArray, List.set_cons_zero, List.set_cons_succ]
  refine up_take (by exact (atS (atS (atS (atS at0))))) (by kernel_rfl) (by exact fun _ _ _ h => h) (by rfl) (by intro W hW; have q := cell_up C0.out (Kept.trans kl hW) id; go_simp; try with_reducible rfl) ?_
  simp only [Act.put, List.setIfInBounds_toArray, List.set_cons_zero, List.set_cons_succ]
  refine up_take (by exact (atS (atS (atS (atS (atS at0)))))) (by kernel_rfl) (by exact fun _ _ _ h => h) (by rfl) (by intro W hW; go_simp; try with_reducible rfl) ?_
  simp only [Act.put, List.setIfInBounds_toArray, List.set_cons_zero, List.set_cons_succ]
  refine up_take (by exact (atS (atS (atS (atS (atS (atS at0))))))) (by kernel_rfl) (by exact fun _ _ _ h => h) (by rfl) (by intro W hW; have q := cell_up C1.out (Kept.trans kl hW) id; go_simp; try with_reducible rfl) ?_
  simp only [Act.put, List.setIfInBounds_toArray, List.set_cons_zero, List.set_cons_succ]
  refine up_take (by exact (atS (atS (atS (atS (atS (atS (atS (atS at0))))))))) (by kernel_rfl) (by exact fun _ _ _ h => h) (by rfl) (by intro W hW; go_simp; try with_reducible rfl) ?_
  simp only [Act.put, List.setIfInBounds_toArray, List.set_cons_zero, List.set_cons_succ]
  refine up_take (by exact (atS (atS (atS (atS (atS (atS (atS (atS (atS at0)))))))))) (by kernel_rfl) (by exact fun _ _ _ h => h) (by rfl) (by intro W hW; have q := cell_up C0.out (Kept.trans kl hW) id; go_simp; try with_reducible rfl) ?_
  simp only [Act.put, List.setIfInBounds_toArray, List.set_cons_zero, List.set_cons_succ]
  refine up_take (by exact (atS (atS (atS (atS (atS (atS (atS (atS (atS (atS at0))))))))))) (by kernel_rfl) (by exact fun _ _ _ h => h) (by rfl) (by intro W hW; go_simp; try with_reducible rfl) ?_
  simp only [Act.put, List.setIfInBounds_toArray, List.set_cons_zero, List.set_cons_succ]
  refine up_take (by exact (atS (atS (atS (atS (atS (atS (atS (atS (atS (atS (atS at0)))))))))))) (by kernel_rfl) (by exact fun _ _ _ h => h) (by rfl) (by intro W hW; have q := cell_up C1.out (Kept.trans kl hW) id; go_simp; try with_reducible rfl) ?_
  simp only [Act.put, List.setIfInBounds_toArray, List.set_cons_zero, List.set_cons_succ]
  refine up_one (by exact (atS (atS (atS (atS (atS (atS (atS at0)))))))) (by kernel_rfl) (fun K hK => ?_)
  go_simp
  refine (days_any _ _ _).mono ?_
  rintro e w9 ⟨rfl, rfl⟩
  refine hK.out _ _ (Kept.refl _ _) ?_
  clear hK K
  refine up_one (by exact (atS (atS (atS (atS (atS (atS (atS (atS (atS (atS (atS (atS at0))))))))))))) (by kernel_rfl) (fun K hK => ?_)
  go_simp
  refine (rdays_any _ _ _).mono ?_
  rintro e w9 ⟨rfl, rfl⟩
  refine hK.out _ _ (Kept.refl _ _) ?_
  clear hK K
  refine up_take (by exact (atS (atS (atS (atS (atS (atS (atS (atS (atS (atS (atS (atS (atS at0)))))))))))))) (by kernel_rfl) (by exact fun _ _ _ h => h) (by rfl) (by intro W hW; go_simp; try with_reducible rfl) ?_
  simp only [Act.put, List.setIfInBounds_toArray, List.set_cons_zero, List.set_cons_succ]
  refine up_take (by exact (atS (atS (atS (atS (atS (atS (atS (atS (atS (atS (atS (atS (atS (atS at0))))))))))))))) (by kernel_rfl) (by exact fun _ _ _ h => h) (by rfl) (by intro W hW; go_simp; try with_reducible rfl) ?_
  simp only [Act.put, List.setIfInBounds_toArray, List.set_cons_zero, List.set_cons_succ]
  refine up_done (by kernel_rfl) ?_
  have c0 : (wl).cell? ⟨w.heap.size, 0, none⟩ = some (.int .i64 y) := Blk.cell D2.out 0
  have c1 : (wl).cell? ⟨w.heap.size, 1, none⟩ = some (.int .i64 m) := Blk.cell D2.out 1
  have c2 : (wl).cell? ⟨w.heap.size, 2, none⟩ = some (.int .i64 d) := Blk.cell D2.out 2
  have c3 : (wl).cell? ⟨w.heap.size, 3, none⟩ = some (.int .i64 h) := Blk.cell D2.out 3
  have c4 : (wl).cell? ⟨w.heap.size, 4, none⟩ = some (.int .i64 mi) := Blk.cell D2.out 4
  have c5 : (wl).cell? ⟨w.heap.size, 5, none⟩ = some (.int .i64 s) := Blk.cell D2.out 5
  go_wp2_with fail
  refine (rcheck_no y m d h mi s _ HK.out).mono ?_
  rintro e w3 ⟨rfl, b3⟩
  have D3 : Hid (Blk w3 w.heap.size 23 #[.int .i64 y, .int .i64 m, .int .i64 d, .int .i64 h, .int .i64 mi, .int .i64 s]) := Lib.hid (D2.out.below b3 D2.out.lt)
  have hb3 : Below w.heap.size w w3 := BL.out.trans (b3.mono BL.out.size)
  clear c0 c1 c2 c3 c4 c5
  have c0 : (w3).cell? ⟨w.heap.size, 0, none⟩ = some (.int .i64 y) := Blk.cell D3.out 0
  have c1 : (w3).cell? ⟨w.heap.size, 1, none⟩ = some (.int .i64 m) := Blk.cell D3.out 1
  have c2 : (w3).cell? ⟨w.heap.size, 2, none⟩ = some (.int .i64 d) := Blk.cell D3.out 2
  have c3 : (w3).cell? ⟨w.heap.size, 3, none⟩ = some (.int .i64 h) := Blk.cell D3.out 3
  have c4 : (w3).cell? ⟨w.heap.size, 4, none⟩ = some (.int .i64 mi) := Blk.cell D3.out 4
  have c5 : (w3).cell? ⟨w.heap.size, 5, none⟩ = some (.int .i64 s) := Blk.cell D3.out 5
  clear b3
  go_wp2_with fail
  refine (check_no y m d h mi s _ HK.out).mono ?_
  rintro e w4 ⟨rfl, b4⟩
  have hb4 : Below w.heap.size w w4 := hb3.trans (b4.mono hb3.size)
  go_wp2_with fail
  go_ret
  exact ⟨rfl, hb4⟩

set_option maxHeartbeats 3200000 in
set_option maxRecDepth 100000 in
theorem dmom_ok (y m d h mi s : Int) (w : World) (hT : Tab w) (hk : okD y m d h mi s) :
    Calls Tryd.prog 3 #[.agg #[.int .i64 y, .int .i64 m, .int .i64 d, .int .i64 h, .int .i64 mi, .int .i64 s]] w (Holds w) := by
  obtain ⟨hv, hc⟩ := okD_valid hk
  have hrg := mom_range hv hc
  have hm1 := fun w0 => moment_ok y m d h mi s w0 hk
  have hm2 := fun w0 => rmoment_any y m d h mi s w0 hv hc
  have hofp : ∀ w0, Calls Tryd.prog 13 #[.int .i64 (momN y m d h mi s)] w0 (Made w0 (.tuple #[.agg #[.int .i64 y, .int .i64 m, .int .i64 d, .int .i64 h, .int .i64 mi, .int .i64 s], .int .i64 0])) := fun w0 => (of_yes (momN y m d h mi s) w0 ((may_iff _).2 hrg)).mono (by
    rintro e w5 ⟨y', m', d', h', mi', s', rfl, hv', hc', hm', hb'⟩
    obtain ⟨rfl, rfl, rfl, rfl, rfl, rfl⟩ := mom_inj hv' hc' hv hc hm'
    exact ⟨rfl, hb'⟩)
  generalize momN y m d h mi s = M at hm1 hm2 hofp
  have HK := Lib.hid hk
  have HM1 := Lib.hid hm1
  have HM2 := Lib.hid hm2
  have HO := Lib.hid hofp
  clear hk hv hc hrg hm1 hm2 hofp
  have hblk := Blk.fresh w 23 #[.int .i64 y, .int .i64 m, .int .i64 d, .int .i64 h, .int .i64 mi, .int .i64 s]
  have HB0 := Lib.hid hblk
  have HT := Lib.hid hT
  clear hblk hT
  go_enter Tryd.func3, Tryd.ntmps3
  go_wp2_with fail
  refine (HM1.out _).mono ?_
  rintro e w1 ⟨rfl, b1⟩
  have hb1 : Below w.heap.size w w1 := ((Below.refl _ _).alloc (Nat.le_refl _) _).trans (b1.mono (by simp))
  have hd1 : Blk w1 w.heap.size 23 #[.int .i64 y, .int .i64 m, .int .i64 d, .int .i64 h, .int .i64 mi, .int .i64 s] := HB0.out.below b1 (by simp)
  have B1 := Lib.hid hb1
  have D1 := Lib.hid hd1
  have TB : Hid (Tab w1.drew) := Lib.hid (Tab.drew (HT.out.next hb1))
  have c0 : (w1.drew).cell? ⟨w.heap.size, 0, none⟩ = some (.int .i64 y) := Blk.cell hd1.drew 0
  have c1 : (w1.drew).cell? ⟨w.heap.size, 1, none⟩ = some (.int .i64 m) := Blk.cell hd1.drew 1
  have c2 : (w1.drew).cell? ⟨w.heap.size, 2, none⟩ = some (.int .i64 d) := Blk.cell hd1.drew 2
  have c3 : (w1.drew).cell? ⟨w.heap.size, 3, none⟩ = some (.int .i64 h) := Blk.cell hd1.drew 3
  have c4 : (w1.drew).cell? ⟨w.heap.size, 4, none⟩ = some (.int .i64 mi) := Blk.cell hd1.drew 4
  have c5 : (w1.drew).cell? ⟨w.heap.size, 5, none⟩ = some (.int .i64 s) := Blk.cell hd1.drew 5
  have C0 := Lib.hid c0
  have C1 := Lib.hid c1
  have C2 := Lib.hid c2
  have C3 := Lib.hid c3
  have C4 := Lib.hid c4
  have C5 := Lib.hid c5
  clear c0 c1 c2 c3 c4 c5
  clear b1 hb1 hd1
  go_wp2_with fail
  refine up_start Nil (by kernel_rfl) ?_
  refine up_one (by exact at0) (by kernel_rfl) (fun K hK => ?_)
  go_simp
  refine (lives_any _ (by exact TB.out)).mono ?_
  rintro e wl ⟨rfl, bl⟩
  refine hK.out _ _ (Kept.below bl) ?_
  clear hK K
  have kl : Kept Nil w1.drew wl := Kept.below bl
  have bl2 : Below w.heap.size w wl := (B1.out.drew).trans (bl.mono (by have := B1.out.size; exact this))
  have D2 : Hid (Blk wl w.heap.size 23 #[.int .i64 y, .int .i64 m, .int .i64 d, .int .i64 h, .int .i64 mi, .int .i64 s]) := Lib.hid (Blk.below D1.out.drew bl D1.out.lt)
  have BL := Lib.hid bl2
  have TL := Lib.hid (TB.out.next bl)
  clear bl bl2
  refine up_take (by exact (atS at0)) (by kernel_rfl) (by exact fun _ _ _ h => h) (by rfl) (by intro W hW; go_simp; try with_reducible rfl) ?_
  simp only [Act.put, List.setIfInBounds_toArray, List.set_cons_zero, List.set_cons_succ]
  refine up_take (by exact (atS (atS at0))) (by kernel_rfl) (by exact fun _ _ _ h => h) (by rfl) (by intro W hW; go_simp; try with_reducible rfl) ?_
  simp only [Act.put, List.setIfInBounds_toArray, List.set_cons_zero, List.set_cons_succ]
  refine up_take (by exact (atS (atS (atS at0)))) (by kernel_rfl) (by exact fun _ _ _ h => h) (by rfl) (by intro W hW; go_simp; try with_reducible rfl) ?_
  simp only [Act.put, List.setIfInBounds_toArray, List.set_cons_zero, List.set_cons_succ]
  refine up_take (by exact (atS (atS (atS (atS at0))))) (by kernel_rfl) (by exact fun _ _ _ h => h) (by rfl) (by intro W hW; have q := cell_up C0.out (Kept.trans kl hW) id; go_simp; try with_reducible rfl) ?_
  simp only [Act.put, List.setIfInBounds_toArray, List.set_cons_zero, List.set_cons_succ]
  refine up_take (by exact (atS (atS (atS (atS (atS at0)))))) (by kernel_rfl) (by exact fun _ _ _ h => h) (by rfl) (by intro W hW; go_simp; try with_reducible rfl) ?_
  simp only [Act.put, List.setIfInBounds_toArray, List.set_cons_zero, List.set_cons_succ]
  refine up_take (by exact (atS (atS (atS (atS (atS (atS at0))))))) (by kernel_rfl) (by exact fun _ _ _ h => h) (by rfl) (by intro W hW; have q := cell_up C1.out (Kept.trans kl hW) id; go_simp; try with_reducible rfl) ?_
  simp only [Act.put, List.setIfInBounds_toArray, List.set_cons_zero, List.set_cons_succ]
  refine up_take (by exact (atS (atS (atS (atS (atS (atS (atS (atS at0))))))))) (by kernel_rfl) (by exact fun _ _ _ h => h) (by rfl) (by intro W hW; go_simp; try with_reducible rfl) ?_
  simp only [Act.put, List.setIfInBounds_toArray, List.set_cons_zero, List.set_cons_succ]
  refine up_take (by exact (atS (atS (atS (atS (atS (atS (atS (atS (atS at0)))))))))) (by kernel_rfl) (by exact fun _ _ _ h => h) (by rfl) (by intro W hW; have q := cell_up C0.out (Kept.trans kl hW) id; go_simp; try with_reducible rfl) ?_
  simp only [Act.put, List.setIfInBounds_toArray, List.set_cons_zero, List.set_cons_succ]
  refine up_take (by exact (atS (atS (atS (atS (atS (atS (atS (atS (atS (atS at0))))))))))) (by kernel_rfl) (by exact fun _ _ _ h => h) (by rfl) (by intro W hW; go_simp; try with_reducible rfl) ?_
  simp only [Act.put, List.setIfInBounds_toArray, List.set_cons_zero, List.set_cons_succ]
  refine up_take (by exact (atS (atS (atS (atS (atS (atS (atS (atS (atS (atS (atS at0)))))))))))) (by kernel_rfl) (by exact fun _ _ _ h => h) (by rfl) (by intro W hW; have q := cell_up C1.out (Kept.trans kl hW) id; go_simp; try with_reducible rfl) ?_
  simp only [Act.put, List.setIfInBounds_toArray, List.set_cons_zero, List.set_cons_succ]
  refine up_one (by exact (atS (atS (atS (atS (atS (atS (atS at0)))))))) (by kernel_rfl) (fun K hK => ?_)
  go_simp
  refine (days_any _ _ _).mono ?_
  rintro e w9 ⟨rfl, rfl⟩
  refine hK.out _ _ (Kept.refl _ _) ?_
  clear hK K
  refine up_one (by exact (atS (atS (atS (atS (atS (atS (atS (atS (atS (atS (atS (atS at0))))))))))))) (by kernel_rfl) (fun K hK => ?_)
  go_simp
  refine (rdays_any _ _ _).mono ?_
  rintro e w9 ⟨rfl, rfl⟩
  refine hK.out _ _ (Kept.refl _ _) ?_
  clear hK K
  refine up_take (by exact (atS (atS (atS (atS (atS (atS (atS (atS (atS (atS (atS (atS (atS at0)))))))))))))) (by kernel_rfl) (by exact fun _ _ _ h => h) (by rfl) (by intro W hW; go_simp; try with_reducible rfl) ?_
  simp only [Act.put, List.setIfInBounds_toArray, List.set_cons_zero, List.set_cons_succ]
  refine up_take (by exact (atS (atS (atS (atS (atS (atS (atS (atS (atS (atS (atS (atS (atS (atS at0))))))))))))))) (by kernel_rfl) (by exact fun _ _ _ h => h) (by rfl) (by intro W hW; go_simp; try with_reducible rfl) ?_
  simp only [Act.put, List.setIfInBounds_toArray, List.set_cons_zero, List.set_cons_succ]
  refine up_done (by kernel_rfl) ?_
  have c0 : (wl).cell? ⟨w.heap.size, 0, none⟩ = some (.int .i64 y) := Blk.cell D2.out 0
  have c1 : (wl).cell? ⟨w.heap.size, 1, none⟩ = some (.int .i64 m) := Blk.cell D2.out 1
  have c2 : (wl).cell? ⟨w.heap.size, 2, none⟩ = some (.int .i64 d) := Blk.cell D2.out 2
  have c3 : (wl).cell? ⟨w.heap.size, 3, none⟩ = some (.int .i64 h) := Blk.cell D2.out 3
  have c4 : (wl).cell? ⟨w.heap.size, 4, none⟩ = some (.int .i64 mi) := Blk.cell D2.out 4
  have c5 : (wl).cell? ⟨w.heap.size, 5, none⟩ = some (.int .i64 s) := Blk.cell D2.out 5
  go_wp2_with fail
  refine (rcheck_ok y m d h mi s _ HK.out).mono ?_
  rintro e w3 ⟨rfl, b3⟩
  have D3 : Hid (Blk w3 w.heap.size 23 #[.int .i64 y, .int .i64 m, .int .i64 d, .int .i64 h, .int .i64 mi, .int .i64 s]) := Lib.hid (D2.out.below b3 D2.out.lt)
  have hb3 : Below w.heap.size w w3 := BL.out.trans (b3.mono BL.out.size)
  clear c0 c1 c2 c3 c4 c5
  clear b3
  go_wp2_with fail
  refine (HO.out _).mono ?_
  rintro e w4 ⟨rfl, b4⟩
  have hb4 : Below w.heap.size w w4 := hb3.trans (b4.mono hb3.size)
  have D4 : Hid (Blk w4 w.heap.size 23 #[.int .i64 y, .int .i64 m, .int .i64 d, .int .i64 h, .int .i64 mi, .int .i64 s]) := Lib.hid (D3.out.below b4 D3.out.lt)
  have hlt4 := D4.out.lt
  have c0 : (w4).cell? ⟨w.heap.size, 0, none⟩ = some (.int .i64 y) := Blk.cell D4.out 0
  have c1 : (w4).cell? ⟨w.heap.size, 1, none⟩ = some (.int .i64 m) := Blk.cell D4.out 1
  have c2 : (w4).cell? ⟨w.heap.size, 2, none⟩ = some (.int .i64 d) := Blk.cell D4.out 2
  have c3 : (w4).cell? ⟨w.heap.size, 3, none⟩ = some (.int .i64 h) := Blk.cell D4.out 3
  have c4 : (w4).cell? ⟨w.heap.size, 4, none⟩ = some (.int .i64 mi) := Blk.cell D4.out 4
  have c5 : (w4).cell? ⟨w.heap.size, 5, none⟩ = some (.int .i64 s) := Blk.cell D4.out 5
  clear b4
  go_wp2_with fail
  refine (check_ok y m d h mi s _ HK.out).mono ?_
  rintro e w5 ⟨rfl, b5⟩
  have hx4 := Blk.fresh w4 23 #[.int .i64 y, .int .i64 m, .int .i64 d, .int .i64 h, .int .i64 mi, .int .i64 s]
  have D5 : Hid (Blk w5 w.heap.size 23 #[.int .i64 y, .int .i64 m, .int .i64 d, .int .i64 h, .int .i64 mi, .int .i64 s]) := Lib.hid ((D4.out.alloc _).below b5 (by simp; omega))
  have X5 : Hid (Blk w5 w4.heap.size 23 #[.int .i64 y, .int .i64 m, .int .i64 d, .int .i64 h, .int .i64 mi, .int .i64 s]) := Lib.hid (hx4.below b5 (by simp))
  have hb5 : Below w.heap.size w w5 := (hb4.alloc hb4.size _).trans (b5.mono (hb4.alloc hb4.size _).size)
  clear c0 c1 c2 c3 c4 c5
  have c0 : (w5).cell? ⟨w.heap.size, 0, none⟩ = some (.int .i64 y) := Blk.cell D5.out 0
  have c1 : (w5).cell? ⟨w.heap.size, 1, none⟩ = some (.int .i64 m) := Blk.cell D5.out 1
  have c2 : (w5).cell? ⟨w.heap.size, 2, none⟩ = some (.int .i64 d) := Blk.cell D5.out 2
  have c3 : (w5).cell? ⟨w.heap.size, 3, none⟩ = some (.int .i64 h) := Blk.cell D5.out 3
  have c4 : (w5).cell? ⟨w.heap.size, 4, none⟩ = some (.int .i64 mi) := Blk.cell D5.out 4
  have c5 : (w5).cell? ⟨w.heap.size, 5, none⟩ = some (.int .i64 s) := Blk.cell D5.out 5
  clear b5 hx4
  go_wp2_with fail
  refine (HM2.out _).mono ?_
  rintro e w6 ⟨rfl, b6⟩
  have D6 : Hid (Blk w6 w.heap.size 23 #[.int .i64 y, .int .i64 m, .int .i64 d, .int .i64 h, .int .i64 mi, .int .i64 s]) := Lib.hid (D5.out.below b6 D5.out.lt)
  have X6 : Hid (Blk w6 w4.heap.size 23 #[.int .i64 y, .int .i64 m, .int .i64 d, .int .i64 h, .int .i64 mi, .int .i64 s]) := Lib.hid (X5.out.below b6 X5.out.lt)
  have hb6 : Below w.heap.size w w6 := hb5.trans (b6.mono hb5.size)
  clear c0 c1 c2 c3 c4 c5
  have c0 : (w6).cell? ⟨w.heap.size, 0, none⟩ = some (.int .i64 y) := Blk.cell D6.out 0
  have c1 : (w6).cell? ⟨w.heap.size, 1, none⟩ = some (.int .i64 m) := Blk.cell D6.out 1
  have c2 : (w6).cell? ⟨w.heap.size, 2, none⟩ = some (.int .i64 d) := Blk.cell D6.out 2
  have c3 : (w6).cell? ⟨w.heap.size, 3, none⟩ = some (.int .i64 h) := Blk.cell D6.out 3
  have c4 : (w6).cell? ⟨w.heap.size, 4, none⟩ = some (.int .i64 mi) := Blk.cell D6.out 4
  have c5 : (w6).cell? ⟨w.heap.size, 5, none⟩ = some (.int .i64 s) := Blk.cell D6.out 5
  have x0 : (w6).cell? ⟨w4.heap.size, 0, none⟩ = some (.int .i64 y) := Blk.cell X6.out 0
  have x1 : (w6).cell? ⟨w4.heap.size, 1, none⟩ = some (.int .i64 m) := Blk.cell X6.out 1
  have x2 : (w6).cell? ⟨w4.heap.size, 2, none⟩ = some (.int .i64 d) := Blk.cell X6.out 2
  have x3 : (w6).cell? ⟨w4.heap.size, 3, none⟩ = some (.int .i64 h) := Blk.cell X6.out 3
  have x4 : (w6).cell? ⟨w4.heap.size, 4, none⟩ = some (.int .i64 mi) := Blk.cell X6.out 4
  have x5 : (w6).cell? ⟨w4.heap.size, 5, none⟩ = some (.int .i64 s) := Blk.cell X6.out 5
  clear b6
  go_wp2_with fail
  go_ret
  exact ⟨rfl, hb6⟩

theorem dmom_any (y m d h mi s : Int) (w : World) (hT : Tab w) : Calls Tryd.prog 3 #[.agg #[.int .i64 y, .int .i64 m, .int .i64 d, .int .i64 h, .int .i64 mi, .int .i64 s]] w (Holds w) := by
  by_cases hk : okD y m d h mi s
  · exact dmom_ok y m d h mi s w hT hk
  · exact dmom_no y m d h mi s w hT hk
end Go.Proofs.YtjflfennmeackabDoor
